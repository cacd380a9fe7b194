/- The law ShelfRooms: its walk. -/
import Derived.Test.YthefledeoiegjaaRmw
namespace Go.Proofs.Ythefledeoiegjaa
open Go.RowKit

set_option maxRecDepth 100000 in
set_option maxHeartbeats 8000000 in
theorem law_shelfRooms (z : Int) (a : Option Addr) (c : Nat) (F : List Int) (b : Option Addr) (d : Nat) (G : List Int) (w : World) (_ : (Lit.int .i64 z).wf = true) (hF : rowInts w a c F) (hG : rowInts w b d G) :
    Calls Try.prog 4 #[.int .i64 z, .slice a F.length c, .slice b G.length d] w fun e w' => e = .returned (.bool true) ∧ Below w.heap.size w w' := by
  have HF := Lib.hid hF.2.2.2
  have HG := Lib.hid hG.2.2.2
  have hFl : (F.length : Int) ≤ 9223372036854775807 := by have := hF.1; have := hF.2.1; omega
  have hGl : (G.length : Int) ≤ 9223372036854775807 := by have := hG.1; have := hG.2.1; omega
  clear hF hG
  obtain ⟨R, hR, hR3⟩ := modq z 3000 (by decide) (by decide)
  have HR := Lib.hid hR
  clear hR
  go_enter Try.func4, Try.ntmps4
  go_upto_region 1 with fail
  go_cut [0] (fun v wx => v = .int .i64 (R : Int) ∧ w = wx)
  case first =>
    go_wp2_with fail
    go_meet
    case rel => exact ⟨by rw [← HR.out], rfl⟩
  obtain ⟨rfl, rfl⟩ := hcut
  clear HR
  go_upto_region 2 with fail
  have NW := Lib.hid (new_any (R : Int) w (by omega) (by omega))
  go_wp2_with fail
  with_reducible refine NW.out.mono ?_
  rintro e w1 ⟨k, rfl, h1, b1⟩
  have H1 := Lib.hid h1
  have B1 := Lib.hid b1
  clear h1 b1 NW
  have ST := Lib.hid (stands_any w1)
  go_wp2_with fail
  with_reducible refine ST.out.mono ?_
  rintro e w2 ⟨rfl, k2⟩
  have H2 : Hid (ShAt w2 w.heap.size k none (onR R [] (0 : Nat))) := Lib.hid (H1.out.below k2)
  have B2 := Lib.hid (B1.out.trans (k2.mono B1.out.size))
  clear k2 H1 B1 ST
  go_wp2_with fail
  go_loopw [9, 10, 11] (fun u th i wr => ∃ (n : Nat) (m : Option Nat) (L : List Ent) (T : List Nat) (t : Nat), n ≤ 26 ∧ n ≤ F.length ∧ i = .int .i64 n ∧ u = .int .i64 (sizeSum L : Nat) ∧ Hid (RmOk R L T n) ∧ t ≤ 2 * n ∧ Hid (ShAt wr w.heap.size k m (onR R L (t : Nat))) ∧ Hid (rowV wr w.heap.size 3 th (ivals T)) ∧ Hid (Below w.heap.size w wr)) (fun _ _ i _ => 26 - (intOf i).toNat)
  case atStart => exact ⟨0, none, [], [], 0, by omega, by omega, rfl, rfl, Lib.hid ⟨rfl, List.nodup_nil, (fun x hx => by cases hx), (by simp [sizeSum])⟩, by omega, H2, Lib.hid (rowV.nil _ _ _), B2⟩
  case round =>
    obtain ⟨n, m, L, T, t, hn26, hnF, rfl, rfl, HO, ht, HS, HV, HB⟩ := hrel
    clear H2 B2
    obtain ⟨ta, tc, rfl, htc, -, hz0⟩ := HV.out.vals
    rw [ivals_length] at HV ⊢
    clear htc
    by_cases hgo : n < F.length ∧ n < 26
    · obtain ⟨hnF2, hn⟩ := hgo
      have q1 : (n : Int) < (F.length : Int) := by omega
      have q2 : (n : Int) < 26 := by omega
      have p0 : (0 : Int) ≤ (n : Int) := by omega
      obtain ⟨zb, zo, rfl, hck⟩ := HF.out.at n (by rw [zvals_length]; exact hnF2)
      obtain ⟨y, hy⟩ : ∃ y, y = F.getD n 0 := ⟨_, rfl⟩
      have c1 : wr.cell? ⟨zb, zo + n, none⟩ = some (.int .i64 y) := by
        rw [HB.out.cell (block_lt_of_cell hck), hck, hy]
        simp [zvals, hnF2]
      clear hck hy
      obtain ⟨sz, hsz, hs15⟩ := modq y 1500 (by decide) (by decide)
      have HSZ := Lib.hid hsz
      clear hsz
      go_upto_region 10 with fail
      go_cut [12] (fun v wx => v = .int .i64 (sz : Int) ∧ wr = wx)
      case first =>
        go_wp2_with fail
        go_meet
        case rel => exact ⟨by rw [← HSZ.out], rfl⟩
      obtain ⟨rfl, rfl⟩ := hcut
      clear c1 HSZ q1 q2
      have bn := byte_nm hn
      obtain ⟨bt, hbt⟩ : ∃ bt, bt = UInt8.ofNat (97 + n) := ⟨_, rfl⟩
      have HNM : Hid (nm n = [bt]) := Lib.hid (by rw [hbt]; rfl)
      rw [← hbt] at bn
      clear hbt
      have LB := Lib.hid (blockIs.new wr [.int .u8 (V bt)] 5)
      have LK := Lib.hid (alloc_below wr (.cells #[.int .u8 (V bt)] 5 (0, 0)))
      have cv : (convert 34 9 (.slice (some ⟨wr.heap.size, 0, none⟩) 1 1)).run Try.prog (wr.alloc (.cells #[.int .u8 (V bt)] 5 (0, 0))) = .ok (.string (str (nm n))) (wr.alloc (.cells #[.int .u8 (V bt)] 5 (0, 0))) := by
        rw [HNM.out]
        exact conv_string _ (some ⟨wr.heap.size, 0, none⟩) [bt] 1 (.inr ⟨_, _, rfl, fun j hj => by
          obtain rfl : j = 0 := by simp at hj; exact hj
          rw [LB.out.cell]; rfl⟩)
      go_upto_region 11 with fail
      go_cut [13] (fun v wx => v = .string (str (nm n)) ∧ Hid (Below wr.heap.size wr wx))
      case first =>
        go_wp2_with fail
        go_meet
        case rel => exact ⟨rfl, LK⟩
      obtain ⟨rfl, HK⟩ := hcut
      rename World => v1
      clear LB LK cv bn HNM
      have HS1 := Lib.hid (HS.out.below HK.out)
      have HV1 := Lib.hid (HV.out.below HK.out (Nat.le_refl _))
      have HB1 := Lib.hid (HB.out.trans (HK.out.mono HB.out.size))
      clear HS HV HB HK
      obtain ⟨h, hh⟩ : ∃ h, h = sz / 2 := ⟨_, rfl⟩
      obtain ⟨h2, hh2⟩ : ∃ h2, h2 = sz - sz / 2 := ⟨_, rfl⟩
      have HQ : Hid (wrap64 ((sz : Int) / 2) = (h : Int) ∧ (sz : Int) / 2 = (h : Int)) := Lib.hid (by unfold wrap64; omega)
      have HQ2 : Hid (wrap64 ((sz : Int) - (h : Int)) = (h2 : Int) ∧ (sz : Int) - (h : Int) = (h2 : Int)) := Lib.hid (by unfold wrap64; omega)
      have HSUM : Hid (h + h2 = sz) := Lib.hid (by omega)
      have m1 := fun wx => make_bytes h wx (by omega)
      have m2 := fun wx => make_bytes h2 wx (by omega)
      clear hh hh2
      obtain ⟨E, L2, T2, t2, hE, hS, hcase⟩ : ∃ (E : Int) (L2 : List Ent) (T2 : List Nat) (t2 : Nat), putE (onR R L (t : Nat)) (nm n) (List.replicate sz 0) = E ∧ putS (onR R L (t : Nat)) (nm n) (List.replicate sz 0) = onR R L2 (t2 : Nat) ∧
          ((E = 8 ∧ T2 = T ∧ sizeSum L2 = sizeSum L ∧ R < sizeSum L + sz) ∨ (E = 0 ∧ T2 = T ++ [n] ∧ sizeSum L2 = sizeSum L + sz ∧ ¬ R < sizeSum L + sz)) ∧ Hid (RmOk R L2 T2 (n + 1)) ∧ t2 ≤ t + 1 := by
        have e := HO.out.putE (n := sz) (t : Nat) hn (by omega) (List.replicate sz 0) (by simp)
        by_cases hc : R < sizeSum L + sz
        · rw [if_pos hc] at e
          exact ⟨8, L, T, t, e, HO.out.putS_no _ hn (by omega) _ (by simp) hc, .inl ⟨rfl, rfl, rfl, hc⟩, Lib.hid HO.out.up, by omega⟩
        · rw [if_neg hc] at e
          obtain ⟨s1, s2, s3⟩ := HO.out.putS_yes (n := sz) (t : Nat) hn (by omega) (List.replicate sz 0) (by simp) hc
          exact ⟨0, _, T ++ [n], t + 1, e, s1.trans (by simp), .inr ⟨rfl, rfl, s3, hc⟩, Lib.hid s2, by omega⟩
      obtain ⟨hcs, HO2, ht2⟩ := hcase
      have HCS := Lib.hid hcs
      clear hcs
      have HLN : Hid (sizeSum L ≤ 1000000000 ∧ L.length ≤ 900000) := Lib.hid (by have := HO.out.size; have := HO.out.len; have := HO.out.few; omega)
      have PUT : Hid (∀ X (ga gb gl : Nat), Below v1.heap.size v1 X → (∀ m' w', Step k m X m' w' → partsIn w' (some ⟨gl, 0, none⟩) [(some ⟨ga, 0, none⟩, h, List.replicate h 0), (some ⟨gb, 0, none⟩, h2, List.replicate h2 0)]) →
          Calls Try.prog 8 #[.pointer (some ⟨k, 0, none⟩), .string (str (nm n)), .slice (some ⟨gl, 0, none⟩) 2 2] X fun e w' => e = .returned (.int .i64 E) ∧ ∃ m', ShAt w' w.heap.size k m' (onR R L2 (t2 : Nat)) ∧ Step k m X m' w') := Lib.hid (fun X ga gb gl hX hp => by
        have P := put_any w.heap.size k m (onR R L (t : Nat)) (nm n) (some ⟨gl, 0, none⟩) [(some ⟨ga, 0, none⟩, h, List.replicate h 0), (some ⟨gb, 0, none⟩, h2, List.replicate h2 0)] 2 X (HS1.out.below hX) (onR_ok R L _ (by omega) (by omega) (by omega)) (by simp [nm]) (by rw [join_two]; simp; have := HSUM.out; omega) (by simp) HLN.out.1 HLN.out.2 hp
        rw [join_two, HSUM.out, hE, hS] at P
        exact P)
      clear hE hS
      go_upto_region 12 with fail
      have hB := below_drewN (Below.refl v1.heap.size v1) 1
      refine wp_region_noPanic ?_
      refine wp_region_held_drew (S := fun _ => True) (by kernel_rfl) True.intro (fun hH => ?_)
      change Below v1.heap.size v1 v1.drew at hB
      generalize hy0 : v1.drew = y0 at *
      clear hy0
      refine wpAnyH_take (i := 0) (oi := { dst := some 56, op := Op.move (Operand.tmp 7), type := 27, pos := "more.go:19", after := #[], guard := none }) (v := .pointer (some ⟨k, 0, none⟩)) rfl (by kernel_rfl) (by kernel_rfl) (by kernel_rfl) (fun _ _ _ h => h) (Or.inl ⟨by rfl, fun wx hS => ?_⟩) hH ?_
      · go_simp
      simp only [Act.put, List.setIfInBounds_toArray, List.set_cons_zero, List.set_cons_succ]
      refine wpAnyH_take (i := 1) (oi := { dst := some 57, op := Op.move (Operand.tmp 13), type := 9, pos := "more.go:19", after := #[], guard := none }) (v := .string (str (nm n))) rfl (by kernel_rfl) (by kernel_rfl) (by kernel_rfl) (fun _ _ _ h => h) (Or.inl ⟨by rfl, fun wx hS => ?_⟩) hH ?_
      · go_simp
      simp only [Act.put, List.setIfInBounds_toArray, List.set_cons_zero, List.set_cons_succ]
      refine wpAnyH_take (i := 2) (oi := { dst := some 58, op := Op.move (Operand.tmp 12), type := 3, pos := "more.go:19", after := #[], guard := none }) (v := .int .i64 (sz : Int)) rfl (by kernel_rfl) (by kernel_rfl) (by kernel_rfl) (fun _ _ _ h => h) (Or.inl ⟨by rfl, fun wx hS => ?_⟩) hH ?_
      · go_simp
      simp only [Act.put, List.setIfInBounds_toArray, List.set_cons_zero, List.set_cons_succ]
      refine wpAnyH_take (i := 3) (oi := { dst := some 59, op := Op.binOp BinOp.quo 3 (Operand.tmp 58) (Operand.const (Value.int IntKind.i64 2)) 3, type := 3, pos := "more.go:19", after := #[{ on := 2, ground := Ground.data }], guard := none }) (v := .int .i64 (h : Int)) rfl (by kernel_rfl) (by kernel_rfl) (by kernel_rfl) (fun _ _ _ h => h) (Or.inl ⟨by rfl, fun wx hS => ?_⟩) hH ?_
      · have e2 := HQ.out.2; go_simp; exact IntWalk.i64_in _ (by omega)
      simp only [Act.put, List.setIfInBounds_toArray, List.set_cons_zero, List.set_cons_succ]
      refine wpAnyH_take (i := 5) (oi := { dst := some 61, op := Op.move (Operand.tmp 12), type := 3, pos := "more.go:19", after := #[], guard := none }) (v := .int .i64 (sz : Int)) rfl (by kernel_rfl) (by kernel_rfl) (by kernel_rfl) (fun _ _ _ h => h) (Or.inl ⟨by rfl, fun wx hS => ?_⟩) hH ?_
      · go_simp
      simp only [Act.put, List.setIfInBounds_toArray, List.set_cons_zero, List.set_cons_succ]
      refine wpAnyH_take (i := 6) (oi := { dst := some 62, op := Op.move (Operand.tmp 12), type := 3, pos := "more.go:19", after := #[], guard := none }) (v := .int .i64 (sz : Int)) rfl (by kernel_rfl) (by kernel_rfl) (by kernel_rfl) (fun _ _ _ h => h) (Or.inl ⟨by rfl, fun wx hS => ?_⟩) hH ?_
      · go_simp
      simp only [Act.put, List.setIfInBounds_toArray, List.set_cons_zero, List.set_cons_succ]
      refine wpAnyH_take (i := 7) (oi := { dst := some 63, op := Op.binOp BinOp.quo 3 (Operand.tmp 62) (Operand.const (Value.int IntKind.i64 2)) 3, type := 3, pos := "more.go:19", after := #[{ on := 6, ground := Ground.data }], guard := none }) (v := .int .i64 (h : Int)) rfl (by kernel_rfl) (by kernel_rfl) (by kernel_rfl) (fun _ _ _ h => h) (Or.inl ⟨by rfl, fun wx hS => ?_⟩) hH ?_
      · have e2 := HQ.out.2; go_simp; exact IntWalk.i64_in _ (by omega)
      simp only [Act.put, List.setIfInBounds_toArray, List.set_cons_zero, List.set_cons_succ]
      refine wpAnyH_take (i := 8) (oi := { dst := some 64, op := Op.binOp BinOp.sub 3 (Operand.tmp 61) (Operand.tmp 63) 3, type := 3, pos := "more.go:19", after := #[{ on := 5, ground := Ground.data }, { on := 7, ground := Ground.data }], guard := none }) (v := .int .i64 (h2 : Int)) rfl (by kernel_rfl) (by kernel_rfl) (by kernel_rfl) (fun _ _ _ h => h) (Or.inl ⟨by rfl, fun wx hS => ?_⟩) hH ?_
      · have e2 := HQ2.out.2; go_simp; exact IntWalk.i64_in _ (by omega)
      simp only [Act.put, List.setIfInBounds_toArray, List.set_cons_zero, List.set_cons_succ]
      revert hB
      revert hH
      refine join2 (Q := ?Q12) (H := fun ga gb wx => Below v1.heap.size v1 wx ∧ bytesIn wx (some ⟨ga, 0, none⟩) (List.replicate h 0) ∧ bytesIn wx (some ⟨gb, 0, none⟩) (List.replicate h2 0) ∧ v1.heap.size ≤ ga ∧ v1.heap.size ≤ gb) (fun REST => ?main12) ?rest12
      case main12 =>
        intro hH hB
        refine wpAnyH_ready (rs := [4, 9]) (by kernel_rfl) (by simp) ?_
        refine AllReadyH.cons (o := { dst := some 60, op := Op.makeSlice 34 (Operand.tmp 59) (Operand.tmp 59), type := 34, pos := "more.go:19", after := #[{ on := 3, ground := Ground.data }, { on := 3, ground := Ground.data }], guard := none }) rfl (fun KK hKK => ?_) (AllReadyH.cons (o := { dst := some 65, op := Op.makeSlice 34 (Operand.tmp 64) (Operand.tmp 64), type := 34, pos := "more.go:19", after := #[{ on := 8, ground := Ground.data }, { on := 8, ground := Ground.data }], guard := none }) rfl (fun KK hKK => ?_) AllReadyH.nil)
        · have kb := alloc_below y0 (.cells (zeroB h) 5 (0, 0))
          have q_ga := And.intro (made_in y0 h) hB.size
          replace hB := hB.trans (kb.mono hB.size)
          clear kb hH
          go_simp
          refine hKK.out _ _ True.intro (fun hH => ?_)
          clear hKK KK
          try simp only [Act.put, List.setIfInBounds_toArray, List.set_cons_zero, List.set_cons_succ]
          generalize y0.alloc (.cells (zeroB h) 5 (0, 0)) = y1 at *
          generalize y0.heap.size = ga at q_ga ⊢
          refine wpAnyH_ready (rs := [9]) (by kernel_rfl) (by simp) ?_
          refine AllReadyH.cons (o := { dst := some 65, op := Op.makeSlice 34 (Operand.tmp 64) (Operand.tmp 64), type := 34, pos := "more.go:19", after := #[{ on := 8, ground := Ground.data }, { on := 8, ground := Ground.data }], guard := none }) rfl (fun KK hKK => ?_) AllReadyH.nil
          have kb := alloc_below y1 (.cells (zeroB h2) 5 (0, 0))
          replace q_ga := And.intro (bytesIn.below q_ga.1 kb (Nat.le_refl _)) q_ga.2
          have q_gb := And.intro (made_in y1 h2) hB.size
          replace hB := hB.trans (kb.mono hB.size)
          clear kb hH
          go_simp
          refine hKK.out _ _ True.intro (fun hH => ?_)
          clear hKK KK
          try simp only [Act.put, List.setIfInBounds_toArray, List.set_cons_zero, List.set_cons_succ]
          generalize y1.alloc (.cells (zeroB h2) 5 (0, 0)) = y2 at *
          generalize y1.heap.size = gb at q_gb ⊢
          refine wpAnyH_listed (L2 := #[true, true, true, true, true, true, true, true, true, true, false, false, false]) (by kernel_rfl) ?_
          exact REST ga gb y2 ⟨hB, q_ga.1, q_gb.1, q_ga.2, q_gb.2⟩
        · have kb := alloc_below y0 (.cells (zeroB h2) 5 (0, 0))
          have q_gb := And.intro (made_in y0 h2) hB.size
          replace hB := hB.trans (kb.mono hB.size)
          clear kb hH
          go_simp
          refine hKK.out _ _ True.intro (fun hH => ?_)
          clear hKK KK
          try simp only [Act.put, List.setIfInBounds_toArray, List.set_cons_zero, List.set_cons_succ]
          generalize y0.alloc (.cells (zeroB h2) 5 (0, 0)) = y1 at *
          generalize y0.heap.size = gb at q_gb ⊢
          refine wpAnyH_ready (rs := [4]) (by kernel_rfl) (by simp) ?_
          refine AllReadyH.cons (o := { dst := some 60, op := Op.makeSlice 34 (Operand.tmp 59) (Operand.tmp 59), type := 34, pos := "more.go:19", after := #[{ on := 3, ground := Ground.data }, { on := 3, ground := Ground.data }], guard := none }) rfl (fun KK hKK => ?_) AllReadyH.nil
          have kb := alloc_below y1 (.cells (zeroB h) 5 (0, 0))
          replace q_gb := And.intro (bytesIn.below q_gb.1 kb (Nat.le_refl _)) q_gb.2
          have q_ga := And.intro (made_in y1 h) hB.size
          replace hB := hB.trans (kb.mono hB.size)
          clear kb hH
          go_simp
          refine hKK.out _ _ True.intro (fun hH => ?_)
          clear hKK KK
          try simp only [Act.put, List.setIfInBounds_toArray, List.set_cons_zero, List.set_cons_succ]
          generalize y1.alloc (.cells (zeroB h) 5 (0, 0)) = y2 at *
          generalize y1.heap.size = ga at q_ga ⊢
          refine wpAnyH_listed (L2 := #[true, true, true, true, true, true, true, true, true, true, false, false, false]) (by kernel_rfl) ?_
          exact REST ga gb y2 ⟨hB, q_ga.1, q_gb.1, q_ga.2, q_gb.2⟩
      case rest12 =>
        rintro ga gb y2 ⟨hB, i1, i2, lo1, lo2⟩
        have hH : True := True.intro
        refine wpAnyH_ready (rs := [10]) (by kernel_rfl) (by simp) ?_
        refine AllReadyH.cons (o := { dst := some 66, op := Op.buildSlice 51 2 #[(0, Operand.tmp 60), (1, Operand.tmp 65)], type := 51, pos := "more.go:19", after := #[{ on := 4, ground := Ground.data }, { on := 9, ground := Ground.data }], guard := none }) rfl (fun KK hKK => ?_) AllReadyH.nil
        have kb := alloc_below y2 (.cells #[.slice (some ⟨ga, 0, none⟩) h h, .slice (some ⟨gb, 0, none⟩) h2 h2] 34 (0, 0))
        have iv := vals_lit y2 [.slice (some ⟨ga, 0, none⟩) h h, .slice (some ⟨gb, 0, none⟩) h2 h2] 34
        have lo3 := hB.size
        replace i1 := bytesIn.below i1 kb (Nat.le_refl _)
        replace i2 := bytesIn.below i2 kb (Nat.le_refl _)
        replace hB := hB.trans (kb.mono hB.size)
        clear hH kb
        go_simp
        refine hKK.out _ _ True.intro (fun hH => ?_)
        clear hKK KK
        try simp only [Act.put, List.setIfInBounds_toArray, List.set_cons_zero, List.set_cons_succ]
        change valsIn (y2.alloc (.cells #[.slice (some ⟨ga, 0, none⟩) h h, .slice (some ⟨gb, 0, none⟩) h2 h2] 34 (0, 0))) _ _ at iv
        generalize y2.alloc (.cells #[.slice (some ⟨ga, 0, none⟩) h h, .slice (some ⟨gb, 0, none⟩) h2 h2] 34 (0, 0)) = y3 at *
        generalize y2.heap.size = gl at iv lo3 ⊢
        have hkl := HS1.out.is.lt
        have P1 := Lib.hid (PUT.out y3 ga gb gl hB (two_parts (HS1.out.below hB) i1 i2 iv (by omega) (by omega) (by omega)))
        have HV3 := HV1.out.below hB (Nat.le_refl _)
        have HS3 := HS1.out.below hB
        clear i1 i2 iv lo1 lo2 lo3 hkl
        refine wpAnyH_ready (rs := [11]) (by kernel_rfl) (by simp) ?_
        refine AllReadyH.cons (o := { dst := some 67, op := Op.call { callee := Callee.value (Operand.func 8), args := #[Operand.tmp 56, Operand.tmp 57, Operand.tmp 66], argTypes := #[27, 9, 51] }, type := 28, pos := "more.go:19", after := #[{ on := 0, ground := Ground.data }, { on := 1, ground := Ground.data }, { on := 10, ground := Ground.data }], guard := none }) rfl (fun KK hKK => ?_) AllReadyH.nil
        go_simp
        with_reducible refine P1.out.mono ?_
        rintro e y4 ⟨rfl, m4, hS4, hst⟩
        have HV4 := HS3.keeps_row hst HV3
        have HBX := (HB1.out.trans (hB.mono HB1.out.size)).trans (HS3.step_below hst)
        refine hKK.out _ _ True.intro (fun hH => ?_)
        clear hKK KK
        try simp only [Act.put, List.setIfInBounds_toArray, List.set_cons_zero, List.set_cons_succ]
        refine wpAnyH_ready (rs := [12]) (by kernel_rfl) (by simp) ?_
        refine AllReadyH.cons (o := { dst := some 14, op := Op.assign (Operand.tmp 67), type := 28, pos := "more.go:19", after := #[{ on := 11, ground := Ground.data }, { on := 11, ground := Ground.chain }, { on := 0, ground := Ground.phase }, { on := 1, ground := Ground.phase }, { on := 2, ground := Ground.phase }, { on := 3, ground := Ground.phase }, { on := 4, ground := Ground.phase }, { on := 5, ground := Ground.phase }, { on := 6, ground := Ground.phase }, { on := 7, ground := Ground.phase }, { on := 8, ground := Ground.phase }, { on := 9, ground := Ground.phase }, { on := 10, ground := Ground.phase }, { on := 11, ground := Ground.phase }], guard := none }) rfl (fun KK hKK => ?_) AllReadyH.nil
        go_simp
        refine hKK.out _ _ True.intro (fun hH => ?_)
        clear hKK KK
        try simp only [Act.put, List.setIfInBounds_toArray, List.set_cons_zero, List.set_cons_succ]
        refine wpAnyH_done (by kernel_rfl) ?_ _
        refine NoPanic.normal ?_
        have HS4 := Lib.hid hS4
        have HV4 := Lib.hid HV4
        have HB4 := Lib.hid HBX
        have HRU : Hid (sizeSum L ≤ R ∧ sizeSum L2 ≤ R) := Lib.hid ⟨HO.out.size, HO2.out.size⟩
        have USE := Lib.hid (used_any w.heap.size k m4 (onR R L2 (t2 : Nat)) y4 HS4.out (by show sizeSum L2 ≤ _; have := HRU.out.2; omega))
        have HTL := Lib.hid (HO2.out.few)
        clear hS4 HBX hst hB HS3 HV3 P1 PUT HSUM HQ HQ2 m1 m2 HS1 HV1 HB1 HLN hH
        change Hid (Calls _ _ _ _ fun e w' => e = .returned (.int .i64 (sizeSum L2 : Nat)) ∧ _) at USE
        obtain ⟨u2, hu2⟩ : ∃ u2, u2 = sizeSum L2 := ⟨_, rfl⟩
        rw [← hu2] at USE HCS HRU
        have HU2 := Lib.hid hu2
        clear hu2
        generalize sizeSum L = u at *
        go_upto_region 13 with fail
        go_cut [14, 85] (fun v v85 wx => v = .int .i64 E ∧ v85 = .bool false ∧ Hid (Below y4.heap.size y4 wx))
        case first =>
          have hsub : wrap64 ((R : Int) - (u : Int)) = (R : Int) - (u : Int) := by have := HRU.out; unfold wrap64; omega
          rcases HCS.out with ⟨rfl, -, h2, h3⟩ | ⟨rfl, -, h2, h3⟩
          · have q1 : ¬ (sz : Int) ≤ (R : Int) - (u : Int) := by omega
            rw [h2] at USE
            have HH := Lib.hid h3
            clear h2 h3 HCS HRU HU2
            go_wp2_with fail
            with_reducible refine USE.out.mono ?_
            rintro e w' ⟨rfl, kb⟩
            have KB := Lib.hid kb
            clear kb
            go_wp2_with fail
            go_meet
            case rel => exact ⟨rfl, rfl, KB⟩
          · have q1 : (sz : Int) ≤ (R : Int) - (u : Int) := by omega
            by_cases h0 : sz = 0
            · have e2 : u2 = u := by omega
              rw [e2] at USE
              clear h2 h3 HCS HRU HU2 e2 h0
              go_wp2_with fail
              with_reducible refine USE.out.mono ?_
              rintro e w' ⟨rfl, kb⟩
              have KB := Lib.hid kb
              clear kb
              go_wp2_with fail
              go_meet
              case rel => exact ⟨rfl, rfl, KB⟩
            · have q3 : ¬ (u2 : Int) = (u : Int) := by omega
              clear h2 h3 HCS HRU HU2 h0
              go_wp2_with fail
              with_reducible refine USE.out.mono ?_
              rintro e w' ⟨rfl, kb⟩
              have KB := Lib.hid kb
              clear kb
              go_wp2_with fail
              go_meet
              case rel => exact ⟨rfl, rfl, KB⟩
        obtain ⟨rfl, rfl, HK⟩ := hcut
        rename World => y5
        have HS5 := Lib.hid (HS4.out.below HK.out)
        have HV5 := Lib.hid (HV4.out.below HK.out (Nat.le_refl _))
        have HB5 := Lib.hid (HB4.out.trans (HK.out.mono HB4.out.size))
        clear HS4 HV4 HB4 HK USE
        have HZ0 := Lib.hid hz0
        clear hz0
        go_upto_if 87 with fail
        go_cut [9, 10] (fun va vb wx => va = .int .i64 (u2 : Int) ∧ ∃ tb2 tc2, vb = .slice tb2 T2.length tc2 ∧ Hid (tb2 = none → tc2 = 0) ∧ Hid (rowV wx w.heap.size 3 (.slice tb2 T2.length tc2) (ivals T2)) ∧ Hid (ShAt wx w.heap.size k m4 (onR R L2 (t2 : Nat))) ∧ Hid (Below w.heap.size w wx))
        case first =>
          rcases HCS.out with ⟨rfl, h1, h2, h3⟩ | ⟨rfl, h1, h2, h3⟩
          · have EU := Lib.hid h2
            have ET := Lib.hid h1
            clear h1 h2 h3 HCS
            go_wp2_with fail
            go_meet
            case rel => exact ⟨by rw [EU.out], ta, tc, by rw [ET.out], HZ0, by rw [ET.out]; exact HV5, HS5, HB5⟩
          · have hadd : wrap64 ((u : Int) + (sz : Int)) = (u2 : Int) := by have := HRU.out; unfold wrap64; omega
            have ET := Lib.hid h1
            clear h1 h2 h3 HCS
            have AL := Lib.hid (alloc_below y5 (.cells #[.int .i64 (n : Int)] 3 (0, 0)))
            have HV6 := Lib.hid (HV5.out.below AL.out (Nat.le_refl _))
            have HTN := Lib.hid (HO.out.few)
            go_wp2_with (at_builtin; refine append_vals rfl _ _ 24 3 rfl Try.underlying24 (.int .i64 0) 8 info_int rfl (by decide) w.heap.size _ (ivals T) rfl HV6.out (some ⟨y5.heap.size, 0, none⟩) 1 1 [.int .i64 (n : Int)] rfl rfl (fun h => by cases h) (vals_one _ _) (by simp [Value.oneCell']) (by rw [ivals_length]; have := HTN.out; simp; omega) (Nat.le_trans HB5.out.size AL.out.size) ?_)
            intro v' y6 hown hgr
            have HS6 := Lib.hid ((HS5.out.below AL.out).grown HV6.out hgr)
            have HB6 := Lib.hid ((HB5.out.trans (AL.out.mono HB5.out.size)).trans (HV6.out.grew (Nat.le_trans HB5.out.size AL.out.size) hgr))
            have hown : rowV y6 w.heap.size 3 v' (ivals (T ++ [n])) := by rw [ivals_append]; exact hown
            rw [← ET.out] at hown
            obtain ⟨na, nc, rfl, -, -, hz⟩ := hown.vals
            rw [ivals_length] at hown ⊢
            have HV7 := Lib.hid hown
            have HZ7 := Lib.hid hz
            clear hown hz hgr HS5 HV5 HV6 HB5 AL
            go_wp2_with fail
            go_meet
            case rel => exact ⟨rfl, na, nc, rfl, HZ7, HV7, HS6, HB6⟩
        obtain ⟨rfl, tb, tc2, rfl, HZ1, HV6, HS6, HB6⟩ := hcut
        rename World => y6
        clear HV5 HS5 HB5 HCS HZ0 HRU HO
        obtain ⟨go, hgo2⟩ : ∃ go : Bool, go = (decide (n < G.length) && decide (0 < T2.length)) := ⟨_, rfl⟩
        go_upto_region 18 with fail
        go_cut [103] (fun v wx => v = .bool go ∧ y6 = wx)
        case first =>
          by_cases q1 : n < G.length
          · have qa : (n : Int) < (G.length : Int) := by omega
            have EG : Hid (go = decide (0 < T2.length)) := Lib.hid (by rw [hgo2]; simp only [q1, decide_true, Bool.true_and])
            clear hgo2 q1
            go_wp2_with fail
            go_meet
            case rel => exact ⟨by rw [EG.out], rfl⟩
          · have qa : ¬ (n : Int) < (G.length : Int) := by omega
            have EG : Hid (go = false) := Lib.hid (by rw [hgo2]; simp only [q1, decide_false, Bool.false_and])
            clear hgo2 q1
            go_wp2_with fail
            go_meet
            case rel => exact ⟨by rw [EG.out], rfl⟩
        obtain ⟨rfl, rfl⟩ := hcut
        have HGO := Lib.hid hgo2
        clear hgo2
        go_upto_if 103 with fail
        go_cut [9, 10] (fun va vb wx => ∃ (m5 : Option Nat) (L3 : List Ent) (T3 : List Nat) (t3 : Nat), va = .int .i64 (sizeSum L3 : Nat) ∧ Hid (RmOk R L3 T3 (n + 1)) ∧ t3 ≤ t2 + 1 ∧ ∃ tb3 tc3, vb = .slice tb3 T3.length tc3 ∧ Hid (rowV wx w.heap.size 3 (.slice tb3 T3.length tc3) (ivals T3)) ∧ Hid (ShAt wx w.heap.size k m5 (onR R L3 (t3 : Nat))) ∧ Hid (Below w.heap.size w wx))
        case first =>
          cases go with
          | false =>
            go_wp2_with fail
            go_meet
            case rel => exact ⟨m4, L2, T2, t2, by rw [HU2.out], HO2, by omega, tb, tc2, rfl, HV6, HS6, HB6⟩
          | true =>
            have hq : n < G.length ∧ 0 < T2.length := by
              have := HGO.out
              simpa using this.symm
            obtain ⟨q1, q2⟩ := hq
            have HTN := Lib.hid (HO2.out.few)
            have qa : (n : Int) < (G.length : Int) := by omega
            obtain ⟨db, dO, rfl, hck⟩ := HG.out.at n (by rw [zvals_length]; exact q1)
            obtain ⟨y, hy⟩ : ∃ y, y = G.getD n 0 := ⟨_, rfl⟩
            have c1 : y6.cell? ⟨db, dO + n, none⟩ = some (.int .i64 y) := by
              rw [HB6.out.cell (block_lt_of_cell hck), hck, hy]
              simp [zvals, q1]
            clear hck hy
            have hT26 : T2.length ≤ 26 := by have := HTN.out; omega
            obtain ⟨kk, hkk, hk1⟩ := modq y T2.length (by omega) (by omega)
            have hkl : kk < T2.length := by omega
            have HKK := Lib.hid hkk
            have wl : IntKind.u64.wrap (T2.length : Int) = (T2.length : Int) := by rw [IntKind.wrap_u64]; omega
            have q0 : ¬ (T2.length : Int) = 0 := by omega
            have QL := Lib.hid q2
            clear hkk hk1 HTN q2 q1
            go_upto_region 19 with fail
            go_cut [15] (fun v wx => v = .int .i64 (kk : Int) ∧ y6 = wx)
            case first =>
              go_wp2_with fail
              go_meet
              case rel => exact ⟨by rw [← HKK.out], rfl⟩
            obtain ⟨rfl, rfl⟩ := hcut
            clear c1 HKK q0 wl qa
            have rm : Int.tmod (kk : Int) 2 = ((kk % 2 : Nat) : Int) := by rw [Int.tmod_eq_emod_of_nonneg (by omega)]; omega
            by_cases hev : kk % 2 = 0
            · rw [hev] at rm
              obtain ⟨x, hx⟩ : ∃ x, x = T2.getD kk 0 := ⟨_, rfl⟩
              have hx26 : x < 26 := by have := HO2.out.at_low hkl; omega
              have HAS : Hid (has L2 (nm x) = true) := Lib.hid (by rw [hx]; exact HO2.out.has_at hkl)
              have HDE : Hid (RmOk R (del L2 (nm x)) (T2.take kk ++ T2.drop (kk + 1)) (n + 1)) := Lib.hid (by rw [hx]; exact HO2.out.del (by omega) hkl)
              obtain ⟨tb', tc', e1, htl, hvv, -⟩ := HV6.out.vals
              rw [ivals_length] at e1 htl
              obtain ⟨rfl, -, rfl⟩ : tb = tb' ∧ True ∧ tc2 = tc' := by cases e1; exact ⟨rfl, True.intro, rfl⟩
              obtain ⟨bb, bo, rfl, hcx⟩ := hvv.at kk (by rw [ivals_length]; exact hkl)
              have c2 : y6.cell? ⟨bb, bo + kk, none⟩ = some (.int .i64 (x : Int)) := by
                rw [hcx, hx]
                simp [ivals, hkl]
              have HTL2 := Lib.hid htl
              clear hcx hvv e1 htl
              have qk : (kk : Int) < (T2.length : Int) := by omega
              have p1 : (0 : Int) ≤ (kk : Int) := by omega
              have bn := byte_nm hx26
              obtain ⟨bt, hbt⟩ : ∃ bt, bt = UInt8.ofNat (97 + x) := ⟨_, rfl⟩
              have HNM : Hid (nm x = [bt]) := Lib.hid (by rw [hbt]; rfl)
              rw [← hbt] at bn
              clear hbt
              have HX := Lib.hid hx
              clear hx
              have LB := Lib.hid (blockIs.new y6 [.int .u8 (V bt)] 5)
              have LK := Lib.hid (alloc_below y6 (.cells #[.int .u8 (V bt)] 5 (0, 0)))
              have cv : (convert 34 9 (.slice (some ⟨y6.heap.size, 0, none⟩) 1 1)).run Try.prog (y6.alloc (.cells #[.int .u8 (V bt)] 5 (0, 0))) = .ok (.string (str (nm x))) (y6.alloc (.cells #[.int .u8 (V bt)] 5 (0, 0))) := by
                rw [HNM.out]
                exact conv_string _ (some ⟨y6.heap.size, 0, none⟩) [bt] 1 (.inr ⟨_, _, rfl, fun j hj => by
                  obtain rfl : j = 0 := by simp at hj; exact hj
                  rw [LB.out.cell]; rfl⟩)
              go_upto_region 21 with fail
              go_cut [16] (fun v wx => v = .string (str (nm x)) ∧ Hid (Below y6.heap.size y6 wx))
              case first =>
                go_wp2_with fail
                go_meet
                case rel => exact ⟨rfl, LK⟩
              obtain ⟨rfl, HK⟩ := hcut
              rename World => z1
              clear LB LK cv bn HNM c2 rm
              have HS7 := Lib.hid (HS6.out.below HK.out)
              have HV7 := Lib.hid (HV6.out.below HK.out (Nat.le_refl _))
              have HB7 := Lib.hid (HB6.out.trans (HK.out.mono HB6.out.size))
              clear HS6 HV6 HB6 HK
              obtain ⟨d1, d2, d3, d4⟩ := del_on (R := R) (t2 : Nat) HAS.out
              have GT := Lib.hid (get_any w.heap.size k m4 (onR R L2 (t2 : Nat)) (nm x) z1 HS7.out)
              rw [d3, d4] at GT
              have D1 := Lib.hid d1
              have D2 := Lib.hid d2
              have DZ := Lib.hid (del_size (nm x) L2)
              clear d1 d2 d3 d4
              generalize (obOr (get L2 (nm x))).1 = gl at *
              go_upto_region 22 with fail
              go_wp2_with fail
              with_reducible refine GT.out.mono ?_
              rintro e z2 ⟨ga, gc, rfl, -, kb⟩
              have HS8 := Lib.hid (HS7.out.below kb)
              have HV8 := Lib.hid (HV7.out.below kb (Nat.le_refl _))
              have HB8 := Lib.hid (HB7.out.trans (kb.mono HB7.out.size))
              clear kb GT HS7 HV7 HB7
              have DL := Lib.hid (delete_any w.heap.size k m4 (onR R L2 (t2 : Nat)) (nm x) z2 HS8.out (onR_ok R L2 _ (by omega) (by omega) (by omega)))
              rw [D1.out, D2.out] at DL
              go_wp2_with fail
              with_reducible refine DL.out.mono ?_
              rintro e z3 ⟨rfl, m5, hS9, hst⟩
              have HS9 : Hid (ShAt z3 w.heap.size k m5 (onR R (del L2 (nm x)) ((t2 + 1 : Nat) : Int))) := Lib.hid (by rw [show (((t2 + 1 : Nat) : Int)) = (t2 : Int) + 1 by omega]; exact hS9)
              have HV9 := Lib.hid (HS8.out.keeps_row hst HV8.out)
              have HB9 := Lib.hid (HB8.out.trans (HS8.out.step_below hst))
              clear hS9 hst HS8 HV8 HB8 DL D1 D2
              obtain ⟨u3, hu3⟩ : ∃ u3, u3 = sizeSum (del L2 (nm x)) := ⟨_, rfl⟩
              have hsb : wrap64 ((u2 : Int) - (gl.length : Int)) = (u3 : Int) := by have := DZ.out; have := HU2.out; have := HDE.out.size; unfold wrap64; omega
              have HU3 := Lib.hid hu3
              clear hu3 DZ
              obtain ⟨ha, hc1, hh1, hh2, hh3⟩ := ints_head (some ⟨bb, bo, none⟩) T2.length tc2 kk (by omega) HTL2.out (fun h => by cases h)
              obtain ⟨k1, hk1⟩ : ∃ k1, k1 = kk + 1 := ⟨_, rfl⟩
              obtain ⟨la, lc1, ll1, ll2, ll3⟩ := ints_tail (some ⟨bb, bo, none⟩) T2.length tc2 k1 (by omega) HTL2.out (fun h => by cases h)
              have HH1 := Lib.hid hh1
              have LL1 := Lib.hid ll1
              obtain ⟨tb9, tc9, e9, -, hv9, -⟩ := HV9.out.vals
              rw [ivals_length] at e9
              have e10 : tb9 = some ⟨bb, bo, none⟩ := by cases e9; rfl
              rw [e10] at hv9
              clear e9 e10
              have VH : Hid (∀ Y, Below z3.heap.size z3 Y → valsIn Y ha (ivals (T2.take kk))) := Lib.hid (fun Y hY => by
                have := hh3 z3 (ivals T2) (ivals_length T2) hv9
                rw [show (ivals T2).take kk = ivals (T2.take kk) by simp [ivals]] at this
                exact this.below hY (Nat.le_refl _))
              have VL : Hid (∀ Y, Below z3.heap.size z3 Y → valsIn Y la (ivals (T2.drop k1))) := Lib.hid (fun Y hY => by
                have := ll3 z3 (ivals T2) (ivals_length T2) hv9
                rw [show (ivals T2).drop k1 = ivals (T2.drop k1) by simp [ivals]] at this
                exact this.below hY (Nat.le_refl _))
              have HHZ := Lib.hid hh2
              have LLZ := Lib.hid ll2
              have HLK : Hid ((ivals (T2.take kk)).length = kk ∧ (ivals (T2.drop k1)).length = T2.length - k1) := Lib.hid (by rw [ivals_length, ivals_length, List.length_take, List.length_drop]; omega)
              have HQ3 : Hid (IntKind.i64.wrap ((kk : Int) + 1) = (k1 : Int)) := Lib.hid (by rw [IntWalk.i64_in _ (by omega)]; omega)
              have HK1 := Lib.hid hk1
              clear hk1
              clear hh1 hh2 hh3 ll1 ll2 ll3 hv9 HAS HX
              go_upto_region 26 with fail
              refine wp_region_noPanic ?_
              refine wp_region_held_drew (S := fun _ => True) (by kernel_rfl) True.intro (fun hH => ?_)
              have k0 := below_drewN (Below.refl z3.heap.size z3) 1
              change Below z3.heap.size z3 z3.drew at k0
              have hs0 := HS9.out.below k0
              have hb0 := HB9.out.trans (k0.mono HB9.out.size)
              generalize hx0 : z3.drew = x0 at *
              clear hx0
              refine wpAnyH_take (i := 1) (oi := { dst := some 144, op := Op.move (Operand.tmp 10), type := 24, pos := "more.go:36", after := #[], guard := none }) (v := .slice (some ⟨bb, bo, none⟩) T2.length tc2) rfl (by kernel_rfl) (by kernel_rfl) (by kernel_rfl) (fun _ _ _ h => h) (Or.inl ⟨by rfl, fun wx hS => ?_⟩) hH ?_
              · go_simp
              simp only [Act.put, List.setIfInBounds_toArray, List.set_cons_zero, List.set_cons_succ]
              refine wpAnyH_take (i := 2) (oi := { dst := some 145, op := Op.move (Operand.tmp 15), type := 3, pos := "more.go:36", after := #[], guard := none }) (v := .int .i64 (kk : Int)) rfl (by kernel_rfl) (by kernel_rfl) (by kernel_rfl) (fun _ _ _ h => h) (Or.inl ⟨by rfl, fun wx hS => ?_⟩) hH ?_
              · go_simp
              simp only [Act.put, List.setIfInBounds_toArray, List.set_cons_zero, List.set_cons_succ]
              refine wpAnyH_take (i := 3) (oi := { dst := some 146, op := Op.slice 24 (Operand.tmp 144) none (some (Operand.tmp 145)) none, type := 24, pos := "more.go:36", after := #[{ on := 1, ground := Ground.data }, { on := 2, ground := Ground.data }], guard := none }) (v := .slice ha kk hc1) rfl (by kernel_rfl) (by kernel_rfl) (by kernel_rfl) (fun _ _ _ h => h) (Or.inl ⟨by rfl, fun wx hS => ?_⟩) hH ?_
              · have e1 := HH1.out wx; go_simp
              simp only [Act.put, List.setIfInBounds_toArray, List.set_cons_zero, List.set_cons_succ]
              refine wpAnyH_take (i := 5) (oi := { dst := some 148, op := Op.move (Operand.tmp 10), type := 24, pos := "more.go:36", after := #[], guard := none }) (v := .slice (some ⟨bb, bo, none⟩) T2.length tc2) rfl (by kernel_rfl) (by kernel_rfl) (by kernel_rfl) (fun _ _ _ h => h) (Or.inl ⟨by rfl, fun wx hS => ?_⟩) hH ?_
              · go_simp
              simp only [Act.put, List.setIfInBounds_toArray, List.set_cons_zero, List.set_cons_succ]
              refine wpAnyH_take (i := 6) (oi := { dst := some 149, op := Op.move (Operand.tmp 15), type := 3, pos := "more.go:36", after := #[], guard := none }) (v := .int .i64 (kk : Int)) rfl (by kernel_rfl) (by kernel_rfl) (by kernel_rfl) (fun _ _ _ h => h) (Or.inl ⟨by rfl, fun wx hS => ?_⟩) hH ?_
              · go_simp
              simp only [Act.put, List.setIfInBounds_toArray, List.set_cons_zero, List.set_cons_succ]
              refine wpAnyH_take (i := 7) (oi := { dst := some 150, op := Op.binOp BinOp.add 3 (Operand.tmp 149) (Operand.const (Value.int IntKind.i64 1)) 3, type := 3, pos := "more.go:36", after := #[{ on := 6, ground := Ground.data }], guard := none }) (v := .int .i64 (k1 : Int)) rfl (by kernel_rfl) (by kernel_rfl) (by kernel_rfl) (fun _ _ _ h => h) (Or.inl ⟨by rfl, fun wx hS => ?_⟩) hH ?_
              · have e1 := HQ3.out; go_simp
              simp only [Act.put, List.setIfInBounds_toArray, List.set_cons_zero, List.set_cons_succ]
              refine wpAnyH_take (i := 8) (oi := { dst := some 151, op := Op.slice 24 (Operand.tmp 148) (some (Operand.tmp 150)) none none, type := 24, pos := "more.go:36", after := #[{ on := 5, ground := Ground.data }, { on := 7, ground := Ground.data }], guard := none }) (v := .slice la (T2.length - k1) lc1) rfl (by kernel_rfl) (by kernel_rfl) (by kernel_rfl) (fun _ _ _ h => h) (Or.inl ⟨by rfl, fun wx hS => ?_⟩) hH ?_
              · have e1 := LL1.out wx; go_simp
              simp only [Act.put, List.setIfInBounds_toArray, List.set_cons_zero, List.set_cons_succ]
              refine wpAnyH_ready (rs := [0]) (by kernel_rfl) (by simp) ?_
              refine AllReadyH.cons (o := { dst := some 143, op := Op.buildSlice 24 0 #[], type := 24, pos := "more.go:36", after := #[], guard := none }) rfl (fun KK hKK => ?_) AllReadyH.nil
              have kb := alloc_below x0 (.cells #[] 3 (0, 0))
              have r1 := row_empty x0 z3.heap.size k0.size
              replace hs0 := hs0.below kb
              replace hb0 := hb0.trans (kb.mono hb0.size)
              replace k0 := k0.trans (kb.mono k0.size)
              clear hH kb
              go_simp
              refine hKK.out _ _ True.intro (fun hH => ?_)
              clear hKK KK
              try simp only [Act.put, List.setIfInBounds_toArray, List.set_cons_zero, List.set_cons_succ]
              change rowV (x0.alloc (.cells #[] 3 (0, 0))) _ _ _ _ at r1
              generalize x0.alloc (.cells #[] 3 (0, 0)) = x1 at *
              generalize x0.heap.size = lg at r1 ⊢
              refine wpAnyH_ready (rs := [4]) (by kernel_rfl) (by simp) ?_
              refine AllReadyH.cons (o := { dst := some 147, op := Op.call { callee := Callee.builtin Builtin.append, args := #[Operand.tmp 143, Operand.tmp 146], argTypes := #[24, 24] }, type := 24, pos := "more.go:36", after := #[{ on := 0, ground := Ground.data }, { on := 3, ground := Ground.data }], guard := none }) rfl (fun KK hKK => ?_) AllReadyH.nil
              refine step_append_vals rfl _ _ 24 3 rfl Try.underlying24 (.int .i64 0) 8 info_int rfl (by decide) z3.heap.size _ [] rfl r1 ha kk hc1 (ivals (T2.take kk)) HLK.out.1.symm rfl HHZ.out (VH.out x1 k0) (ivals_one _) (by have := HLK.out.1; simp only [List.length_nil]; omega) k0.size ?_
              intro v1 x2 r2 g2
              rw [List.nil_append] at r2
              replace hs0 := hs0.grown r1 g2
              have kb := r1.grew k0.size g2
              replace hb0 := hb0.trans (kb.mono HB9.out.size)
              replace k0 := k0.trans kb
              clear hH kb g2 r1
              refine hKK.out _ _ True.intro (fun hH => ?_)
              clear hKK KK
              try simp only [Act.put, List.setIfInBounds_toArray, List.set_cons_zero, List.set_cons_succ]
              refine wpAnyH_ready (rs := [9]) (by kernel_rfl) (by simp) ?_
              refine AllReadyH.cons (o := { dst := some 152, op := Op.call { callee := Callee.builtin Builtin.append, args := #[Operand.tmp 147, Operand.tmp 151], argTypes := #[24, 24] }, type := 24, pos := "more.go:36", after := #[{ on := 4, ground := Ground.data }, { on := 8, ground := Ground.data }, { on := 4, ground := Ground.chain }], guard := none }) rfl (fun KK hKK => ?_) AllReadyH.nil
              refine step_append_vals rfl _ _ 24 3 rfl Try.underlying24 (.int .i64 0) 8 info_int rfl (by decide) z3.heap.size _ (ivals (T2.take kk)) rfl r2 la (T2.length - k1) lc1 (ivals (T2.drop k1)) HLK.out.2.symm rfl LLZ.out (VL.out x2 k0) (ivals_one _) (by have := HLK.out.1; have := HLK.out.2; omega) k0.size ?_
              intro v2 x3 r3 g3
              rw [← ivals_append, HK1.out] at r3
              replace hs0 := hs0.grown r2 g3
              have kb := r2.grew k0.size g3
              replace hb0 := hb0.trans (kb.mono HB9.out.size)
              clear hH kb g3 r2 k0
              refine hKK.out _ _ True.intro (fun hH => ?_)
              clear hKK KK
              try simp only [Act.put, List.setIfInBounds_toArray, List.set_cons_zero, List.set_cons_succ]
              refine wpAnyH_ready (rs := [10]) (by kernel_rfl) (by simp) ?_
              refine AllReadyH.cons (o := { dst := some 10, op := Op.assign (Operand.tmp 152), type := 24, pos := "more.go:36", after := #[{ on := 9, ground := Ground.data }, { on := 9, ground := Ground.chain }, { on := 0, ground := Ground.phase }, { on := 1, ground := Ground.phase }, { on := 2, ground := Ground.phase }, { on := 3, ground := Ground.phase }, { on := 4, ground := Ground.phase }, { on := 5, ground := Ground.phase }, { on := 6, ground := Ground.phase }, { on := 7, ground := Ground.phase }, { on := 8, ground := Ground.phase }, { on := 9, ground := Ground.phase }], guard := none }) rfl (fun KK hKK => ?_) AllReadyH.nil
              go_simp
              refine hKK.out _ _ True.intro (fun hH => ?_)
              clear hKK KK
              try simp only [Act.put, List.setIfInBounds_toArray, List.set_cons_zero, List.set_cons_succ]
              refine wpAnyH_done (by kernel_rfl) ?_ _
              refine NoPanic.normal ?_
              obtain ⟨na, nc, rfl, -, -, -⟩ := r3.vals
              have r4 := r3.mono HB9.out.size
              rw [ivals_length] at r4 ⊢
              have HVF := Lib.hid r4
              have HSF := Lib.hid hs0
              have HBF := Lib.hid hb0
              clear r3 r4 hs0 hb0 hH
              go_wp2_with fail
              go_meet
              case rel => exact ⟨m5, del L2 (nm x), T2.take kk ++ T2.drop (kk + 1), t2 + 1, by rw [HU3.out], HDE, by omega, na, nc, rfl, HVF, HSF, HBF⟩
            · go_wp2_with fail
              go_meet
              case rel => exact ⟨m4, L2, T2, t2, by rw [HU2.out], HO2, by omega, tb, tc2, rfl, HV6, HS6, HB6⟩
        obtain ⟨m5, L3, T3, t3, rfl, HO3, ht3, tb3, tc3, rfl, HV7, HS7, HB7⟩ := hcut
        rename World => y7
        clear HV6 HS6 HB6 HZ1 HO2 HU2
        have USE := Lib.hid (used_any w.heap.size k m5 (onR R L3 (t3 : Nat)) y7 HS7.out (by show sizeSum L3 ≤ _; have := HO3.out.size; omega))
        change Hid (Calls _ _ _ _ fun e w' => e = .returned (.int .i64 (sizeSum L3 : Nat)) ∧ _) at USE
        go_upto_region 27 with fail
        go_wp2_with fail
        with_reducible refine USE.out.mono ?_
        rintro e y8 ⟨rfl, kb⟩
        have HV8 := Lib.hid (HV7.out.below kb (Nat.le_refl _))
        have HS8 := Lib.hid (HS7.out.below kb)
        have HB8 := Lib.hid (HB7.out.trans (kb.mono HB7.out.size))
        clear kb HV7 HS7 HB7 USE
        go_wp2_with fail
        go_roundw
        case rel => exact ⟨n + 1, m5, L3, T3, t3, by omega, by omega, by go_num, rfl, HO3, by omega, HS8, by rw [← ivals_length T3] at HV8; rw [← ivals_length T3]; exact HV8, HB8⟩
        case measure => simp [intOf]; omega
    · by_cases h12 : n < 26
      · have q2 : (n : Int) < 26 := by omega
        have q1 : ¬ (n : Int) < (F.length : Int) := by omega
        (as_aux_lemma =>
          obtain ⟨r1, hr1⟩ : ∃ r1, r1 = R + 1 := ⟨_, rfl⟩
          have hw1 : wrap64 ((R : Int) + 1) = (r1 : Int) := by unfold wrap64; omega
          have hw0 : (R : Int) + 1 = (r1 : Int) := by omega
          have m3 := fun wx => make_bytes r1 wx (by omega)
          have AL := alloc_below wr (.cells (zeroB r1) 5 (0, 0))
          have HLN : Hid (L.length ≤ 26 ∧ sizeSum L ≤ R) := Lib.hid (by have := HO.out.size; have := HO.out.len; have := HO.out.few; omega)
          obtain ⟨f1, f2⟩ := forge_on (R := R) (L := L) (t : Nat) (by have := HLN.out.1; omega) (List.replicate r1 0) (by simp; omega)
          have FG := forge_any w.heap.size k m (onR R L (t : Nat)) [122] (some ⟨wr.heap.size, 0, none⟩) (List.replicate r1 0) r1 _ (HS.out.below AL) (by decide) (by simp; omega) (fun w' hw => (made_in wr r1).below hw (Nat.le_refl _))
          rw [f1, List.length_replicate, show str [122] = ⟨#[122]⟩ from rfl] at FG
          have HF2 := Lib.hid f2
          have HFG := Lib.hid FG
          have HS2 := Lib.hid (HS.out.below AL)
          have HB2 := Lib.hid (HB.out.trans (AL.mono HB.out.size))
          have q9 : (r1 : Int) ≤ ((sizeSum (put L [122] (List.replicate r1 0, true)) : Nat) : Int) := by have h : (List.replicate r1 (0 : UInt8)).length ≤ sizeSum (put L [122] (List.replicate r1 0, true)) := put_size [122] (List.replicate r1 0, true) L; rw [List.length_replicate] at h; omega
          have HU9 : Hid (sizeSum (put L [122] (List.replicate r1 0, true)) ≤ 4611686018427387904) := Lib.hid (by have h : sizeSum (put L [122] (List.replicate r1 0, true)) ≤ sizeSum L + (List.replicate r1 (0 : UInt8)).length := put_le [122] (List.replicate r1 0, true) L; rw [List.length_replicate] at h; have := HLN.out.2; omega)
          clear f1 f2 FG AL hr1 HO HS HB HV HLN
          go_upto_region 29 with fail
          go_wp2_with fail
          with_reducible refine HFG.out.mono ?_
          rintro e v1 ⟨rfl, m', hS, hst⟩
          have USE := Lib.hid (used_any w.heap.size k m' _ v1 hS (by rw [HF2.out]; exact HU9.out))
          rw [HF2.out] at USE
          have HB3 := Lib.hid (HB2.out.trans (HS2.out.step_below hst))
          clear hS hst HFG HS2 HB2 HU9 HF2
          generalize sizeSum (put L [122] (List.replicate r1 0, true)) = U at *
          go_wp2_with fail
          with_reducible refine USE.out.mono ?_
          rintro e v2 ⟨rfl, kb⟩
          have HB4 := HB3.out.trans (kb.mono HB3.out.size)
          clear kb USE
          go_wp2_with fail
          go_ret
          exact ⟨rfl, HB4⟩)
      · have q2 : ¬ (n : Int) < 26 := by omega
        by_cases hP : n < F.length
        · have q1 : (n : Int) < (F.length : Int) := by omega
          (as_aux_lemma =>
            obtain ⟨r1, hr1⟩ : ∃ r1, r1 = R + 1 := ⟨_, rfl⟩
            have hw1 : wrap64 ((R : Int) + 1) = (r1 : Int) := by unfold wrap64; omega
            have hw0 : (R : Int) + 1 = (r1 : Int) := by omega
            have m3 := fun wx => make_bytes r1 wx (by omega)
            have AL := alloc_below wr (.cells (zeroB r1) 5 (0, 0))
            have HLN : Hid (L.length ≤ 26 ∧ sizeSum L ≤ R) := Lib.hid (by have := HO.out.size; have := HO.out.len; have := HO.out.few; omega)
            obtain ⟨f1, f2⟩ := forge_on (R := R) (L := L) (t : Nat) (by have := HLN.out.1; omega) (List.replicate r1 0) (by simp; omega)
            have FG := forge_any w.heap.size k m (onR R L (t : Nat)) [122] (some ⟨wr.heap.size, 0, none⟩) (List.replicate r1 0) r1 _ (HS.out.below AL) (by decide) (by simp; omega) (fun w' hw => (made_in wr r1).below hw (Nat.le_refl _))
            rw [f1, List.length_replicate, show str [122] = ⟨#[122]⟩ from rfl] at FG
            have HF2 := Lib.hid f2
            have HFG := Lib.hid FG
            have HS2 := Lib.hid (HS.out.below AL)
            have HB2 := Lib.hid (HB.out.trans (AL.mono HB.out.size))
            have q9 : (r1 : Int) ≤ ((sizeSum (put L [122] (List.replicate r1 0, true)) : Nat) : Int) := by have h : (List.replicate r1 (0 : UInt8)).length ≤ sizeSum (put L [122] (List.replicate r1 0, true)) := put_size [122] (List.replicate r1 0, true) L; rw [List.length_replicate] at h; omega
            have HU9 : Hid (sizeSum (put L [122] (List.replicate r1 0, true)) ≤ 4611686018427387904) := Lib.hid (by have h : sizeSum (put L [122] (List.replicate r1 0, true)) ≤ sizeSum L + (List.replicate r1 (0 : UInt8)).length := put_le [122] (List.replicate r1 0, true) L; rw [List.length_replicate] at h; have := HLN.out.2; omega)
            clear f1 f2 FG AL hr1 HO HS HB HV HLN
            go_upto_region 29 with fail
            go_wp2_with fail
            with_reducible refine HFG.out.mono ?_
            rintro e v1 ⟨rfl, m', hS, hst⟩
            have USE := Lib.hid (used_any w.heap.size k m' _ v1 hS (by rw [HF2.out]; exact HU9.out))
            rw [HF2.out] at USE
            have HB3 := Lib.hid (HB2.out.trans (HS2.out.step_below hst))
            clear hS hst HFG HS2 HB2 HU9 HF2
            generalize sizeSum (put L [122] (List.replicate r1 0, true)) = U at *
            go_wp2_with fail
            with_reducible refine USE.out.mono ?_
            rintro e v2 ⟨rfl, kb⟩
            have HB4 := HB3.out.trans (kb.mono HB3.out.size)
            clear kb USE
            go_wp2_with fail
            go_ret
            exact ⟨rfl, HB4⟩)
        · have q1 : ¬ (n : Int) < (F.length : Int) := by omega
          (as_aux_lemma =>
            obtain ⟨r1, hr1⟩ : ∃ r1, r1 = R + 1 := ⟨_, rfl⟩
            have hw1 : wrap64 ((R : Int) + 1) = (r1 : Int) := by unfold wrap64; omega
            have hw0 : (R : Int) + 1 = (r1 : Int) := by omega
            have m3 := fun wx => make_bytes r1 wx (by omega)
            have AL := alloc_below wr (.cells (zeroB r1) 5 (0, 0))
            have HLN : Hid (L.length ≤ 26 ∧ sizeSum L ≤ R) := Lib.hid (by have := HO.out.size; have := HO.out.len; have := HO.out.few; omega)
            obtain ⟨f1, f2⟩ := forge_on (R := R) (L := L) (t : Nat) (by have := HLN.out.1; omega) (List.replicate r1 0) (by simp; omega)
            have FG := forge_any w.heap.size k m (onR R L (t : Nat)) [122] (some ⟨wr.heap.size, 0, none⟩) (List.replicate r1 0) r1 _ (HS.out.below AL) (by decide) (by simp; omega) (fun w' hw => (made_in wr r1).below hw (Nat.le_refl _))
            rw [f1, List.length_replicate, show str [122] = ⟨#[122]⟩ from rfl] at FG
            have HF2 := Lib.hid f2
            have HFG := Lib.hid FG
            have HS2 := Lib.hid (HS.out.below AL)
            have HB2 := Lib.hid (HB.out.trans (AL.mono HB.out.size))
            have q9 : (r1 : Int) ≤ ((sizeSum (put L [122] (List.replicate r1 0, true)) : Nat) : Int) := by have h : (List.replicate r1 (0 : UInt8)).length ≤ sizeSum (put L [122] (List.replicate r1 0, true)) := put_size [122] (List.replicate r1 0, true) L; rw [List.length_replicate] at h; omega
            have HU9 : Hid (sizeSum (put L [122] (List.replicate r1 0, true)) ≤ 4611686018427387904) := Lib.hid (by have h : sizeSum (put L [122] (List.replicate r1 0, true)) ≤ sizeSum L + (List.replicate r1 (0 : UInt8)).length := put_le [122] (List.replicate r1 0, true) L; rw [List.length_replicate] at h; have := HLN.out.2; omega)
            clear f1 f2 FG AL hr1 HO HS HB HV HLN
            go_upto_region 29 with fail
            go_wp2_with fail
            with_reducible refine HFG.out.mono ?_
            rintro e v1 ⟨rfl, m', hS, hst⟩
            have USE := Lib.hid (used_any w.heap.size k m' _ v1 hS (by rw [HF2.out]; exact HU9.out))
            rw [HF2.out] at USE
            have HB3 := Lib.hid (HB2.out.trans (HS2.out.step_below hst))
            clear hS hst HFG HS2 HB2 HU9 HF2
            generalize sizeSum (put L [122] (List.replicate r1 0, true)) = U at *
            go_wp2_with fail
            with_reducible refine USE.out.mono ?_
            rintro e v2 ⟨rfl, kb⟩
            have HB4 := HB3.out.trans (kb.mono HB3.out.size)
            clear kb USE
            go_wp2_with fail
            go_ret
            exact ⟨rfl, HB4⟩)
end Go.Proofs.Ythefledeoiegjaa
