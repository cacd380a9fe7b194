/- cell.Tape.row. -/
import Derived.Test.YtjkhokholcchfaaDoorTp
namespace Go.Proofs.YtjkhokholcchfaaDoor
open Go.RowKit Sha

set_option maxRecDepth 100000 in
set_option maxHeartbeats 4000000 in
theorem row_any (tb : Nat) (fa : Option Addr) (fc : Nat) (F : List UInt8) (told c : Nat) (w : World) (h : tapeAt w tb fa fc F told) (hc : c ≤ 1000000000) (ht : tables w) :
    Calls Tryd.prog 37 #[.pointer (some ⟨tb, 0, none⟩), .int .i64 (c : Int)] w fun e w' => e = .returned (.agg (byteCells (trow F c)).toArray) ∧ Below w.heap.size w w' := by
  have R0 := (blockIs.new w (zeros 32) 34).alloc (.cells (cells8 (fun _ => 0) 8).toArray 110 (0, 0))
  have S0 := blockIs.last (w.alloc (.cells (zeros 32).toArray 34 (0, 0))) (cells8 (fun _ => 0) 8) 110 (w.heap.size + 1) (by simp)
  have A0 := alloc_below w (.cells (zeros 32).toArray 34 (0, 0))
  have B1 := Lib.hid (A0.alloc A0.size (.cells (cells8 (fun _ => 0) 8).toArray 110 (0, 0)))
  have R1 := Lib.hid R0
  have S1 := Lib.hid S0
  have HT := Lib.hid h
  have HTB := Lib.hid ht
  have hz8 := zero8
  have hz28 := zero28
  clear R0 S0 A0 h ht
  rw [beF_zero c] at *
  go_enter Tryd.func37, Tryd.ntmps37
  go_wp2_with fail
  generalize (w.alloc (.cells (zeros 32).toArray 34 (0, 0))).alloc (.cells (cells8 (beF c 0) 8).toArray 110 (0, 0)) = w1 at *
  clear hz8 hz28
  go_loopw [7] (fun i wr => ∃ k : Nat, k ≤ 8 ∧ i = .int .i64 k ∧ blockIs wr (w.heap.size + 1) (cells8 (beF c k) 8) 110 ∧ But (w.heap.size + 1) w1 wr) (fun i _ => 8 - (intOf i).toNat)
  case atStart => exact ⟨0, by omega, rfl, S1.out, But.refl _ _⟩
  case round =>
    obtain ⟨k, hk, rfl, h1, h2⟩ := hrel
    have H1 := Lib.hid h1
    have H2 := Lib.hid h2
    clear h1 h2
    by_cases hlt : k < 8
    · have q : (k : Int) < 8 := by omega
      have p : (0 : Int) ≤ (k : Int) := by omega
      obtain ⟨s, hs⟩ : ∃ s, s = 8 * (7 - k) := ⟨_, rfl⟩
      obtain ⟨m, hm⟩ : ∃ m, m = 7 - k := ⟨_, rfl⟩
      have e1 : IntKind.i64.wrap (7 - (k : Int)) = (m : Int) := by rw [IntWalk.i64_in _ (by omega)]; omega
      have e2 : IntKind.i64.wrap (8 * (m : Int)) = (s : Int) := by rw [IntWalk.i64_in _ (by omega)]; omega
      have e3 : (0 : Int) ≤ (s : Int) := by omega
      have e4 : (s : Int) ≤ 64 := by omega
      have e5 : IntKind.u8.wrap ((c : Int) / 2 ^ s) = V (beB c k) := wrap_be c k s hs
      have HS := Lib.hid hs
      clear hs hm
      have c1 := H1.out.at k (by rw [cells8_length]; exact hlt)
      have c2 := H1.out.free k
      have HSET := Lib.hid (beF_succ c k hlt)
      go_wp2_with fail
      go_roundw
      case rel => exact ⟨k + 1, by omega, by go_num, by rw [← HSET.out]; exact H1.out.set k _, H2.out.setCell _ _ (Or.inl rfl)⟩
      case measure => simp [intOf]; omega
    · obtain rfl : k = 8 := by omega
      have q : ¬ ((8 : Nat) : Int) < 8 := by omega
      rw [beF_all] at H1
      have HB := Lib.hid (B1.out.trans (H2.out.below (Nat.le_succ _) B1.out.size))
      have RES := Lib.hid (H2.out.is R1.out (by omega))
      have I8 : Hid (bytesIn wr (some ⟨w.heap.size + 1, 0, none⟩) (be8 c)) := Lib.hid (Or.inr ⟨_, _, rfl, fun j hj => by
        rw [Nat.zero_add, H1.out.cell]
        exact byteCells_get _ j hj⟩)
      have TA := Lib.hid (fun X (hX : Below w.heap.size w X) => HT.out.below hX)
      have TT := Lib.hid (fun X (hX : Below w.heap.size w X) => HTB.out.below hX HTB.out.2.2.1 HTB.out.2.2.2)
      clear HT HTB H1 H2 R1 S1 B1
      go_upto_region 7 with fail
      have k1 : Below wr.heap.size wr wr.drew := below_drew' (Below.refl _ _)
      refine wp_region_noPanic ?_
      refine wp_region_held_drew (S := fun w' => Below w.heap.size w w') (by kernel_rfl) (below_drew' HB.out) (fun hH => ?_)
      generalize wr.drew = x0 at *
      refine wpAnyH_take (i := 0) (oi := { dst := some 19, op := Op.move (Operand.tmp 0), type := 25, pos := "tape.go:53", after := #[], guard := none }) (v := .pointer (some ⟨tb, 0, none⟩)) rfl (by kernel_rfl) (by kernel_rfl) (by kernel_rfl) (fun _ _ _ h => h) (Or.inl ⟨by rfl, fun wx hS => ?_⟩) hH ?_
      · go_simp
      simp only [Act.put, List.setIfInBounds_toArray, List.set_cons_zero, List.set_cons_succ]
      refine wpAnyH_take (i := 1) (oi := { dst := some 20, op := Op.nilCheck (Operand.tmp 19), type := 0, pos := "tape.go:53", after := #[{ on := 0, ground := Ground.data }], guard := none }) (v := .pointer (some ⟨tb, 0, none⟩)) rfl (by kernel_rfl) (by kernel_rfl) (by kernel_rfl) (fun _ _ _ h => h) (Or.inl ⟨by rfl, fun wx hS => ?_⟩) hH ?_
      · go_simp
      simp only [Act.put, List.setIfInBounds_toArray, List.set_cons_zero, List.set_cons_succ]
      refine wpAnyH_take (i := 2) (oi := { dst := some 21, op := Op.fieldAddr 83 (Operand.tmp 20) 0, type := 0, pos := "tape.go:53", after := #[{ on := 1, ground := Ground.data }], guard := none }) (v := .pointer (some ⟨tb, 0, none⟩)) rfl (by kernel_rfl) (by kernel_rfl) (by kernel_rfl) (fun _ _ _ h => h) (Or.inl ⟨by rfl, fun wx hS => ?_⟩) hH ?_
      · go_simp
      simp only [Act.put, List.setIfInBounds_toArray, List.set_cons_zero, List.set_cons_succ]
      refine wpAnyH_take (i := 3) (oi := { dst := some 22, op := Op.load 22 (Operand.tmp 21), type := 22, pos := "tape.go:53", after := #[{ on := 2, ground := Ground.data }], guard := none }) (v := .slice fa F.length fc) rfl (by kernel_rfl) (by kernel_rfl) (by kernel_rfl) (fun _ _ _ h => h) (Or.inl ⟨by rfl, fun wx hS => ?_⟩) hH ?_
      · have e1 := (TA.out wx hS).is.at 0 (by simp); go_simp
      simp only [Act.put, List.setIfInBounds_toArray, List.set_cons_zero, List.set_cons_succ]
      refine wpAnyH_take (i := 4) (oi := { dst := some 23, op := Op.slice 110 (Operand.tmp 5) none none none, type := 22, pos := "tape.go:53", after := #[], guard := none }) (v := .slice (some ⟨w.heap.size + 1, 0, none⟩) 8 8) rfl (by kernel_rfl) (by kernel_rfl) (by kernel_rfl) (fun _ _ _ h => h) (Or.inl ⟨by rfl, fun wx hS => ?_⟩) hH ?_
      · go_simp
      simp only [Act.put, List.setIfInBounds_toArray, List.set_cons_zero, List.set_cons_succ]
      have s2 := RES.out.below k1 RES.out.lt
      have i8 := I8.out.below k1
      have hp0 := (TA.out x0 hH)
      have ht0 := TT.out x0 hH
      have k2 := Below.refl x0.heap.size x0
      refine wpAnyH_ready (rs := [5]) (by kernel_rfl) (by simp) ?_
      refine AllReadyH.cons (o := { dst := some 24, op := Op.buildSlice 54 2 #[(0, Operand.tmp 22), (1, Operand.tmp 23)], type := 54, pos := "tape.go:53", after := #[{ on := 3, ground := Ground.data }, { on := 4, ground := Ground.data }], guard := none }) rfl (fun KK hKK => ?_) AllReadyH.nil
      have kb := alloc_below x0 (.cells #[.slice fa F.length fc, .slice (some ⟨w.heap.size + 1, 0, none⟩) 8 8] 22 (0, 0))
      replace k2 := k2.trans (kb.mono k2.size)
      replace s2 := s2.below kb s2.lt
      have q_gp := cellsAt.new x0 #[.slice fa F.length fc, .slice (some ⟨w.heap.size + 1, 0, none⟩) 8 8] x0.heap.size 22 [.slice fa F.length fc, .slice (some ⟨w.heap.size + 1, 0, none⟩) 8 8] rfl rfl
      have hN := hH.trans (kb.mono hH.size)
      clear hH kb
      go_simp
      refine hKK.out _ _ hN (fun hH => ?_)
      clear hKK KK hN
      try simp only [Act.put, List.setIfInBounds_toArray, List.set_cons_zero, List.set_cons_succ]
      generalize x0.alloc (.cells #[.slice fa F.length fc, .slice (some ⟨w.heap.size + 1, 0, none⟩) 8 8] 22 (0, 0)) = x1 at *
      generalize x0.heap.size = gp at q_gp ⊢
      have HK := Lib.hid (of_at x0 [⟨fa, fc, F⟩, ⟨some ⟨w.heap.size + 1, 0, none⟩, 8, be8 c⟩] [.slice fa F.length fc, .slice (some ⟨w.heap.size + 1, 0, none⟩) 8 8] rfl ht0 (by
        simp only [List.mem_cons, List.not_mem_nil, or_false]
        rintro p (rfl | rfl)
        · exact ⟨hp0.cap, hp0.most, hp0.row⟩
        · exact ⟨by show (be8 c).length ≤ 8; rw [be8_length]; omega, by show 8 ≤ _; omega, i8⟩) (F ++ be8 c) (by simp) (by rw [List.length_append, be8_length]; have := hp0.len; omega) 2 rfl (by omega) x1 gp k2 q_gp)
      clear i8 hp0 ht0 k2 q_gp k1
      refine wpAnyH_ready (rs := [6]) (by kernel_rfl) (by simp) ?_
      refine AllReadyH.cons (o := { dst := some 25, op := Op.call { callee := Callee.value (Operand.func 54), args := #[Operand.tmp 24], argTypes := #[54] }, type := 34, pos := "tape.go:53", after := #[{ on := 5, ground := Ground.data }], guard := none }) rfl (fun KK hKK => ?_) AllReadyH.nil
      go_simp
      with_reducible refine (HK.out).mono ?_
      rintro e x4 ⟨rfl, -, kb⟩
      replace s2 := s2.below kb s2.lt
      have hN := hH.trans (kb.mono hH.size)
      clear hH kb
      refine hKK.out _ _ hN (fun hH => ?_)
      clear hKK KK hN
      try simp only [Act.put, List.setIfInBounds_toArray, List.set_cons_zero, List.set_cons_succ]
      have HL : Hid ((trow F c).length = 32) := Lib.hid (trow_length _ _)
      rw [show sha (F ++ be8 c) = trow F c from rfl]
      generalize hD : trow F c = D at *
      have HD := Lib.hid hD
      clear hD HK
      refine wpAnyH_ready (rs := [7]) (by kernel_rfl) (by simp) ?_
      refine AllReadyH.cons (o := { dst := none, op := Op.store 34 (Operand.tmp 4) (Operand.tmp 25), type := 0, pos := "tape.go:53", after := #[{ on := 6, ground := Ground.data }, { on := 6, ground := Ground.chain }, { on := 0, ground := Ground.phase }, { on := 1, ground := Ground.phase }, { on := 2, ground := Ground.phase }, { on := 3, ground := Ground.phase }, { on := 4, ground := Ground.phase }, { on := 5, ground := Ground.phase }, { on := 6, ground := Ground.phase }], guard := none }) rfl (fun KK hKK => ?_) AllReadyH.nil
      refine Ci.step_store_block rfl 34 _ _ rfl w.heap.size 0 (byteCells D) rfl rfl (zeros 32) 34 s2 (by rw [info28, byteCells_length, HL.out]) (by simp [zeros, byteCells_length, HL.out]) (byteCells_one _) ?_
      intro x6 h1 h2 h3
      have h1 := h1.out
      rw [splice_all _ _ (by simp [zeros, byteCells_length, HL.out])] at h1
      have E6 := Lib.hid h1
      have hN := hH.trans (h2.out.below (Nat.le_refl _) hH.size)
      clear h1 h2 h3 hH s2
      refine hKK.out _ _ hN (fun hH => ?_)
      clear hKK KK hN
      try simp only [Act.put, List.setIfInBounds_toArray, List.set_cons_zero, List.set_cons_succ]
      refine wpAnyH_done (by kernel_rfl) ?_ _
      refine NoPanic.normal ?_
      go_wp2_with fail
      refine bodyPost_ret (v := .agg (byteCells D).toArray) (results_cell_row rfl _ _ w.heap.size 34 _ (0, 0) _ rfl E6.out Tryd.underlying34 rfl (by rw [info28]; simp [byteCells_length, HL.out])) rfl ?_
      exact ⟨by rw [HD.out], hH⟩
end Go.Proofs.YtjkhokholcchfaaDoor
