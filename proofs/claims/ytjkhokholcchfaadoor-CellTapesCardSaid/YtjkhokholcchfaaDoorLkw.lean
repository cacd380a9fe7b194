/- The law KeyWrites: its walk. -/
import Derived.Test.YtjkhokholcchfaaDoorKpw
import Derived.Test.YtjkhokholcchfaaDoorGk
import Derived.Test.YtjkhokholcchfaaDoorTdt
import Derived.Test.YtjkhokholcchfaaDoorGp
namespace Go.Proofs.YtjkhokholcchfaaDoor
open Go.RowKit Sha

theorem infoLine : (Tryd.prog.info? 56).map (·.size) = some 6 := by kernel_rfl

/-- Bytes that came in lie apart from what is new. -/
theorem Pt.ok0.apart {X : World} {p : Pt} {tb : Nat} (h : p.ok0 X) (ht : X.heap.size ≤ tb) {Y : World} (k : But tb X Y) : p.ok0 Y :=
  ⟨⟨h.1.1, h.1.2.1, by
    rcases h.1.2.2 with e | ⟨b, o, e, hc⟩
    · exact .inl e
    · exact .inr ⟨b, o, e, fun j hj => k.cell (hc j hj) (Nat.ne_of_lt (Nat.lt_of_lt_of_le (block_lt_of_cell (hc j hj)) ht))⟩⟩, h.2⟩
theorem partsW.apart {X : World} {a : Option Addr} {ls : List (List UInt8)} {tb : Nat} (h : partsW X a ls) (ht : X.heap.size ≤ tb) (j : Nat) (hj : j < ls.length) :
    ∃ pb po, a = some ⟨pb, po, none⟩ ∧ ∃ aj cj, ∀ Y, But tb X Y → Y.cell? ⟨pb, po + j, none⟩ = some (.slice aj (ls.getD j []).length cj) ∧ Pt.ok0 Y ⟨aj, cj, ls.getD j []⟩ := by
  rcases h with h | ⟨pb, po, h1, h2⟩
  · rw [h] at hj; exact absurd hj (Nat.not_lt_zero _)
  · obtain ⟨aj, cj, g1, g2, g3, g4, g5⟩ := h2 j hj
    exact ⟨pb, po, h1, aj, cj, fun Y k => ⟨k.cell g1 (Nat.ne_of_lt (Nat.lt_of_lt_of_le (block_lt_of_cell g1) ht)), Pt.ok0.apart (p := ⟨aj, cj, ls.getD j []⟩) ⟨⟨g2, g3, g5⟩, g4⟩ ht k⟩⟩
theorem seal_open (H M N : List UInt8) (kd : UInt8) (nm b : List UInt8) (hN : N.length = 16) (hb : b.length ≤ 1000) : (sealR H M kd nm N b).1.length ≤ 2000 ∧ ((sealR H M kd nm N b).2 = 5 ∨ (sealR H M kd nm N b).2 = 0 ∧ openR H M kd nm (sealR H M kd nm N b).1 = (b, 0)) := by
  unfold sealR
  split
  · exact ⟨by simp, .inl rfl⟩
  · refine ⟨by show (wseal H M kd nm N b).length ≤ 2000; rw [wseal_length H M kd nm N b hN]; omega, .inr ⟨rfl, ?_⟩⟩
    show openR H M kd nm (wseal H M kd nm N b) = _
    unfold wseal
    rw [openR_at H M kd nm N _ _ hN (wmark_length _ _ _ _ _) (by omega), if_pos rfl, whide_whide]
theorem parts_one {X : World} {g : Nat} {a : Option Addr} {c : Nat} {l : List UInt8} (h : X.cell? ⟨g, 0, none⟩ = some (.slice a l.length c)) (hk : Pt.ok0 X ⟨a, c, l⟩) : partsW X (some ⟨g, 0, none⟩) [l] := by
  refine .inr ⟨g, 0, rfl, fun j hj => ?_⟩
  obtain rfl : j = 0 := by simp at hj; exact hj
  exact ⟨a, c, h, hk.1.1, hk.1.2.1, hk.2, hk.1.2.2⟩
/-- The first bytes of what came in. -/
theorem cut_to (a : Option Addr) (c : Nat) (l : List UInt8) (n g : Nat) (hg : g = min l.length n) (hc : l.length ≤ c) :
    ∃ sa sc, (∀ X, (Instr.slice 22 (.slice a l.length c) none (some (.int .i64 (g : Int))) none).run Tryd.prog X = .ok (.slice sa (l.take n).length sc) X) ∧ ∀ Y, Pt.ok0 Y ⟨a, c, l⟩ → Pt.ok0 Y ⟨sa, sc, l.take n⟩ := by
  have e : l.take n = (Pt.sub ⟨a, c, l⟩ 0 g).l := by unfold Pt.sub; rw [List.drop_zero, hg]; simp only [List.take_eq_take_iff]; omega
  refine ⟨(Pt.sub ⟨a, c, l⟩ 0 g).a, (Pt.sub ⟨a, c, l⟩ 0 g).c, fun X => ?_, fun Y h => ?_⟩
  · rw [e]; exact Pt.run_h ⟨a, c, l⟩ g (by show g ≤ l.length; omega) hc X
  · rw [e]; exact Pt.sub_ok0 h 0 g (by omega) (by show g ≤ l.length; omega)

theorem keys_at {X : World} {b : Nat} {t : TypeId} {RG H M C : List UInt8} (e : RG = H ++ (M ++ C)) (h : blockIs X b (byteCells RG) t) : X.rangeAt b 0 (keyCells H M) := by
  rw [e, show byteCells (H ++ (M ++ C)) = keyCells H M ++ byteCells C by simp [keyCells, byteCells]] at h
  exact Ci.rangeAt_block (p := []) h
theorem pkeys_at {X : World} {b tb : Nat} {t : TypeId} {PC : List Value} {RG H M C : List UInt8} (e0 : PC = penCells RG tb) (e : RG = H ++ (M ++ C)) (h : blockIs X b PC t) : X.rangeAt b 0 (keyCells H M) := by
  rw [e0, e, pen3] at h
  exact Ci.rangeAt_block (p := []) h
theorem infoWK : (Tryd.prog.info? 45).map (·.size) = some 64 := by kernel_rfl
set_option maxRecDepth 100000 in
set_option maxHeartbeats 8000000 in
theorem law_keyWrites (L : Ln) (w : World) (hok : L.ok w) (ht : tables w) :
    Calls Tryd.prog 9 #[.agg L.cells.toArray] w fun e w' => e = .returned (.bool true) ∧ Below w.heap.size w w' := by
  have A0 := alloc_below w (.cells L.cells.toArray 56 (0, 0))
  have N1 := Lib.hid (blockIs.new w L.cells 56)
  have OK1 := Lib.hid (hok.below A0)
  have T1 := Lib.hid (ht.below A0 ht.2.2.1 ht.2.2.2)
  have PN := Lib.hid (fun X (a : L.ok X) (b : tables X) => pen_any L X a b)
  obtain ⟨H, M, C, hH, hM, hC, hR⟩ := ring3 L.ring L.ring_length
  have HL := Lib.hid hH
  have ML := Lib.hid hM
  have DL := Lib.hid hC
  rw [hR] at PN
  have RL : Hid ((H ++ (M ++ C)).length = 96) := Lib.hid (by simp [hH, hM, hC])
  clear hR hH hM hC
  have B1 := Lib.hid A0
  clear A0 ht
  obtain ⟨wa, wc, W, st, ba, bc, G, ra, rc, R, kd, nm⟩ := L
  have OKG := Lib.hid OK1.out.begins
  have OKR := Lib.hid OK1.out.rows
  dsimp only at OKG OKR
  generalize hCL : Ln.cells ⟨wa, wc, W, st, ba, bc, G, ra, rc, R, kd, nm⟩ = CL at *
  have C2 : Hid (CL[2]? = some (.slice ba G.length bc)) := Lib.hid (by rw [← hCL]; rfl)
  have C3 : Hid (CL[3]? = some (.slice ra R.length rc)) := Lib.hid (by rw [← hCL]; rfl)
  have C4 : Hid (CL[4]? = some (.int .u8 (V kd))) := Lib.hid (by rw [← hCL]; rfl)
  have C5 : Hid (CL[5]? = some (.string (str nm))) := Lib.hid (by rw [← hCL]; rfl)
  have CL6 : Hid (CL.length = 6) := Lib.hid (by rw [← hCL]; rfl)
  clear hCL
  have PN1 := Lib.hid (PN.out _ OK1.out T1.out)
  dsimp only at PN1
  clear PN hok
  go_enter Tryd.func9, Tryd.ntmps9
  have R0 := Lib.hid (Ci.range_of N1.out)
  have hzp := zeroPen
  have hzr := zeroRing2
  go_wp2_with (refine Ci.wpList_load_mid_if (by rfl) 56 _ rfl w.heap.size 0 rfl CL _ R0.out Tryd.underlying56 rfl (by rw [infoLine, CL6.out]) ?_)
  with_reducible refine PN1.out.mono ?_
  rintro e w2 ⟨tb, fa, fc, rfl, hlo, htp, kk⟩
  have HLO := Lib.hid (Nat.le_trans B1.out.size hlo)
  have HTB2 : Hid (1 ≠ tb ∧ 0 ≠ tb) := Lib.hid ⟨Nat.ne_of_lt (Nat.lt_of_lt_of_le T1.out.2.2.1 hlo), Nat.ne_of_lt (Nat.lt_of_lt_of_le T1.out.2.2.2 hlo)⟩
  have HLN : Hid (tb ≠ w.heap.size) := Lib.hid (by have := N1.out.lt; omega)
  have B2 := Lib.hid (B1.out.trans (kk.mono B1.out.size))
  have N2 := Lib.hid (N1.out.below kk N1.out.lt)
  have T2 := Lib.hid (T1.out.below kk T1.out.2.2.1 T1.out.2.2.2)
  have HGT : Hid (∀ Y, But tb _ Y → Pt.ok0 Y ⟨ba, bc, G⟩) := Lib.hid (fun Y k => OKG.out.apart hlo k)
  have HRT := Lib.hid (fun j (hj : j < R.length) => OKR.out.apart hlo j hj)
  have OKG2 := Lib.hid (OKG.out.below kk)
  have U2 := Lib.hid (But.of_below (b := tb) kk)
  have OKR2 := Lib.hid (OKR.out.below kk)
  have HT2 := Lib.hid htp
  clear hlo htp kk B1 N1 T1 OKG OKR OK1 PN1 R0
  generalize w.alloc (.cells CL.toArray 56 (0, 0)) = w1 at *
  obtain ⟨RG, hRG⟩ : ∃ RG, RG = H ++ (M ++ C) := ⟨_, rfl⟩
  rw [← hRG] at RL ⊢
  have HRG := Lib.hid hRG
  obtain ⟨PC, hPC⟩ : ∃ PC, PC = penCells RG tb := ⟨_, rfl⟩
  rw [← hPC]
  have HPC := Lib.hid hPC
  have PL : Hid (PC.length = 97) := Lib.hid (by rw [hPC]; exact penCells_length RG tb RL.out)
  have PO : Hid (∀ v ∈ PC, v.oneCell' = true) := Lib.hid (by rw [hPC]; exact penCells_one RG tb)
  clear hRG hPC
  have P2 := (blockIs.new w2 (zeros 96 ++ [Value.pointer none]) 60).alloc (.cells (zeros 96).toArray 62 (0, 0))
  have Q2 := blockIs.last (w2.alloc (.cells (zeros 96 ++ [Value.pointer none]).toArray 60 (0, 0))) (zeros 96) 62 (w2.heap.size + 1) (by simp)
  have k2 := (alloc_below w2 (.cells (zeros 96 ++ [Value.pointer none]).toArray 60 (0, 0))).alloc (by simp) (.cells (zeros 96).toArray 62 (0, 0))
  have P2 := Lib.hid P2
  have Q2 := Lib.hid Q2
  have K2 := Lib.hid k2
  clear k2
  go_wp2_with (refine wpList_store_block rfl 60 _ _ rfl w2.heap.size 0 PC rfl rfl (zeros 96 ++ [Value.pointer none]) 60 P2.out (by rw [infoPen, PL.out]) (by rw [PL.out]; simp [zeros]) PO.out ?_)
  intro w3 h1 h2 h3
  have h1 := h1.out
  rw [splice_all _ _ (by rw [PL.out]; simp [zeros])] at h1
  have P3 := Lib.hid h1
  have Q3 := Lib.hid (h2.out.is Q2.out (by omega))
  have K3 := Lib.hid (K2.out.trans (h2.out.below (Nat.le_refl _) K2.out.size))
  clear h1 h2 h3 P2 Q2 K2 hzp hzr PO
  go_wp2_with (refine wpList_store_block rfl 62 _ _ rfl (w2.heap.size + 1) 0 (byteCells RG) rfl rfl (zeros 96) 62 Q3.out (by rw [infoRing2, byteCells_length, RL.out]) (by simp [zeros, byteCells_length, RL.out]) (byteCells_one _) ?_)
  intro w4 h1 h2 h3
  have h1 := h1.out
  rw [splice_all _ _ (by simp [zeros, byteCells_length, RL.out])] at h1
  have Q4 := Lib.hid h1
  have P4 := Lib.hid (h2.out.is P3.out (by omega))
  have kk := K3.out.trans (h2.out.below (Nat.le_succ _) K3.out.size)
  obtain ⟨pb, hpb⟩ : ∃ pb, pb = w2.heap.size := ⟨_, rfl⟩
  have HPT : Hid (pb ≠ tb ∧ pb + 1 ≠ tb) := Lib.hid (by have := HT2.out.is.lt; omega)
  rw [← hpb] at P4 Q4 ⊢
  have B4 := Lib.hid (B2.out.trans (kk.mono B2.out.size))
  have N4 := Lib.hid (N2.out.below kk N2.out.lt)
  have T4 := Lib.hid (T2.out.below kk T2.out.2.2.1 T2.out.2.2.2)
  have OKG4 := Lib.hid (OKG2.out.below kk)
  have U4 := Lib.hid (U2.out.trans (But.of_below kk))
  have OKR4 := Lib.hid (OKR2.out.below kk)
  have HT4 := Lib.hid (HT2.out.below kk)
  clear h1 h2 h3 P3 Q3 K3 kk hpb B2 N2 T2 OKG2 OKR2 HT2 U2
  have RI := Lib.hid (rings_any w4 T4.out)
  go_wp2_with fail
  with_reducible refine RI.out.mono ?_
  rintro e w5 ⟨rfl, kk⟩
  have B5 := Lib.hid (B4.out.trans (kk.mono B4.out.size))
  have N5 := Lib.hid (N4.out.below kk N4.out.lt)
  have P5 := Lib.hid (P4.out.below kk P4.out.lt)
  have Q5 := Lib.hid (Q4.out.below kk Q4.out.lt)
  have T5 := Lib.hid (T4.out.below kk T4.out.2.2.1 T4.out.2.2.2)
  have OKG5 := Lib.hid (OKG4.out.below kk)
  have U5 := Lib.hid (U4.out.trans (But.of_below kk))
  have OKR5 := Lib.hid (OKR4.out.below kk)
  have HT5 := Lib.hid (HT4.out.below kk)
  clear kk B4 N4 P4 Q4 T4 OKG4 OKR4 HT4 RI U4
  have c2 : w5.cell? ⟨w.heap.size, 2, none⟩ = some (.slice ba G.length bc) := by rw [N5.out.cell]; exact C2.out
  have c5 : w5.cell? ⟨w.heap.size, 5, none⟩ = some (.string (str nm)) := by rw [N5.out.cell]; exact C5.out
  go_upto_region 4 with fail
  go_cut [6] (fun v wx => v = .string (str (G.take 100)) ∧ w5 = wx)
  case first =>
    have hcap : (G.length : Int) ≤ (bc : Int) := by have h : G.length ≤ bc := OKG5.out.1.1; omega
    by_cases h8 : 100 < G.length
    · have q8 : (100 : Int) < (G.length : Int) := by omega
      have hc8 : (100 : Int) ≤ (bc : Int) := by omega
      have cv := conv_string w5 ba (G.take 100) bc (OKG5.out.1.2.2.take 100)
      rw [show (G.take 100).length = 100 by rw [List.length_take]; omega] at cv
      go_wp2_with fail
      go_meet
      case rel => exact ⟨rfl, rfl⟩
    · have q8 : ¬ (100 : Int) < (G.length : Int) := by omega
      have cv := conv_string w5 ba G bc OKG5.out.1.2.2
      go_wp2_with fail
      go_meet
      case rel => exact ⟨by rw [List.take_of_length_le (by omega)], rfl⟩
  obtain ⟨rfl, rfl⟩ := hcut
  have hns := str_size nm
  go_upto_region 5 with fail
  go_cut [7] (fun v wx => v = .string (str (nm.take 300)) ∧ w5 = wx)
  case first =>
    go_wp2_with fail
    all_goals
      go_meet
      case rel =>
        refine ⟨?_, rfl⟩
        first
        | (rw [str_extract, List.drop_zero]; done)
        | (rw [str_extract, List.drop_zero, List.take_of_length_le (Nat.le_refl _), List.take_of_length_le (by omega)]; done)
  obtain ⟨rfl, rfl⟩ := hcut
  clear hns c2 c5
  have hn3 : (nm.take 300).length ≤ 300 := by rw [List.length_take]; omega
  have hg1 : (G.take 100).length ≤ 100 := by rw [List.length_take]; omega
  generalize nm.take 300 = nu at *
  generalize G.take 100 = G2 at *
  have NX := Lib.hid (fun X (k : But tb w5 X) => k.is N5.out (Ne.symm HLN.out))
  have PX := Lib.hid (fun X (k : But tb w5 X) => k.is P5.out HPT.out.1)
  have QX := Lib.hid (fun X (k : But tb w5 X) => k.is Q5.out HPT.out.2)
  have TX := Lib.hid (fun X (k : But tb w5 X) => T5.out.but k HTB2.out)
  have RX : Hid (∀ j, j < R.length → ∃ pb po, ra = some ⟨pb, po, none⟩ ∧ ∃ aj cj, ∀ Y, But tb w5 Y → Y.cell? ⟨pb, po + j, none⟩ = some (.slice aj (R.getD j []).length cj) ∧ Pt.ok0 Y ⟨aj, cj, R.getD j []⟩) := Lib.hid (fun j hj => by
    obtain ⟨pb, po, e, aj, cj, h⟩ := HRT.out j hj
    exact ⟨pb, po, e, aj, cj, fun Y k => h Y (U5.out.trans k)⟩)
  have BX := Lib.hid (fun X (k : But tb w5 X) => B5.out.trans (k.below HLO.out B5.out.size))
  clear N5 P5 Q5 T5 HRT HGT U5 B5 OKG5 OKR5 HLN HPT
  go_upto_region 6 with fail
  go_wp2_with fail
  go_loopw [8] (fun i wr => ∃ k : Nat, k ≤ R.length ∧ k ≤ 8 ∧ i = .int .i64 k ∧ But tb w5 wr ∧ tapeAt wr tb fa fc G2 (16 * k)) (fun i _ => 8 - (intOf i).toNat)
  case atStart => exact ⟨0, by omega, by omega, rfl, But.refl _ _, HT5.out⟩
  case round =>
    obtain ⟨k, hkR, hk8, rfl, hB, hT⟩ := hrel
    have HB := Lib.hid hB
    have HT := Lib.hid hT
    clear hB hT
    have c3 : wr.cell? ⟨w.heap.size, 3, none⟩ = some (.slice ra R.length rc) := by rw [(NX.out wr HB.out).cell]; exact C3.out
    by_cases h8 : k < 8
    · have q8 : (k : Int) < 8 := by omega
      by_cases hR : k < R.length
      · have qR : (k : Int) < (R.length : Int) := by omega
        have p0 : (0 : Int) ≤ (k : Int) := by omega
        obtain ⟨qb, qo, rfl, aj, cj, hrow⟩ := RX.out k hR
        obtain ⟨RB, hRB⟩ : ∃ RB, RB = R.getD k [] := ⟨_, rfl⟩
        rw [← hRB] at hrow
        obtain ⟨m, hm⟩ : ∃ m, m = min RB.length 100 := ⟨_, rfl⟩
        have HMIN : Hid (min (RB.length : Int) 100 = (m : Int)) := Lib.hid (by omega)
        obtain ⟨sa, sc, hsl, hso⟩ := cut_to aj cj RB 100 m hm (hrow wr HB.out).2.1.1
        have hb1 : (RB.take 100).length ≤ 100 := by rw [List.length_take]; omega
        have SL := Lib.hid hsl
        have OB := Lib.hid (fun Y (h : But tb w5 Y) => hso Y (hrow Y h).2)
        have C3X : Hid (∀ X, Below wr.heap.size wr X → X.cell? ⟨w.heap.size, 3, none⟩ = some (.slice (some ⟨qb, qo, none⟩) R.length rc)) := Lib.hid (fun X hX => by rw [(NX.out X (HB.out.trans (But.of_below hX))).cell]; exact C3.out)
        have CJX := Lib.hid (fun X (hX : Below wr.heap.size wr X) => (hrow X (HB.out.trans (But.of_below hX))).1)
        clear hrow hRB hm hsl hso
        generalize RB.take 100 = BB at *
        go_upto_region 9 with fail
        clear c3
        refine wp_region_noPanic ?_
        refine wp_region_held_drew (S := fun w' => Below wr.heap.size wr w') (by kernel_rfl) (below_drew' (Below.refl _ _)) (fun hH => ?_)
        generalize wr.drew = x9 at *
        refine wpAnyH_take (i := 0) (oi := { dst := some 55, op := Op.fieldAddr 56 (Operand.tmp 1) 3, type := 0, pos := "law.go:84", after := #[], guard := none }) (v := .pointer (some ⟨w.heap.size, 3, none⟩)) rfl (by kernel_rfl) (by kernel_rfl) (by kernel_rfl) (fun _ _ _ h => h) (Or.inl ⟨by rfl, fun wx hS => ?_⟩) hH ?_
        · go_simp
        simp only [Act.put, List.setIfInBounds_toArray, List.set_cons_zero, List.set_cons_succ]
        refine wpAnyH_take (i := 1) (oi := { dst := some 56, op := Op.load 54 (Operand.tmp 55), type := 54, pos := "law.go:84", after := #[{ on := 0, ground := Ground.data }], guard := none }) (v := .slice (some ⟨qb, qo, none⟩) R.length rc) rfl (by kernel_rfl) (by kernel_rfl) (by kernel_rfl) (fun _ _ _ h => h) (Or.inl ⟨by rfl, fun wx hS => ?_⟩) hH ?_
        · have e1 := C3X.out wx hS; go_simp
        simp only [Act.put, List.setIfInBounds_toArray, List.set_cons_zero, List.set_cons_succ]
        refine wpAnyH_take (i := 2) (oi := { dst := some 57, op := Op.move (Operand.tmp 8), type := 3, pos := "law.go:84", after := #[], guard := none }) (v := .int .i64 (k : Int)) rfl (by kernel_rfl) (by kernel_rfl) (by kernel_rfl) (fun _ _ _ h => h) (Or.inl ⟨by rfl, fun wx hS => ?_⟩) hH ?_
        · go_simp
        simp only [Act.put, List.setIfInBounds_toArray, List.set_cons_zero, List.set_cons_succ]
        refine wpAnyH_take (i := 3) (oi := { dst := some 58, op := Op.indexAddr 54 (Operand.tmp 56) (Operand.tmp 57), type := 0, pos := "law.go:84", after := #[{ on := 1, ground := Ground.data }, { on := 2, ground := Ground.data }], guard := none }) (v := .pointer (some ⟨qb, qo + k, none⟩)) rfl (by kernel_rfl) (by kernel_rfl) (by kernel_rfl) (fun _ _ _ h => h) (Or.inl ⟨by rfl, fun wx hS => ?_⟩) hH ?_
        · go_simp
        simp only [Act.put, List.setIfInBounds_toArray, List.set_cons_zero, List.set_cons_succ]
        refine wpAnyH_take (i := 4) (oi := { dst := some 59, op := Op.load 22 (Operand.tmp 58), type := 22, pos := "law.go:84", after := #[{ on := 3, ground := Ground.data }], guard := none }) (v := .slice aj RB.length cj) rfl (by kernel_rfl) (by kernel_rfl) (by kernel_rfl) (fun _ _ _ h => h) (Or.inl ⟨by rfl, fun wx hS => ?_⟩) hH ?_
        · have e1 := CJX.out wx hS; go_simp
        simp only [Act.put, List.setIfInBounds_toArray, List.set_cons_zero, List.set_cons_succ]
        refine wpAnyH_take (i := 5) (oi := { dst := some 60, op := Op.fieldAddr 56 (Operand.tmp 1) 3, type := 0, pos := "law.go:84", after := #[], guard := none }) (v := .pointer (some ⟨w.heap.size, 3, none⟩)) rfl (by kernel_rfl) (by kernel_rfl) (by kernel_rfl) (fun _ _ _ h => h) (Or.inl ⟨by rfl, fun wx hS => ?_⟩) hH ?_
        · go_simp
        simp only [Act.put, List.setIfInBounds_toArray, List.set_cons_zero, List.set_cons_succ]
        refine wpAnyH_take (i := 6) (oi := { dst := some 61, op := Op.load 54 (Operand.tmp 60), type := 54, pos := "law.go:84", after := #[{ on := 5, ground := Ground.data }], guard := none }) (v := .slice (some ⟨qb, qo, none⟩) R.length rc) rfl (by kernel_rfl) (by kernel_rfl) (by kernel_rfl) (fun _ _ _ h => h) (Or.inl ⟨by rfl, fun wx hS => ?_⟩) hH ?_
        · have e1 := C3X.out wx hS; go_simp
        simp only [Act.put, List.setIfInBounds_toArray, List.set_cons_zero, List.set_cons_succ]
        refine wpAnyH_take (i := 7) (oi := { dst := some 62, op := Op.move (Operand.tmp 8), type := 3, pos := "law.go:84", after := #[], guard := none }) (v := .int .i64 (k : Int)) rfl (by kernel_rfl) (by kernel_rfl) (by kernel_rfl) (fun _ _ _ h => h) (Or.inl ⟨by rfl, fun wx hS => ?_⟩) hH ?_
        · go_simp
        simp only [Act.put, List.setIfInBounds_toArray, List.set_cons_zero, List.set_cons_succ]
        refine wpAnyH_take (i := 8) (oi := { dst := some 63, op := Op.indexAddr 54 (Operand.tmp 61) (Operand.tmp 62), type := 0, pos := "law.go:84", after := #[{ on := 6, ground := Ground.data }, { on := 7, ground := Ground.data }], guard := none }) (v := .pointer (some ⟨qb, qo + k, none⟩)) rfl (by kernel_rfl) (by kernel_rfl) (by kernel_rfl) (fun _ _ _ h => h) (Or.inl ⟨by rfl, fun wx hS => ?_⟩) hH ?_
        · go_simp
        simp only [Act.put, List.setIfInBounds_toArray, List.set_cons_zero, List.set_cons_succ]
        refine wpAnyH_take (i := 9) (oi := { dst := some 64, op := Op.load 22 (Operand.tmp 63), type := 22, pos := "law.go:84", after := #[{ on := 8, ground := Ground.data }], guard := none }) (v := .slice aj RB.length cj) rfl (by kernel_rfl) (by kernel_rfl) (by kernel_rfl) (fun _ _ _ h => h) (Or.inl ⟨by rfl, fun wx hS => ?_⟩) hH ?_
        · have e1 := CJX.out wx hS; go_simp
        simp only [Act.put, List.setIfInBounds_toArray, List.set_cons_zero, List.set_cons_succ]
        refine wpAnyH_take (i := 10) (oi := { dst := some 65, op := Op.call { callee := Callee.builtin Builtin.len, args := #[Operand.tmp 64], argTypes := #[22] }, type := 3, pos := "law.go:84", after := #[{ on := 9, ground := Ground.data }], guard := none }) (v := .int .i64 (RB.length : Int)) rfl (by kernel_rfl) (by kernel_rfl) (by kernel_rfl) (fun _ _ _ h => h) (Or.inl ⟨by rfl, fun wx hS => ?_⟩) hH ?_
        · go_simp
        simp only [Act.put, List.setIfInBounds_toArray, List.set_cons_zero, List.set_cons_succ]
        refine wpAnyH_take (i := 11) (oi := { dst := some 66, op := Op.call { callee := Callee.builtin Builtin.min, args := #[Operand.tmp 65, Operand.const (Value.int IntKind.i64 100)], argTypes := #[3, 3] }, type := 3, pos := "law.go:84", after := #[{ on := 10, ground := Ground.data }], guard := none }) (v := .int .i64 (m : Int)) rfl (by kernel_rfl) (by kernel_rfl) (by kernel_rfl) (fun _ _ _ h => h) (Or.inl ⟨by rfl, fun wx hS => ?_⟩) hH ?_
        · go_simp; have e1 := HMIN.out; omega
        simp only [Act.put, List.setIfInBounds_toArray, List.set_cons_zero, List.set_cons_succ]
        refine wpAnyH_take (i := 12) (oi := { dst := some 67, op := Op.slice 22 (Operand.tmp 59) none (some (Operand.tmp 66)) none, type := 22, pos := "law.go:84", after := #[{ on := 4, ground := Ground.data }, { on := 11, ground := Ground.data }], guard := none }) (v := .slice sa BB.length sc) rfl (by kernel_rfl) (by kernel_rfl) (by kernel_rfl) (fun _ _ _ h => h) (Or.inl ⟨by rfl, fun wx hS => ?_⟩) hH ?_
        · have e1 := SL.out wx; go_simp
        simp only [Act.put, List.setIfInBounds_toArray, List.set_cons_zero, List.set_cons_succ]
        refine wpAnyH_ready (rs := [13]) (by kernel_rfl) (by simp) ?_
        refine AllReadyH.cons (o := { dst := some 9, op := Op.assign (Operand.tmp 67), type := 22, pos := "law.go:84", after := #[{ on := 12, ground := Ground.data }, { on := 0, ground := Ground.phase }, { on := 1, ground := Ground.phase }, { on := 2, ground := Ground.phase }, { on := 3, ground := Ground.phase }, { on := 4, ground := Ground.phase }, { on := 5, ground := Ground.phase }, { on := 6, ground := Ground.phase }, { on := 7, ground := Ground.phase }, { on := 8, ground := Ground.phase }, { on := 9, ground := Ground.phase }, { on := 10, ground := Ground.phase }, { on := 11, ground := Ground.phase }, { on := 12, ground := Ground.phase }], guard := none }) rfl (fun KK hKK => ?_) AllReadyH.nil
        go_simp
        refine hKK.out _ _ hH (fun hH => ?_)
        clear hKK KK
        try simp only [Act.put, List.setIfInBounds_toArray, List.set_cons_zero, List.set_cons_succ]
        refine wpAnyH_done (by kernel_rfl) ?_ _
        refine NoPanic.normal ?_
        clear C3X CJX SL HMIN qR
        have HB2 := Lib.hid (HB.out.trans (But.of_below hH))
        have HT2 := Lib.hid (HT.out.below hH)
        clear HB HT hH
        have hz := Ci.zeroBlk
        go_upto_region 11 with fail
        clear hz
        have nz := blockIs.new x9 (zeros 16) 28
        have kz := alloc_below x9 (.cells (zeros 16).toArray 28 (0, 0))
        generalize x9.alloc (.cells (zeros 16).toArray 28 (0, 0)) = y9 at *
        obtain ⟨nb, hnb⟩ : ∃ nb, nb = x9.heap.size := ⟨_, rfl⟩
        have HNB := Lib.hid hnb
        rw [← hnb] at nz ⊢
        clear hnb
        obtain ⟨t, ht⟩ : ∃ t, t = 16 * k := ⟨_, rfl⟩
        have HTK := Lib.hid ht
        rw [← ht] at HT2
        have qm : Hid (IntKind.i64.wrap (16 * (k : Int)) = (t : Int)) := Lib.hid (by rw [IntWalk.i64_in _ (by omega)]; omega)
        have TP := Lib.hid (fun X => docTape_any G2 t 16 X (by omega) (by omega) (by omega))
        rw [show ((16 : Nat) : Int) = 16 from rfl] at TP
        clear ht

        refine wp_region_noPanic ?_
        refine wp_region_held_drew (S := fun w' => Below x9.heap.size x9 w') (by kernel_rfl) (below_drew' kz) (fun hH => ?_)
        have n2 : blockIs y9.drew nb (zeros 16) 28 := nz.drewN 1
        clear nz kz
        generalize y9.drew = y10 at *
        refine wpAnyH_take (i := 0) (oi := { dst := some 68, op := Op.slice 28 (Operand.tmp 10) none none none, type := 22, pos := "law.go:86", after := #[], guard := none }) (v := .slice (some ⟨nb, 0, none⟩) 16 16) rfl (by kernel_rfl) (by kernel_rfl) (by kernel_rfl) (fun _ _ _ h => h) (Or.inl ⟨by rfl, fun wx hS => ?_⟩) hH ?_
        · go_simp
        simp only [Act.put, List.setIfInBounds_toArray, List.set_cons_zero, List.set_cons_succ]
        refine wpAnyH_take (i := 1) (oi := { dst := some 69, op := Op.move (Operand.tmp 6), type := 9, pos := "law.go:86", after := #[], guard := none }) (v := .string (str G2)) rfl (by kernel_rfl) (by kernel_rfl) (by kernel_rfl) (fun _ _ _ h => h) (Or.inl ⟨by rfl, fun wx hS => ?_⟩) hH ?_
        · go_simp
        simp only [Act.put, List.setIfInBounds_toArray, List.set_cons_zero, List.set_cons_succ]
        refine wpAnyH_take (i := 2) (oi := { dst := some 70, op := Op.move (Operand.tmp 8), type := 3, pos := "law.go:86", after := #[], guard := none }) (v := .int .i64 (k : Int)) rfl (by kernel_rfl) (by kernel_rfl) (by kernel_rfl) (fun _ _ _ h => h) (Or.inl ⟨by rfl, fun wx hS => ?_⟩) hH ?_
        · go_simp
        simp only [Act.put, List.setIfInBounds_toArray, List.set_cons_zero, List.set_cons_succ]
        refine wpAnyH_take (i := 3) (oi := { dst := some 71, op := Op.binOp BinOp.mul 3 (Operand.const (Value.int IntKind.i64 16)) (Operand.tmp 70) 3, type := 3, pos := "law.go:86", after := #[{ on := 2, ground := Ground.data }], guard := none }) (v := .int .i64 (t : Int)) rfl (by kernel_rfl) (by kernel_rfl) (by kernel_rfl) (fun _ _ _ h => h) (Or.inl ⟨by rfl, fun wx hS => ?_⟩) hH ?_
        · have e1 := qm.out; go_simp
        simp only [Act.put, List.setIfInBounds_toArray, List.set_cons_zero, List.set_cons_succ]
        refine wpAnyH_ready (rs := [4]) (by kernel_rfl) (by simp) ?_
        refine AllReadyH.cons (o := { dst := some 72, op := Op.call { callee := Callee.value (Operand.func 17), args := #[Operand.tmp 69, Operand.tmp 71, Operand.const (Value.int IntKind.i64 16)], argTypes := #[9, 3, 3] }, type := 9, pos := "law.go:86", after := #[{ on := 1, ground := Ground.data }, { on := 3, ground := Ground.data }], guard := none }) rfl (fun KK hKK => ?_) AllReadyH.nil
        go_simp
        with_reducible refine (TP.out y10).mono ?_
        rintro e y11 ⟨rfl, kb⟩
        replace n2 := n2.below kb n2.lt
        have hN := hH.trans (kb.mono hH.size)
        clear hH kb
        refine hKK.out _ _ hN (fun hH => ?_)
        clear hKK KK hN
        try simp only [Act.put, List.setIfInBounds_toArray, List.set_cons_zero, List.set_cons_succ]
        have NL : Hid ((tbytes G2 t 16).length = 16) := Lib.hid (tbytes_length _ _ _)
        generalize hN : tbytes G2 t 16 = N at *
        have HN := Lib.hid hN
        clear hN TP qm
        refine wpAnyH_ready (rs := [5]) (by kernel_rfl) (by simp) ?_
        refine AllReadyH.cons (o := { dst := some 73, op := Op.call { callee := Callee.builtin Builtin.copy, args := #[Operand.tmp 68, Operand.tmp 72], argTypes := #[22, 9] }, type := 3, pos := "law.go:86", after := #[{ on := 0, ground := Ground.data }, { on := 4, ground := Ground.data }, { on := 4, ground := Ground.chain }], guard := none }) rfl (fun KK hKK => ?_) AllReadyH.nil
        refine Ci.step_copy_text rfl _ _ 22 9 rfl 5 Tryd.underlying22 size5 nb 0 16 16 rfl N rfl (zeros 16) 28 n2 (by rw [NL.out]; decide) (by rw [NL.out]; decide) ?_
        intro x11 h1 h2
        have h1 := h1.out
        rw [splice_all _ _ (by rw [byteCells_length, NL.out]; rfl)] at h1
        have hN := hH.trans (h2.out.below (Nat.le_of_eq HNB.out.symm) hH.size)
        have M11 := Lib.hid h1
        clear h1 h2 hH n2
        refine hKK.out _ _ hN (fun hH => ?_)
        clear hKK KK hN
        try simp only [Act.put, List.setIfInBounds_toArray, List.set_cons_zero, List.set_cons_succ]
        refine wpAnyH_done (by kernel_rfl) ?_ _
        refine NoPanic.normal ?_
        have HB3 := Lib.hid (HB2.out.trans (But.of_below hH))
        have HT3 := Lib.hid (HT2.out.below hH)
        have HNT : Hid (nb ≠ tb) := Lib.hid (by have := HT2.out.is.lt; have := HNB.out; omega)
        clear HB2 HT2 HNB hH
        have c4 : x11.cell? ⟨w.heap.size, 4, none⟩ = some (.int .u8 (V kd)) := by rw [(NX.out _ HB3.out).cell]; exact C4.out
        have RK := Lib.hid (keys_at HRG.out (QX.out _ HB3.out))
        have RN := Lib.hid (Ci.range_of M11.out)
        have cv := conv_string x11 sa BB sc (OB.out _ HB3.out).1.2.2
        have DS := Lib.hid (docSealR_any H M N kd nu BB x11 HL.out ML.out NL.out (by omega))
        have HSR := Lib.hid (seal_open H M N kd nu BB NL.out (by omega))
        have KL : Hid ((keyCells H M).length = 64) := Lib.hid (keyCells_length HL.out ML.out)
        obtain ⟨KC, hKC⟩ : ∃ KC, KC = keyCells H M := ⟨_, rfl⟩
        obtain ⟨NB, hNB⟩ : ∃ NB, NB = byteCells N := ⟨_, rfl⟩
        have NBL : Hid (NB.length = 16) := Lib.hid (by rw [hNB, byteCells_length, NL.out])
        rw [← hKC] at RK DS KL
        rw [← hNB] at RN DS
        have HKC := Lib.hid hKC
        clear hKC hNB
        obtain ⟨SR, hSR⟩ : ∃ SR, SR = sealR H M kd nu N BB := ⟨_, rfl⟩
        rw [← hSR] at DS HSR
        have HSE := Lib.hid hSR
        clear hSR
        obtain ⟨s1, s2⟩ := SR
        dsimp only at DS HSR
        go_wp2_with (first
          | (refine Ci.wpList_load_mid_if (by rfl) 36 _ rfl (pb + 1) 0 rfl KC _ RK.out Tryd.underlying36 rfl (by rw [infoRK, KL.out]) ?_)
          | (refine Ci.wpList_load_mid_if (by rfl) 28 _ rfl nb 0 rfl NB _ RN.out Tryd.underlying28 rfl (by rw [infoN, NBL.out]) ?_))
        with_reducible refine DS.out.mono ?_
        rintro e x12 ⟨rfl, kk⟩
        have HB4 := Lib.hid (HB3.out.trans (But.of_below kk))
        have HT4 := Lib.hid (HT3.out.below kk)
        clear kk DS HB3 HT3 cv RK RN M11 c4 NBL KL
        have HTL : Hid (tb < x12.heap.size) := Lib.hid HT4.out.is.lt
        have c4 : x12.cell? ⟨w.heap.size, 4, none⟩ = some (.int .u8 (V kd)) := by rw [(NX.out _ HB4.out).cell]; exact C4.out
        have RP := Lib.hid (Ci.range_of (PX.out _ HB4.out))
        have AB := alloc_below x12 (.cells #[.slice sa BB.length sc] 22 (0, 0))
        have AC := cellsAt.new x12 #[.slice sa BB.length sc] x12.heap.size 22 [.slice sa BB.length sc] rfl rfl
        have HB5 := Lib.hid (HB4.out.trans (But.of_below AB))
        have HT5 := Lib.hid (HT4.out.below AB)
        have PP := Lib.hid (fun X (kx : But tb (x12.alloc (.cells #[.slice sa BB.length sc] 22 (0, 0))) X) => parts_one (X := X) (g := x12.heap.size) (a := sa) (c := sc) (l := BB) (kx.cell (AC 0 _ rfl) (Nat.ne_of_gt HTL.out)) (OB.out X (HB5.out.trans kx)))
        have PW := Lib.hid (pwrite_any H M C tb fa fc G2 t kd nu (some ⟨x12.heap.size, 0, none⟩) 1 [BB] _ HL.out ML.out DL.out (by simp) (by simp; omega) PP.out (TX.out _ HB5.out) HTB2.out HT5.out (by have := HTK.out; omega))
        rw [← HRG.out, ← HPC.out, HN.out, show [BB].flatten = BB by simp, ← HSE.out, show [BB].length = 1 from rfl] at PW
        dsimp only at PW
        clear AB AC PP HB4 HT4 HTL
        go_wp2_with (refine Ci.wpList_load_mid_if (by rfl) 60 _ rfl pb 0 rfl PC _ RP.out Tryd.underlying60 rfl (by rw [infoPen, PL.out]) ?_)
        with_reducible refine PW.out.mono ?_
        rintro e x13 ⟨v, rfl, hv, hT, kk⟩
        obtain ⟨va, vc, rfl, hv1, hv2, hv3, -⟩ := hv.form
        have HB6 := Lib.hid (HB5.out.trans kk)
        have HT6 := Lib.hid hT
        have HV1 := Lib.hid hv1
        have HV2 := Lib.hid hv2
        have HV3 := Lib.hid hv3
        clear kk hT hv hv1 hv2 hv3 PW HB5 HT5 RP c4
        have cv := conv_string x13 va s1 vc HV3.out
        have sb : ((str s1).toList == (str s1).toList) = true := by simp
        obtain ⟨hs1, hs2⟩ := HSR.out
        rcases hs2 with rfl | ⟨rfl, hop⟩
        · go_wp2_with fail
          go_roundw
          case rel => exact ⟨k + 1, by omega, by omega, by go_num, HB6.out, by rw [show 16 * (k + 1) = t + 16 by have := HTK.out; omega]; exact HT6.out⟩
          case measure => simp [intOf]; omega
        · have HOP := Lib.hid hop
          clear hop
          have c4 : x13.cell? ⟨w.heap.size, 4, none⟩ = some (.int .u8 (V kd)) := by rw [(NX.out _ HB6.out).cell]; exact C4.out
          have RK := Lib.hid (pkeys_at HPC.out HRG.out (PX.out _ HB6.out))
          have KL : Hid ((keyCells H M).length = 64) := Lib.hid (keyCells_length HL.out ML.out)
          have OP := Lib.hid (openR_any H M kd nu s1 va vc x13 HL.out ML.out (by omega) HV1.out HV2.out HV3.out (TX.out _ HB6.out))
          rw [HOP.out] at OP
          dsimp only at OP
          obtain ⟨KC, hKC⟩ : ∃ KC, KC = keyCells H M := ⟨_, rfl⟩
          rw [← hKC] at RK KL OP
          clear hKC
          go_wp2_with (refine Ci.wpList_load_mid_if (by rfl) 45 _ rfl pb 0 rfl KC _ RK.out Tryd.underlying45 rfl (by rw [infoWK, KL.out]) ?_)
          with_reducible refine OP.out.mono ?_
          rintro e x14 ⟨v, rfl, hv, kk⟩
          obtain ⟨oa, oc, rfl, -, -, ho3, -⟩ := hv.form
          have HB7 := Lib.hid (HB6.out.trans (But.of_below kk))
          have HT7 := Lib.hid (HT6.out.below kk)
          have cv1 := conv_string x14 oa BB oc ho3
          have cv2 := conv_string x14 sa BB sc (OB.out _ HB7.out).1.2.2
          have sb2 : ((str BB).toList == (str BB).toList) = true := by simp
          clear kk hv ho3 OP RK HB6 HT6 cv
          go_wp2_with fail
          go_roundw
          case rel => exact ⟨k + 1, by omega, by omega, by go_num, HB7.out, by rw [show 16 * (k + 1) = t + 16 by have := HTK.out; omega]; exact HT7.out⟩
          case measure => simp [intOf]; omega
      · have qR : ¬ (k : Int) < (R.length : Int) := by omega
        go_wp2_with fail
        go_ret
        exact ⟨rfl, BX.out _ HB.out⟩
    · have q8 : ¬ (k : Int) < 8 := by omega
      by_cases hR : k < R.length
      · have qR : (k : Int) < (R.length : Int) := by omega
        go_wp2_with fail
        go_ret
        exact ⟨rfl, BX.out _ HB.out⟩
      · have qR : ¬ (k : Int) < (R.length : Int) := by omega
        go_wp2_with fail
        go_ret
        exact ⟨rfl, BX.out _ HB.out⟩
end Go.Proofs.YtjkhokholcchfaaDoor
