/- The law KeyTapes: its walk. -/
import Derived.Test.YtjkhokholcchfaaDoorKb2
namespace Go.Proofs.YtjkhokholcchfaaDoor
open Go.RowKit Sha

set_option maxRecDepth 100000 in
set_option maxHeartbeats 8000000 in
theorem law_keyTapes (L : Ln) (w : World) (hok : L.ok w) (ht : tables w) :
    Calls Tryd.prog 10 #[.agg L.cells.toArray] w fun e w' => e = .returned (.bool true) ∧ Below w.heap.size w w' := by
  have A0 := alloc_below w (.cells L.cells.toArray 56 (0, 0))
  have N1 := Lib.hid (blockIs.new w L.cells 56)
  have OK1 := Lib.hid (hok.below A0)
  have OKW := Lib.hid N1.out.lt
  have T1 := Lib.hid (ht.below A0 ht.2.2.1 ht.2.2.2)
  have PN := Lib.hid (fun X (a : L.ok X) (b : tables X) => pen_any L X a b)
  obtain ⟨H, M, C, hH, hM, hC, hR⟩ := ring3 L.ring L.ring_length
  have HL := Lib.hid hH
  have ML := Lib.hid hM
  have DL := Lib.hid hC
  rw [hR] at PN
  have RL : Hid ((H ++ (M ++ C)).length = 96) := Lib.hid (by simp [hH, hM, hC])
  clear hR hH hM hC
  have B1 := Lib.hid A0
  clear A0 ht
  obtain ⟨wa, wc, W, st, ba, bc, G, ra, rc, R, kd, nm⟩ := L
  dsimp only at PN
  generalize hCL : Ln.cells ⟨wa, wc, W, st, ba, bc, G, ra, rc, R, kd, nm⟩ = CL at *
  have C2 : Hid (CL[2]? = some (.slice ba G.length bc)) := Lib.hid (by rw [← hCL]; rfl)
  have C3 : Hid (CL[3]? = some (.slice ra R.length rc)) := Lib.hid (by rw [← hCL]; rfl)
  have C4 : Hid (CL[4]? = some (.int .u8 (V kd))) := Lib.hid (by rw [← hCL]; rfl)
  have CL6 : Hid (CL.length = 6) := Lib.hid (by rw [← hCL]; rfl)
  clear hCL hok
  have PN1 := Lib.hid (PN.out _ OK1.out T1.out)
  go_enter Tryd.func10, Tryd.ntmps10
  have R0 := Lib.hid (Ci.range_of N1.out)
  have hzp := zeroPen
  have hzr := zeroRing2
  go_upto_region 1 with fail
  go_wp2_with (refine Ci.wpList_load_mid_if (by rfl) 56 _ rfl w.heap.size 0 rfl CL _ R0.out Tryd.underlying56 rfl (by rw [infoLine, CL6.out]) ?_)
  with_reducible refine PN1.out.mono ?_
  rintro e w2 ⟨tb, fa, fc, rfl, hlo, htp, kk⟩
  have HLO := Lib.hid hlo
  have HTB : Hid (1 ≠ tb ∧ 0 ≠ tb) := Lib.hid ⟨Nat.ne_of_lt (Nat.lt_of_lt_of_le T1.out.2.2.1 hlo), Nat.ne_of_lt (Nat.lt_of_lt_of_le T1.out.2.2.2 hlo)⟩
  have B2 := Lib.hid (B1.out.trans (kk.mono B1.out.size))
  have N2 := Lib.hid (N1.out.below kk N1.out.lt)
  have T2 := Lib.hid (T1.out.below kk T1.out.2.2.1 T1.out.2.2.2)
  have OK2 := Lib.hid (OK1.out.below kk)
  have K2 := Lib.hid kk
  have HT2 := Lib.hid htp
  clear hlo htp kk B1 N1 T1 PN1 R0
  obtain ⟨RG, hRG⟩ : ∃ RG, RG = H ++ (M ++ C) := ⟨_, rfl⟩
  rw [← hRG] at RL PN ⊢
  have HRG := Lib.hid hRG
  obtain ⟨PC, hPC⟩ : ∃ PC, PC = penCells RG tb := ⟨_, rfl⟩
  rw [← hPC]
  have HPC := Lib.hid hPC
  have PL : Hid (PC.length = 97) := Lib.hid (by rw [hPC]; exact penCells_length RG tb RL.out)
  have PO : Hid (∀ v ∈ PC, v.oneCell' = true) := Lib.hid (by rw [hPC]; exact penCells_one RG tb)
  clear hRG hPC
  have P2 := Lib.hid ((blockIs.new w2 (zeros 96 ++ [Value.pointer none]) 60).alloc (.cells (zeros 96).toArray 62 (0, 0)))
  have Q2 := Lib.hid (blockIs.last (w2.alloc (.cells (zeros 96 ++ [Value.pointer none]).toArray 60 (0, 0))) (zeros 96) 62 (w2.heap.size + 1) (by simp))
  have K3 := Lib.hid ((alloc_below w2 (.cells (zeros 96 ++ [Value.pointer none]).toArray 60 (0, 0))).alloc (by simp) (.cells (zeros 96).toArray 62 (0, 0)))
  go_wp2_with (refine wpList_store_block rfl 60 _ _ rfl w2.heap.size 0 PC rfl rfl (zeros 96 ++ [Value.pointer none]) 60 P2.out (by rw [infoPen, PL.out]) (by rw [PL.out]; simp [zeros]) PO.out ?_)
  intro w3 h1 h2 h3
  have h1 := h1.out
  rw [splice_all _ _ (by rw [PL.out]; simp [zeros])] at h1
  have P3 := Lib.hid h1
  have Q3 := Lib.hid (h2.out.is Q2.out (by omega))
  have K4 := Lib.hid (K3.out.trans (h2.out.below (Nat.le_refl _) K3.out.size))
  clear h1 h2 h3 P2 Q2 K3 PO
  go_wp2_with (refine wpList_store_block rfl 62 _ _ rfl (w2.heap.size + 1) 0 (byteCells RG) rfl rfl (zeros 96) 62 Q3.out (by rw [infoRing2, byteCells_length, RL.out]) (by simp [zeros, byteCells_length, RL.out]) (byteCells_one _) ?_)
  intro w4 h1 h2 h3
  have P4 := Lib.hid (h2.out.is P3.out (by omega))
  have kk := K4.out.trans (h2.out.below (Nat.le_succ _) K4.out.size)
  obtain ⟨pb, hpb⟩ : ∃ pb, pb = w2.heap.size := ⟨_, rfl⟩
  have HPT : Hid (tb < pb) := Lib.hid (by have := HT2.out.is.lt; omega)
  have HWP : Hid (w.heap.size < pb) := Lib.hid (by have := N2.out.lt; omega)
  rw [← hpb] at P4 ⊢
  have B4 := Lib.hid (B2.out.trans (kk.mono B2.out.size))
  have N4 := Lib.hid (N2.out.below kk N2.out.lt)
  have T4 := Lib.hid (T2.out.below kk T2.out.2.2.1 T2.out.2.2.2)
  have OK4 := Lib.hid (OK2.out.below kk)
  have HT4 := Lib.hid (HT2.out.below kk)
  have K4 := Lib.hid (K2.out.trans (kk.mono K2.out.size))
  clear h1 h2 h3 P3 Q3 kk hpb B2 N2 T2 OK2 HT2 K2
  have PN1 := Lib.hid (PN.out _ OK4.out T4.out)
  have R0 := Lib.hid (Ci.range_of N4.out)
  clear PN
  go_upto_region 2 with fail
  go_wp2_with (refine Ci.wpList_load_mid_if (by rfl) 56 _ rfl w.heap.size 0 rfl CL _ R0.out Tryd.underlying56 rfl (by rw [infoLine, CL6.out]) ?_)
  with_reducible refine PN1.out.mono ?_
  rintro e w5 ⟨ub, ga, gc, rfl, hlo, htp, kk⟩
  have HUB : Hid (1 ≠ ub ∧ 0 ≠ ub) := Lib.hid ⟨Nat.ne_of_lt (Nat.lt_of_lt_of_le T4.out.2.2.1 hlo), Nat.ne_of_lt (Nat.lt_of_lt_of_le T4.out.2.2.2 hlo)⟩
  have HPU : Hid (pb + 1 ≤ ub) := Lib.hid (by have := P4.out.lt; omega)
  have HLU := Lib.hid (Nat.le_trans K4.out.size hlo)
  have B5 := Lib.hid (B4.out.trans (kk.mono B4.out.size))
  have N5 := Lib.hid (N4.out.below kk N4.out.lt)
  have P5 := Lib.hid (P4.out.below kk P4.out.lt)
  have T5 := Lib.hid (T4.out.below kk T4.out.2.2.1 T4.out.2.2.2)
  have HT5 := Lib.hid (HT4.out.below kk)
  have K5 := Lib.hid (K4.out.trans (kk.mono K4.out.size))
  have HU5 := Lib.hid htp
  clear hlo htp kk B4 N4 P4 T4 OK4 PN1 R0 HT4 K4
  obtain ⟨PD, hPD⟩ : ∃ PD, PD = penCells RG ub := ⟨_, rfl⟩
  rw [← hPD]
  have HPD := Lib.hid hPD
  have DPL : Hid (PD.length = 97) := Lib.hid (by rw [hPD]; exact penCells_length RG ub RL.out)
  have DPO : Hid (∀ v ∈ PD, v.oneCell' = true) := Lib.hid (by rw [hPD]; exact penCells_one RG ub)
  clear hPD
  have D5 := Lib.hid ((blockIs.new w5 (zeros 96 ++ [Value.pointer none]) 60).alloc (.cells (zeros 96).toArray 62 (0, 0)))
  have E5 := Lib.hid (blockIs.last (w5.alloc (.cells (zeros 96 ++ [Value.pointer none]).toArray 60 (0, 0))) (zeros 96) 62 (w5.heap.size + 1) (by simp))
  have K6 := Lib.hid ((alloc_below w5 (.cells (zeros 96 ++ [Value.pointer none]).toArray 60 (0, 0))).alloc (by simp) (.cells (zeros 96).toArray 62 (0, 0)))
  go_wp2_with (refine wpList_store_block rfl 60 _ _ rfl w5.heap.size 0 PD rfl rfl (zeros 96 ++ [Value.pointer none]) 60 D5.out (by rw [infoPen, DPL.out]) (by rw [DPL.out]; simp [zeros]) DPO.out ?_)
  intro w6 h1 h2 h3
  have h1 := h1.out
  rw [splice_all _ _ (by rw [DPL.out]; simp [zeros])] at h1
  have D6 := Lib.hid h1
  have E6 := Lib.hid (h2.out.is E5.out (by omega))
  have K7 := Lib.hid (K6.out.trans (h2.out.below (Nat.le_refl _) K6.out.size))
  clear h1 h2 h3 D5 E5 K6 DPO hzp hzr
  go_wp2_with (refine wpList_store_block rfl 62 _ _ rfl (w5.heap.size + 1) 0 (byteCells RG) rfl rfl (zeros 96) 62 E6.out (by rw [infoRing2, byteCells_length, RL.out]) (by simp [zeros, byteCells_length, RL.out]) (byteCells_one _) ?_)
  intro w7 h1 h2 h3
  have h1 := h1.out
  rw [splice_all _ _ (by simp [zeros, byteCells_length, RL.out])] at h1
  have E7 := Lib.hid h1
  have D7 := Lib.hid (h2.out.is D6.out (by omega))
  have kk := K7.out.trans (h2.out.below (Nat.le_succ _) K7.out.size)
  obtain ⟨qb, hqb⟩ : ∃ qb, qb = w5.heap.size := ⟨_, rfl⟩
  have HQ : Hid (ub < qb ∧ pb < qb) := Lib.hid (by have := HU5.out.is.lt; have := P5.out.lt; omega)
  rw [← hqb] at D7 E7 ⊢
  have B7 := Lib.hid (B5.out.trans (kk.mono B5.out.size))
  have N7 := Lib.hid (N5.out.below kk N5.out.lt)
  have P7 := Lib.hid (P5.out.below kk P5.out.lt)
  have T7 := Lib.hid (T5.out.below kk T5.out.2.2.1 T5.out.2.2.2)
  have HT7 := Lib.hid (HT5.out.below kk)
  have HU7 := Lib.hid (HU5.out.below kk)
  have K8 := Lib.hid (K5.out.trans (kk.mono K5.out.size))
  clear h1 h2 h3 D6 E6 K7 kk hqb B5 N5 P5 T5 HT5 HU5 K5
  have RI := Lib.hid (rings_any w7 T7.out)
  go_upto_region 3 with fail
  go_wp2_with fail
  with_reducible refine RI.out.mono ?_
  rintro e w8 ⟨rfl, kk⟩
  have B8 := Lib.hid (B7.out.trans (kk.mono B7.out.size))
  have N8 := Lib.hid (N7.out.below kk N7.out.lt)
  have P8 := Lib.hid (P7.out.below kk P7.out.lt)
  have D8 := Lib.hid (D7.out.below kk D7.out.lt)
  have E8 := Lib.hid (E7.out.below kk E7.out.lt)
  have T8 := Lib.hid (T7.out.below kk T7.out.2.2.1 T7.out.2.2.2)
  have HT8 := Lib.hid (HT7.out.below kk)
  have HU8 := Lib.hid (HU7.out.below kk)
  have K9 := Lib.hid (K8.out.trans (kk.mono K8.out.size))
  clear kk B7 N7 P7 D7 E7 T7 HT7 HU7 K8 RI
  have FA := Lib.hid (HU8.out.far HT8.out)
  have GA := Lib.hid (HT8.out.far HU8.out)
  have TU : Hid (tb ≠ ub) := Lib.hid (by have := HPT.out; have := HPU.out; omega)
  have hg1 : (G.take 100).length ≤ 100 := by rw [List.length_take]; omega
  have GX := Lib.hid (fun Y (k : But2 tb ub w8 Y) => But2.ok0 OK1.out.begins HLO.out HLU.out ((But2.of_below K9.out).trans k))
  have RX : Hid (∀ j, j < R.length → ∃ pb po, ra = some ⟨pb, po, none⟩ ∧ ∃ aj cj, ∀ Y, But2 tb ub w8 Y → Y.cell? ⟨pb, po + j, none⟩ = some (.slice aj (R.getD j []).length cj) ∧ Pt.ok0 Y ⟨aj, cj, R.getD j []⟩) := Lib.hid (fun j hj => by
    obtain ⟨pb, po, e, aj, cj, h⟩ := OK1.out.rows.two HLO.out HLU.out j hj
    exact ⟨pb, po, e, aj, cj, fun Y k => h Y ((But2.of_below K9.out).trans k)⟩)
  dsimp only at GX
  have NX := Lib.hid (fun X (k : But2 tb ub w8 X) => k.is N8.out (by have := HWP.out; have := HLO.out; have := OKW.out; omega) (by have := HWP.out; have := HPU.out; omega))
  have PX := Lib.hid (fun X (k : But2 tb ub w8 X) => k.is P8.out (by have := HPT.out; omega) (by have := HPU.out; omega))
  have DX := Lib.hid (fun X (k : But2 tb ub w8 X) => k.is D8.out (by have := HPT.out; have := HQ.out; omega) (by have := HQ.out; omega))
  have EX := Lib.hid (fun X (k : But2 tb ub w8 X) => k.is E8.out (by have := HPT.out; have := HQ.out; omega) (by have := HQ.out; omega))
  have TX := Lib.hid (fun X (k : But2 tb ub w8 X) => T8.out.but2 k HTB.out HUB.out)
  have BX := Lib.hid (fun X (k : But2 tb ub w8 X) => B8.out.trans (k.below (by have := HLO.out; have := OKW.out; omega) (by have := HWP.out; have := HPU.out; omega) B8.out.size))
  clear N8 P8 D8 E8 T8 B8 K9 OK1 HLO HLU HWP HPU HPT HQ
  generalize w.alloc (.cells CL.toArray 56 (0, 0)) = w1 at *
  generalize hG2 : G.take 100 = G2 at *
  have HG2 := Lib.hid hG2
  clear hG2
  go_upto_region 5 with fail
  go_wp2_with fail
  go_loopw [9] (fun i wr => ∃ k : Nat, k ≤ R.length ∧ k ≤ 6 ∧ i = .int .i64 k ∧ But2 tb ub w8 wr ∧ tapeAt wr tb fa fc G2 (16 * k) ∧ tapeAt wr ub ga gc G2 (16 * k)) (fun i _ => 6 - (intOf i).toNat)
  case atStart => exact ⟨0, by omega, by omega, rfl, But2.refl _ _ _, HT8.out, HU8.out⟩
  case round =>
    obtain ⟨k, hkR, hk8, rfl, hB, hT, hU⟩ := hrel
    have HB := Lib.hid hB
    have HT := Lib.hid hT
    have HU := Lib.hid hU
    have c3 : wr.cell? ⟨w.heap.size, 3, none⟩ = some (.slice ra R.length rc) := by rw [(NX.out wr HB.out).cell]; exact C3.out
    by_cases hgo : k < R.length ∧ k < 6
    · obtain ⟨hR, h8⟩ := hgo
      have q8 : (k : Int) < 6 := by omega
      have qR : (k : Int) < (R.length : Int) := by omega
      have p0 : (0 : Int) ≤ (k : Int) := by omega
      obtain ⟨zb, zo, rfl, aj, cj, hrow⟩ := RX.out k hR
      obtain ⟨RB, hRB⟩ : ∃ RB, RB = R.getD k [] := ⟨_, rfl⟩
      rw [← hRB] at hrow
      obtain ⟨m, hm⟩ : ∃ m, m = min RB.length 300 := ⟨_, rfl⟩
      have HMIN : Hid (min (RB.length : Int) 300 = (m : Int)) := Lib.hid (by omega)
      obtain ⟨sa, sc, hsl, hso⟩ := cut_to aj cj RB 300 m hm (hrow wr HB.out).2.1.1
      have hb1 : (RB.take 300).length ≤ 300 := by rw [List.length_take]; omega
      have SL := Lib.hid hsl
      have OB := Lib.hid (fun Y (h : But2 tb ub w8 Y) => hso Y (hrow Y h).2)
      have C3X : Hid (∀ X, Below wr.heap.size wr X → X.cell? ⟨w.heap.size, 3, none⟩ = some (.slice (some ⟨zb, zo, none⟩) R.length rc)) := Lib.hid (fun X hX => by rw [(NX.out X (HB.out.trans (But2.of_below hX))).cell]; exact C3.out)
      have CJX := Lib.hid (fun X (hX : Below wr.heap.size wr X) => (hrow X (HB.out.trans (But2.of_below hX))).1)
      clear hrow hRB hm hsl hso
      generalize RB.take 300 = BB at *
      clear hB hT hU
      go_upto_region 8 with fail
      clear c3
      refine wp_region_noPanic ?_
      refine wp_region_held_drew (S := fun w' => Below wr.heap.size wr w') (by kernel_rfl) (below_drew' (Below.refl _ _)) (fun hH => ?_)
      generalize wr.drew = x9 at *
      refine wpAnyH_take (i := 0) (oi := { dst := some 53, op := Op.fieldAddr 56 (Operand.tmp 1) 3, type := 0, pos := "law.go:133", after := #[], guard := none }) (v := .pointer (some ⟨w.heap.size, 3, none⟩)) rfl (by kernel_rfl) (by kernel_rfl) (by kernel_rfl) (fun _ _ _ h => h) (Or.inl ⟨by rfl, fun wx hS => ?_⟩) hH ?_
      · go_simp
      simp only [Act.put, List.setIfInBounds_toArray, List.set_cons_zero, List.set_cons_succ]
      refine wpAnyH_take (i := 1) (oi := { dst := some 54, op := Op.load 54 (Operand.tmp 53), type := 54, pos := "law.go:133", after := #[{ on := 0, ground := Ground.data }], guard := none }) (v := .slice (some ⟨zb, zo, none⟩) R.length rc) rfl (by kernel_rfl) (by kernel_rfl) (by kernel_rfl) (fun _ _ _ h => h) (Or.inl ⟨by rfl, fun wx hS => ?_⟩) hH ?_
      · have e1 := C3X.out wx hS; go_simp
      simp only [Act.put, List.setIfInBounds_toArray, List.set_cons_zero, List.set_cons_succ]
      refine wpAnyH_take (i := 2) (oi := { dst := some 55, op := Op.move (Operand.tmp 9), type := 3, pos := "law.go:133", after := #[], guard := none }) (v := .int .i64 (k : Int)) rfl (by kernel_rfl) (by kernel_rfl) (by kernel_rfl) (fun _ _ _ h => h) (Or.inl ⟨by rfl, fun wx hS => ?_⟩) hH ?_
      · go_simp
      simp only [Act.put, List.setIfInBounds_toArray, List.set_cons_zero, List.set_cons_succ]
      refine wpAnyH_take (i := 3) (oi := { dst := some 56, op := Op.indexAddr 54 (Operand.tmp 54) (Operand.tmp 55), type := 0, pos := "law.go:133", after := #[{ on := 1, ground := Ground.data }, { on := 2, ground := Ground.data }], guard := none }) (v := .pointer (some ⟨zb, zo + k, none⟩)) rfl (by kernel_rfl) (by kernel_rfl) (by kernel_rfl) (fun _ _ _ h => h) (Or.inl ⟨by rfl, fun wx hS => ?_⟩) hH ?_
      · go_simp
      simp only [Act.put, List.setIfInBounds_toArray, List.set_cons_zero, List.set_cons_succ]
      refine wpAnyH_take (i := 4) (oi := { dst := some 57, op := Op.load 22 (Operand.tmp 56), type := 22, pos := "law.go:133", after := #[{ on := 3, ground := Ground.data }], guard := none }) (v := .slice aj RB.length cj) rfl (by kernel_rfl) (by kernel_rfl) (by kernel_rfl) (fun _ _ _ h => h) (Or.inl ⟨by rfl, fun wx hS => ?_⟩) hH ?_
      · have e1 := CJX.out wx hS; go_simp
      simp only [Act.put, List.setIfInBounds_toArray, List.set_cons_zero, List.set_cons_succ]
      refine wpAnyH_take (i := 5) (oi := { dst := some 58, op := Op.fieldAddr 56 (Operand.tmp 1) 3, type := 0, pos := "law.go:133", after := #[], guard := none }) (v := .pointer (some ⟨w.heap.size, 3, none⟩)) rfl (by kernel_rfl) (by kernel_rfl) (by kernel_rfl) (fun _ _ _ h => h) (Or.inl ⟨by rfl, fun wx hS => ?_⟩) hH ?_
      · go_simp
      simp only [Act.put, List.setIfInBounds_toArray, List.set_cons_zero, List.set_cons_succ]
      refine wpAnyH_take (i := 6) (oi := { dst := some 59, op := Op.load 54 (Operand.tmp 58), type := 54, pos := "law.go:133", after := #[{ on := 5, ground := Ground.data }], guard := none }) (v := .slice (some ⟨zb, zo, none⟩) R.length rc) rfl (by kernel_rfl) (by kernel_rfl) (by kernel_rfl) (fun _ _ _ h => h) (Or.inl ⟨by rfl, fun wx hS => ?_⟩) hH ?_
      · have e1 := C3X.out wx hS; go_simp
      simp only [Act.put, List.setIfInBounds_toArray, List.set_cons_zero, List.set_cons_succ]
      refine wpAnyH_take (i := 7) (oi := { dst := some 60, op := Op.move (Operand.tmp 9), type := 3, pos := "law.go:133", after := #[], guard := none }) (v := .int .i64 (k : Int)) rfl (by kernel_rfl) (by kernel_rfl) (by kernel_rfl) (fun _ _ _ h => h) (Or.inl ⟨by rfl, fun wx hS => ?_⟩) hH ?_
      · go_simp
      simp only [Act.put, List.setIfInBounds_toArray, List.set_cons_zero, List.set_cons_succ]
      refine wpAnyH_take (i := 8) (oi := { dst := some 61, op := Op.indexAddr 54 (Operand.tmp 59) (Operand.tmp 60), type := 0, pos := "law.go:133", after := #[{ on := 6, ground := Ground.data }, { on := 7, ground := Ground.data }], guard := none }) (v := .pointer (some ⟨zb, zo + k, none⟩)) rfl (by kernel_rfl) (by kernel_rfl) (by kernel_rfl) (fun _ _ _ h => h) (Or.inl ⟨by rfl, fun wx hS => ?_⟩) hH ?_
      · go_simp
      simp only [Act.put, List.setIfInBounds_toArray, List.set_cons_zero, List.set_cons_succ]
      refine wpAnyH_take (i := 9) (oi := { dst := some 62, op := Op.load 22 (Operand.tmp 61), type := 22, pos := "law.go:133", after := #[{ on := 8, ground := Ground.data }], guard := none }) (v := .slice aj RB.length cj) rfl (by kernel_rfl) (by kernel_rfl) (by kernel_rfl) (fun _ _ _ h => h) (Or.inl ⟨by rfl, fun wx hS => ?_⟩) hH ?_
      · have e1 := CJX.out wx hS; go_simp
      simp only [Act.put, List.setIfInBounds_toArray, List.set_cons_zero, List.set_cons_succ]
      refine wpAnyH_take (i := 10) (oi := { dst := some 63, op := Op.call { callee := Callee.builtin Builtin.len, args := #[Operand.tmp 62], argTypes := #[22] }, type := 3, pos := "law.go:133", after := #[{ on := 9, ground := Ground.data }], guard := none }) (v := .int .i64 (RB.length : Int)) rfl (by kernel_rfl) (by kernel_rfl) (by kernel_rfl) (fun _ _ _ h => h) (Or.inl ⟨by rfl, fun wx hS => ?_⟩) hH ?_
      · go_simp
      simp only [Act.put, List.setIfInBounds_toArray, List.set_cons_zero, List.set_cons_succ]
      refine wpAnyH_take (i := 11) (oi := { dst := some 64, op := Op.call { callee := Callee.builtin Builtin.min, args := #[Operand.tmp 63, Operand.const (Value.int IntKind.i64 300)], argTypes := #[3, 3] }, type := 3, pos := "law.go:133", after := #[{ on := 10, ground := Ground.data }], guard := none }) (v := .int .i64 (m : Int)) rfl (by kernel_rfl) (by kernel_rfl) (by kernel_rfl) (fun _ _ _ h => h) (Or.inl ⟨by rfl, fun wx hS => ?_⟩) hH ?_
      · go_simp; have e1 := HMIN.out; omega
      simp only [Act.put, List.setIfInBounds_toArray, List.set_cons_zero, List.set_cons_succ]
      refine wpAnyH_take (i := 12) (oi := { dst := some 65, op := Op.slice 22 (Operand.tmp 57) none (some (Operand.tmp 64)) none, type := 22, pos := "law.go:133", after := #[{ on := 4, ground := Ground.data }, { on := 11, ground := Ground.data }], guard := none }) (v := .slice sa BB.length sc) rfl (by kernel_rfl) (by kernel_rfl) (by kernel_rfl) (fun _ _ _ h => h) (Or.inl ⟨by rfl, fun wx hS => ?_⟩) hH ?_
      · have e1 := SL.out wx; go_simp
      simp only [Act.put, List.setIfInBounds_toArray, List.set_cons_zero, List.set_cons_succ]
      refine wpAnyH_ready (rs := [13]) (by kernel_rfl) (by simp) ?_
      refine AllReadyH.cons (o := { dst := some 10, op := Op.assign (Operand.tmp 65), type := 22, pos := "law.go:133", after := #[{ on := 12, ground := Ground.data }, { on := 0, ground := Ground.phase }, { on := 1, ground := Ground.phase }, { on := 2, ground := Ground.phase }, { on := 3, ground := Ground.phase }, { on := 4, ground := Ground.phase }, { on := 5, ground := Ground.phase }, { on := 6, ground := Ground.phase }, { on := 7, ground := Ground.phase }, { on := 8, ground := Ground.phase }, { on := 9, ground := Ground.phase }, { on := 10, ground := Ground.phase }, { on := 11, ground := Ground.phase }, { on := 12, ground := Ground.phase }], guard := none }) rfl (fun KK hKK => ?_) AllReadyH.nil
      go_simp
      refine hKK.out _ _ hH (fun hH => ?_)
      clear hKK KK
      try simp only [Act.put, List.setIfInBounds_toArray, List.set_cons_zero, List.set_cons_succ]
      refine wpAnyH_done (by kernel_rfl) ?_ _
      refine NoPanic.normal ?_
      clear C3X CJX SL HMIN qR
      have HB1 := Lib.hid (HB.out.trans (But2.of_below hH))
      have HT1 := Lib.hid (HT.out.below hH)
      have HU1 := Lib.hid (HU.out.below hH)
      clear HB HT HU hH
      have c4 : x9.cell? ⟨w.heap.size, 4, none⟩ = some (.int .u8 (V kd)) := by rw [(NX.out _ HB1.out).cell]; exact C4.out
      have RP := Lib.hid (Ci.range_of (PX.out _ HB1.out))
      have AB := alloc_below x9 (.cells #[.slice sa BB.length sc] 22 (0, 0))
      have AC := cellsAt.new x9 #[.slice sa BB.length sc] x9.heap.size 22 [.slice sa BB.length sc] rfl rfl
      have HB2 := Lib.hid (HB1.out.trans (But2.of_below AB))
      have HT2 := Lib.hid (HT1.out.below AB)
      have HU2 := Lib.hid (HU1.out.below AB)
      have HTL : Hid (tb < x9.heap.size ∧ ub < x9.heap.size) := Lib.hid ⟨HT1.out.is.lt, HU1.out.is.lt⟩
      have PP := Lib.hid (fun X (kx : But tb (x9.alloc (.cells #[.slice sa BB.length sc] 22 (0, 0))) X) => parts_one (X := X) (g := x9.heap.size) (a := sa) (c := sc) (l := BB) (kx.cell (AC 0 _ rfl) (Nat.ne_of_gt HTL.out.1)) (OB.out X (HB2.out.trans (But2.left kx))))
      obtain ⟨t, ht⟩ : ∃ t, t = 16 * k := ⟨_, rfl⟩
      have HTK := Lib.hid ht
      rw [← ht] at HT2 HU2
      clear ht
      have PW := Lib.hid (pwrite_any H M C tb fa fc G2 t kd [110] (some ⟨x9.heap.size, 0, none⟩) 1 [BB] _ HL.out ML.out DL.out (by simp) (by simp; omega) PP.out (TX.out _ HB2.out) HTB.out HT2.out (by have := HTK.out; omega))
      have PWU := Lib.hid (fun X a c ls h1 h2 h3 h4 h5 => pwrite_any H M C ub ga gc G2 t kd [110] a c ls X HL.out ML.out DL.out h1 h2 h3 h4 HUB.out h5 (by have := HTK.out; omega))
      have NL : Hid ((tbytes G2 t 16).length = 16) := Lib.hid (tbytes_length _ _ _)
      generalize hN : tbytes G2 t 16 = N at *
      clear hN
      have SO := Lib.hid (sealR_ok H M kd N BB NL.out)
      rw [← HRG.out, ← HPC.out, show [BB].flatten = BB by simp, show [BB].length = 1 from rfl, str_n, SO.out.1] at PW
      rw [← HRG.out, ← HPD.out, str_n] at PWU
      clear AB AC PP HB1 HT1 HU1
      go_wp2_with (refine Ci.wpList_load_mid_if (by rfl) 60 _ rfl pb 0 rfl PC _ RP.out Tryd.underlying60 rfl (by rw [infoPen, PL.out]) ?_)
      with_reducible refine PW.out.mono ?_
      rintro e x11 ⟨v, rfl, hv, hT, kk⟩
      obtain ⟨vg, vc, rfl, hv0, hvl, hv1, hv2, hv3⟩ := own_at hv SO.out.2.1
      have HV := Lib.hid hv3
      have HVU : Hid (vg ≠ ub) := Lib.hid (by have := HTL.out.2; simp at hv0; omega)
      have HB3 := Lib.hid (HB2.out.trans (But2.left kk))
      have HT3 := Lib.hid hT
      have HU3 := Lib.hid (HU2.out.other2 kk (Ne.symm TU.out) GA.out)
      clear kk hT hv hv0 hvl HTL PW HB2 HT2 HU2 RP c4
      obtain ⟨h, hh⟩ : ∃ h, h = BB.length / 2 := ⟨_, rfl⟩
      have HQU : Hid (IntKind.i64.wrap ((BB.length : Int) / 2) = (h : Int)) := Lib.hid (by rw [IntWalk.i64_in _ (by omega)]; omega)
      have hhl : h ≤ BB.length := by omega
      have HSC := Lib.hid (OB.out x11 HB3.out).1.1
      have SH := Lib.hid (Pt.run_h ⟨sa, sc, BB⟩ h hhl HSC.out)
      have SL := Lib.hid (Pt.run_l ⟨sa, sc, BB⟩ h hhl HSC.out)
      have OK2 := Lib.hid (fun X (k : But2 tb ub w8 X) => And.intro (Pt.sub_ok0 (OB.out X k) 0 h (Nat.zero_le _) hhl) (Pt.sub_ok0 (OB.out X k) h BB.length hhl (Nat.le_refl _)))
      have FL : Hid ([(Pt.sub ⟨sa, sc, BB⟩ 0 h).l, (Pt.sub ⟨sa, sc, BB⟩ h BB.length).l].flatten = BB) := Lib.hid (by
        show [(BB.take h).drop 0, (BB.take BB.length).drop h].flatten = BB
        rw [List.take_length]
        simp)
      dsimp only at SH SL
      generalize Pt.sub ⟨sa, sc, BB⟩ 0 h = p1 at *
      generalize Pt.sub ⟨sa, sc, BB⟩ h BB.length = p2 at *
      clear hh
      go_upto_region 10 with fail

      have TS0 : TwS w8 tb ub x11 := ⟨HB3.out⟩
      refine wp_region_noPanic ?_
      refine wp_region_held_drew (S := fun w' => TwS w8 tb ub w') (by kernel_rfl) (TS0.drew) (fun hH => ?_)
      clear TS0
      have HVd := bytesIn.below HV.out (below_drew' (Below.refl x11.heap.size x11))
      have HUd := HU3.out.below (below_drew' (Below.refl x11.heap.size x11))
      have HTd := HT3.out.below (below_drew' (Below.refl x11.heap.size x11))
      clear HV HU3 HT3 HB3
      generalize x11.drew = y0 at *
      refine wpAnyH_take (i := 0) (oi := { dst := some 76, op := Op.load 60 (Operand.tmp 6), type := 60, pos := "law.go:135", after := #[], guard := none }) (v := .agg (PD).toArray) rfl (by kernel_rfl) (by kernel_rfl) (by kernel_rfl) (fun _ _ _ h => h) (yieldsIf_load_mid (by rfl) 60 _ rfl (qb) 0 rfl (PD) _ (fun wx hS => Ci.range_of (DX.out wx hS.b)) Tryd.underlying60 rfl (by rw [infoPen, DPL.out])) hH ?_
      simp only [Act.put, List.setIfInBounds_toArray, List.set_cons_zero, List.set_cons_succ]
      refine wpAnyH_take (i := 1) (oi := { dst := some 77, op := Op.fieldAddr 56 (Operand.tmp 1) 4, type := 0, pos := "law.go:135", after := #[], guard := none }) (v := .pointer (some ⟨w.heap.size, 4, none⟩)) rfl (by kernel_rfl) (by kernel_rfl) (by kernel_rfl) (fun _ _ _ h => h) (Or.inl ⟨by rfl, fun wx hS => ?_⟩) hH ?_
      · go_simp
      simp only [Act.put, List.setIfInBounds_toArray, List.set_cons_zero, List.set_cons_succ]
      refine wpAnyH_take (i := 2) (oi := { dst := some 78, op := Op.load 5 (Operand.tmp 77), type := 5, pos := "law.go:135", after := #[{ on := 1, ground := Ground.data }], guard := none }) (v := .int .u8 (V kd)) rfl (by kernel_rfl) (by kernel_rfl) (by kernel_rfl) (fun _ _ _ h => h) (Or.inl ⟨by rfl, fun wx hS => ?_⟩) hH ?_
      · have e1 : wx.cell? ⟨w.heap.size, 4, none⟩ = some (.int .u8 (V kd)) := (by rw [(NX.out _ hS.b).cell]; exact C4.out); go_simp
      simp only [Act.put, List.setIfInBounds_toArray, List.set_cons_zero, List.set_cons_succ]
      refine wpAnyH_take (i := 3) (oi := { dst := some 79, op := Op.move (Operand.tmp 10), type := 22, pos := "law.go:135", after := #[], guard := none }) (v := .slice sa BB.length sc) rfl (by kernel_rfl) (by kernel_rfl) (by kernel_rfl) (fun _ _ _ h => h) (Or.inl ⟨by rfl, fun wx hS => ?_⟩) hH ?_
      · go_simp
      simp only [Act.put, List.setIfInBounds_toArray, List.set_cons_zero, List.set_cons_succ]
      refine wpAnyH_take (i := 4) (oi := { dst := some 80, op := Op.move (Operand.tmp 10), type := 22, pos := "law.go:135", after := #[], guard := none }) (v := .slice sa BB.length sc) rfl (by kernel_rfl) (by kernel_rfl) (by kernel_rfl) (fun _ _ _ h => h) (Or.inl ⟨by rfl, fun wx hS => ?_⟩) hH ?_
      · go_simp
      simp only [Act.put, List.setIfInBounds_toArray, List.set_cons_zero, List.set_cons_succ]
      refine wpAnyH_take (i := 5) (oi := { dst := some 81, op := Op.call { callee := Callee.builtin Builtin.len, args := #[Operand.tmp 80], argTypes := #[22] }, type := 3, pos := "law.go:135", after := #[{ on := 4, ground := Ground.data }], guard := none }) (v := .int .i64 (BB.length : Int)) rfl (by kernel_rfl) (by kernel_rfl) (by kernel_rfl) (fun _ _ _ h => h) (Or.inl ⟨by rfl, fun wx hS => ?_⟩) hH ?_
      · go_simp
      simp only [Act.put, List.setIfInBounds_toArray, List.set_cons_zero, List.set_cons_succ]
      refine wpAnyH_take (i := 6) (oi := { dst := some 82, op := Op.binOp BinOp.quo 3 (Operand.tmp 81) (Operand.const (Value.int IntKind.i64 2)) 3, type := 3, pos := "law.go:135", after := #[{ on := 5, ground := Ground.data }], guard := none }) (v := .int .i64 (h : Int)) rfl (by kernel_rfl) (by kernel_rfl) (by kernel_rfl) (fun _ _ _ h => h) (Or.inl ⟨by rfl, fun wx hS => ?_⟩) hH ?_
      · have e1 := HQU.out; go_simp
      simp only [Act.put, List.setIfInBounds_toArray, List.set_cons_zero, List.set_cons_succ]
      refine wpAnyH_take (i := 7) (oi := { dst := some 83, op := Op.slice 22 (Operand.tmp 79) none (some (Operand.tmp 82)) none, type := 22, pos := "law.go:135", after := #[{ on := 3, ground := Ground.data }, { on := 6, ground := Ground.data }], guard := none }) (v := .slice p1.a p1.l.length p1.c) rfl (by kernel_rfl) (by kernel_rfl) (by kernel_rfl) (fun _ _ _ h => h) (Or.inl ⟨by rfl, fun wx hS => ?_⟩) hH ?_
      · have e1 := SH.out wx; go_simp
      simp only [Act.put, List.setIfInBounds_toArray, List.set_cons_zero, List.set_cons_succ]
      refine wpAnyH_take (i := 8) (oi := { dst := some 84, op := Op.move (Operand.tmp 10), type := 22, pos := "law.go:135", after := #[], guard := none }) (v := .slice sa BB.length sc) rfl (by kernel_rfl) (by kernel_rfl) (by kernel_rfl) (fun _ _ _ h => h) (Or.inl ⟨by rfl, fun wx hS => ?_⟩) hH ?_
      · go_simp
      simp only [Act.put, List.setIfInBounds_toArray, List.set_cons_zero, List.set_cons_succ]
      refine wpAnyH_take (i := 9) (oi := { dst := some 85, op := Op.move (Operand.tmp 10), type := 22, pos := "law.go:135", after := #[], guard := none }) (v := .slice sa BB.length sc) rfl (by kernel_rfl) (by kernel_rfl) (by kernel_rfl) (fun _ _ _ h => h) (Or.inl ⟨by rfl, fun wx hS => ?_⟩) hH ?_
      · go_simp
      simp only [Act.put, List.setIfInBounds_toArray, List.set_cons_zero, List.set_cons_succ]
      refine wpAnyH_take (i := 10) (oi := { dst := some 86, op := Op.call { callee := Callee.builtin Builtin.len, args := #[Operand.tmp 85], argTypes := #[22] }, type := 3, pos := "law.go:135", after := #[{ on := 9, ground := Ground.data }], guard := none }) (v := .int .i64 (BB.length : Int)) rfl (by kernel_rfl) (by kernel_rfl) (by kernel_rfl) (fun _ _ _ h => h) (Or.inl ⟨by rfl, fun wx hS => ?_⟩) hH ?_
      · go_simp
      simp only [Act.put, List.setIfInBounds_toArray, List.set_cons_zero, List.set_cons_succ]
      refine wpAnyH_take (i := 11) (oi := { dst := some 87, op := Op.binOp BinOp.quo 3 (Operand.tmp 86) (Operand.const (Value.int IntKind.i64 2)) 3, type := 3, pos := "law.go:135", after := #[{ on := 10, ground := Ground.data }], guard := none }) (v := .int .i64 (h : Int)) rfl (by kernel_rfl) (by kernel_rfl) (by kernel_rfl) (fun _ _ _ h => h) (Or.inl ⟨by rfl, fun wx hS => ?_⟩) hH ?_
      · have e1 := HQU.out; go_simp
      simp only [Act.put, List.setIfInBounds_toArray, List.set_cons_zero, List.set_cons_succ]
      refine wpAnyH_take (i := 12) (oi := { dst := some 88, op := Op.slice 22 (Operand.tmp 84) (some (Operand.tmp 87)) none none, type := 22, pos := "law.go:135", after := #[{ on := 8, ground := Ground.data }, { on := 11, ground := Ground.data }], guard := none }) (v := .slice p2.a p2.l.length p2.c) rfl (by kernel_rfl) (by kernel_rfl) (by kernel_rfl) (fun _ _ _ h => h) (Or.inl ⟨by rfl, fun wx hS => ?_⟩) hH ?_
      · have e1 := SL.out wx; go_simp
      simp only [Act.put, List.setIfInBounds_toArray, List.set_cons_zero, List.set_cons_succ]
      refine wpAnyH_ready (rs := [13]) (by kernel_rfl) (by simp) ?_
      refine AllReadyH.cons (o := { dst := some 89, op := Op.buildSlice 54 2 #[(0, Operand.tmp 83), (1, Operand.tmp 88)], type := 54, pos := "law.go:135", after := #[{ on := 7, ground := Ground.data }, { on := 12, ground := Ground.data }], guard := none }) rfl (fun KK hKK => ?_) AllReadyH.nil
      have kb := alloc_below y0 (.cells #[.slice p1.a p1.l.length p1.c, .slice p2.a p2.l.length p2.c] 22 (0, 0))
      have QG := cellsAt.new y0 #[.slice p1.a p1.l.length p1.c, .slice p2.a p2.l.length p2.c] y0.heap.size 22 ([p1, p2].map Pt.val) rfl rfl
      have GU : Hid (y0.heap.size ≠ ub) := Lib.hid (Nat.ne_of_gt HUd.is.lt)
      replace HVd := bytesIn.below HVd kb
      replace HUd := HUd.below kb
      replace HTd := HTd.below kb
      have hN := hH.trans kb
      clear hH kb
      go_simp
      refine hKK.out _ _ hN (fun hH => ?_)
      clear hKK KK hN
      try simp only [Act.put, List.setIfInBounds_toArray, List.set_cons_zero, List.set_cons_succ]
      generalize y0.alloc (.cells #[.slice p1.a p1.l.length p1.c, .slice p2.a p2.l.length p2.c] 22 (0, 0)) = y1 at *
      generalize y0.heap.size = yg at QG GU ⊢
      have PP := Lib.hid (fun X (kx : But ub y1 X) => partsW_at (W := X) (X := X) (g := yg) (ps := [p1, p2]) (fun j v hj => kx.cell (QG j v hj) GU.out) (Below.refl _ _) (fun p hp => by
        have o := OK2.out X (hH.b.trans (But2.right kx))
        simp only [List.mem_cons, List.not_mem_nil, or_false] at hp
        rcases hp with rfl | rfl
        · exact o.1
        · exact o.2))
      have PW := Lib.hid (PWU.out y1 (some ⟨yg, 0, none⟩) 2 ([p1, p2].map Pt.l) (by simp) (by show [p1.l, p2.l].flatten.length ≤ 800000; rw [FL.out]; omega) PP.out (TX.out _ hH.b) HUd)
      rw [show ([p1, p2].map Pt.l).flatten = BB from FL.out, show ([p1, p2].map Pt.l).length = 2 from rfl, SO.out.1] at PW
      clear PP QG GU
      refine wpAnyH_ready (rs := [14]) (by kernel_rfl) (by simp) ?_
      refine AllReadyH.cons (o := { dst := some 90, op := Op.call { callee := Callee.value (Operand.func 28), args := #[Operand.tmp 76, Operand.tmp 78, Operand.const (Value.string { data := #[110] }), Operand.tmp 89], argTypes := #[60, 5, 9, 54] }, type := 44, pos := "law.go:135", after := #[{ on := 0, ground := Ground.data }, { on := 2, ground := Ground.data }, { on := 13, ground := Ground.data }], guard := none }) rfl (fun KK hKK => ?_) AllReadyH.nil
      go_simp
      with_reducible refine PW.out.mono ?_
      rintro e y2 ⟨v, rfl, hv, hU, kb⟩
      obtain ⟨ug, uc, rfl, -, -, hu1, hu2, hu3⟩ := own_at hv SO.out.2.1
      have hN : TwS w8 tb ub y2 := ⟨hH.b.trans (But2.right kb)⟩
      replace HVd := bytesIn.but HVd kb HVU.out
      replace HTd := HTd.other2 kb TU.out FA.out
      clear hH kb HUd PW hv
      refine hKK.out _ _ hN (fun hH => ?_)
      clear hKK KK hN
      try simp only [Act.put, List.setIfInBounds_toArray, List.set_cons_zero, List.set_cons_succ]
      refine wpAnyH_take (i := 15) (oi := { dst := some 75, op := Op.move (Operand.tmp 90), type := 44, pos := "law.go:135", after := #[{ on := 14, ground := Ground.data }], guard := none }) (v := .tuple #[.slice (some ⟨ug, 0, none⟩) (sealR H M kd [110] N BB).1.length uc, .int .i64 0]) rfl (by kernel_rfl) (by kernel_rfl) (by kernel_rfl) (fun _ _ _ h => h) (Or.inl ⟨by rfl, fun wx hS => ?_⟩) hH ?_
      · go_simp
      simp only [Act.put, List.setIfInBounds_toArray, List.set_cons_zero, List.set_cons_succ]
      refine wpAnyH_take (i := 16) (oi := { dst := some 91, op := Op.extract (Operand.tmp 75) 0, type := 22, pos := "law.go:135", after := #[{ on := 15, ground := Ground.data }], guard := none }) (v := .slice (some ⟨ug, 0, none⟩) (sealR H M kd [110] N BB).1.length uc) rfl (by kernel_rfl) (by kernel_rfl) (by kernel_rfl) (fun _ _ _ h => h) (Or.inl ⟨by rfl, fun wx hS => ?_⟩) hH ?_
      · go_simp
      simp only [Act.put, List.setIfInBounds_toArray, List.set_cons_zero, List.set_cons_succ]
      refine wpAnyH_take (i := 17) (oi := { dst := some 92, op := Op.extract (Operand.tmp 75) 1, type := 41, pos := "law.go:135", after := #[{ on := 15, ground := Ground.data }, { on := 18, ground := Ground.gcOnly Departure.lateStores }], guard := none }) (v := .int .i64 0) rfl (by kernel_rfl) (by kernel_rfl) (by kernel_rfl) (fun _ _ _ h => h) (Or.inl ⟨by rfl, fun wx hS => ?_⟩) hH ?_
      · go_simp
      simp only [Act.put, List.setIfInBounds_toArray, List.set_cons_zero, List.set_cons_succ]
      refine wpAnyH_ready (rs := [18]) (by kernel_rfl) (by simp) ?_
      refine AllReadyH.cons (o := { dst := some 13, op := Op.assign (Operand.tmp 91), type := 22, pos := "law.go:135", after := #[{ on := 16, ground := Ground.data }, { on := 14, ground := Ground.chain }, { on := 0, ground := Ground.phase }, { on := 1, ground := Ground.phase }, { on := 2, ground := Ground.phase }, { on := 3, ground := Ground.phase }, { on := 4, ground := Ground.phase }, { on := 5, ground := Ground.phase }, { on := 6, ground := Ground.phase }, { on := 7, ground := Ground.phase }, { on := 8, ground := Ground.phase }, { on := 9, ground := Ground.phase }, { on := 10, ground := Ground.phase }, { on := 11, ground := Ground.phase }, { on := 12, ground := Ground.phase }, { on := 13, ground := Ground.phase }, { on := 14, ground := Ground.phase }, { on := 15, ground := Ground.phase }, { on := 16, ground := Ground.phase }, { on := 17, ground := Ground.textOnly Departure.lateStores }], guard := none }) rfl (fun KK hKK => ?_) AllReadyH.nil
      go_simp
      refine hKK.out _ _ hH (fun hH => ?_)
      clear hKK KK
      try simp only [Act.put, List.setIfInBounds_toArray, List.set_cons_zero, List.set_cons_succ]
      refine wpAnyH_ready (rs := [19]) (by kernel_rfl) (by simp) ?_
      refine AllReadyH.cons (o := { dst := some 14, op := Op.assign (Operand.tmp 92), type := 41, pos := "law.go:135", after := #[{ on := 17, ground := Ground.data }, { on := 18, ground := Ground.chain }, { on := 0, ground := Ground.phase }, { on := 1, ground := Ground.phase }, { on := 2, ground := Ground.phase }, { on := 3, ground := Ground.phase }, { on := 4, ground := Ground.phase }, { on := 5, ground := Ground.phase }, { on := 6, ground := Ground.phase }, { on := 7, ground := Ground.phase }, { on := 8, ground := Ground.phase }, { on := 9, ground := Ground.phase }, { on := 10, ground := Ground.phase }, { on := 11, ground := Ground.phase }, { on := 12, ground := Ground.phase }, { on := 13, ground := Ground.phase }, { on := 14, ground := Ground.phase }, { on := 15, ground := Ground.phase }, { on := 16, ground := Ground.phase }, { on := 17, ground := Ground.phase }, { on := 18, ground := Ground.phase }], guard := none }) rfl (fun KK hKK => ?_) AllReadyH.nil
      go_simp
      refine hKK.out _ _ hH (fun hH => ?_)
      clear hKK KK
      try simp only [Act.put, List.setIfInBounds_toArray, List.set_cons_zero, List.set_cons_succ]
      refine wpAnyH_done (by kernel_rfl) ?_ _
      refine NoPanic.normal ?_
      have HB4 := Lib.hid hH.b
      have HT4 := Lib.hid HTd
      have HU4 := Lib.hid hU
      generalize (sealR H M kd [110] N BB).1 = s1 at *
      have cv1 := conv_string y2 (some ⟨vg, 0, none⟩) s1 vc HVd
      have cv2 := conv_string y2 (some ⟨ug, 0, none⟩) s1 uc hu3
      have sb : ((str s1).toList == (str s1).toList) = true := by simp
      clear hH HTd hU HVd hu3 PWU OK2 SH SL
      go_wp2_with fail
      go_roundw
      case rel => exact ⟨k + 1, by omega, by omega, by go_num, HB4.out, by rw [show 16 * (k + 1) = t + 16 by have := HTK.out; omega]; exact HT4.out, by rw [show 16 * (k + 1) = t + 16 by have := HTK.out; omega]; exact HU4.out⟩
      case measure => simp [intOf]; omega

    · by_cases h8 : k < 6
      · have hR : ¬ k < R.length := fun h => hgo ⟨h, h8⟩
        have q8 : (k : Int) < 6 := by omega
        have qR : ¬ (k : Int) < (R.length : Int) := by omega
        (as_aux_lemma =>
          have RW := Lib.hid (rkeys_at HPC.out (PX.out _ hB))
          have HBN := Lib.hid (fun X => buildPenNil RG RL.out X)
          have hzp := zeroPen
          have NN := Lib.hid (blockIs.new wr (zeros 96 ++ [Value.pointer none]) 60)
          have KN := Lib.hid (alloc_below wr (.cells (zeros 96 ++ [Value.pointer none]).toArray 60 (0, 0)))
          have RGL : Hid ((byteCells RG).length = 96) := Lib.hid (by rw [byteCells_length, RL.out])
          go_wp2_with (first | (refine Ci.wpList_load_mid_if (by rfl) 58 _ rfl pb 0 rfl (byteCells RG) _ RW.out Tryd.underlying58 rfl (by rw [infoRing, RGL.out]) ?_) | (refine wpList_build rfl 60 _ rfl _ _ (HBN.out _) rfl ?_) | (refine wpList_store_block rfl 60 _ _ rfl wr.heap.size 0 (byteCells RG ++ [Value.pointer none]) rfl rfl (zeros 96 ++ [Value.pointer none]) 60 NN.out (by rw [infoPen, List.length_append, RGL.out]; rfl) (by rw [List.length_append, RGL.out]; simp [zeros]) (penNil_one RG) ?_))
          intro y1 h1 h2 h3
          have h1 := h1.out
          rw [splice_all _ _ (by rw [List.length_append, List.length_append, RGL.out]; simp [zeros])] at h1
          have NB1 := Lib.hid h1
          have HY := Lib.hid (hB.trans (But2.of_below (KN.out.trans (h2.out.below (Nat.le_refl _) KN.out.size))))
          obtain ⟨nb, hnb⟩ : ∃ nb, nb = wr.heap.size := ⟨_, rfl⟩
          rw [← hnb] at NB1 ⊢
          clear h1 h2 h3 hnb NN KN HBN hzp RW hB hT hU
          obtain ⟨m, hm⟩ : ∃ m, m = min G.length 50 := ⟨_, rfl⟩
          have HMIN : Hid (min (G.length : Int) 50 = (m : Int)) := Lib.hid (by omega)
          obtain ⟨sa, sc, hsl, hso⟩ := cut_to ba bc G 50 m hm (GX.out _ HY.out).1.1
          have hb1 : (G.take 50).length ≤ 50 := by rw [List.length_take]; omega
          have SL := Lib.hid hsl
          have OG := Lib.hid (fun X (hX : Below y1.heap.size y1 X) => hso X (GX.out _ (HY.out.trans (But2.of_below hX))))
          have NY := Lib.hid (fun X (hX : Below y1.heap.size y1 X) => NX.out _ (HY.out.trans (But2.of_below hX)))
          have EY := Lib.hid (fun X (hX : Below y1.heap.size y1 X) => EX.out _ (HY.out.trans (But2.of_below hX)))
          have TY := Lib.hid (fun X (hX : Below y1.heap.size y1 X) => TX.out _ (HY.out.trans (But2.of_below hX)))
          clear hsl hso hm
          generalize G.take 50 = BG at *
          obtain ⟨Z, hZ⟩ : ∃ Z, Z = List.replicate 16 (0 : UInt8) := ⟨_, rfl⟩
          have ZL : Hid (Z.length = 16) := Lib.hid (by rw [hZ]; simp)
          have C16 : Hid ([Value.int .u8 0, Value.int .u8 0, Value.int .u8 0, Value.int .u8 0, Value.int .u8 0, Value.int .u8 0, Value.int .u8 0, Value.int .u8 0, Value.int .u8 0, Value.int .u8 0, Value.int .u8 0, Value.int .u8 0, Value.int .u8 0, Value.int .u8 0, Value.int .u8 0, Value.int .u8 0] = byteCells Z) := Lib.hid (by rw [hZ]; rfl)
          have SO := Lib.hid (sealR_ok H M kd Z BG ZL.out)
          have NW := Lib.hid (fun X a h1 h2 => nwrite_any H M C kd [110] a 1 [BG] X HL.out ML.out DL.out (by simp) (by simp; omega) h1 h2)
          rw [← hZ, show [BG].length = 1 from rfl, show [BG].flatten = BG by simp, str_n, SO.out.1, show keyCells H M ++ (byteCells C ++ [Value.pointer none]) = byteCells RG ++ [Value.pointer none] by rw [HRG.out]; simp [keyCells, byteCells]] at NW
          clear hZ
          go_upto_region 14 with fail
          refine wp_region_noPanic ?_
          refine wp_region_held_drew (S := fun w' => Below y1.heap.size y1 w') (by kernel_rfl) (below_drew' (Below.refl _ _)) (fun hH => ?_)
          generalize y1.drew = z0 at *
          refine wpAnyH_take (i := 0) (oi := { dst := some 110, op := Op.load 60 (Operand.tmp 15), type := 60, pos := "law.go:141", after := #[], guard := none }) (v := .agg ((byteCells RG ++ [Value.pointer none])).toArray) rfl (by kernel_rfl) (by kernel_rfl) (by kernel_rfl) (fun _ _ _ h => h) (yieldsIf_load_mid (by rfl) 60 _ rfl (nb) 0 rfl ((byteCells RG ++ [Value.pointer none])) _ (fun wx hS => Ci.range_of (NB1.out.below hS NB1.out.lt)) Tryd.underlying60 rfl (by rw [infoPen, List.length_append, byteCells_length, RL.out]; rfl)) hH ?_
          simp only [Act.put, List.setIfInBounds_toArray, List.set_cons_zero, List.set_cons_succ]
          refine wpAnyH_take (i := 1) (oi := { dst := some 111, op := Op.fieldAddr 56 (Operand.tmp 1) 4, type := 0, pos := "law.go:141", after := #[], guard := none }) (v := .pointer (some ⟨w.heap.size, 4, none⟩)) rfl (by kernel_rfl) (by kernel_rfl) (by kernel_rfl) (fun _ _ _ h => h) (Or.inl ⟨by rfl, fun wx hS => ?_⟩) hH ?_
          · go_simp
          simp only [Act.put, List.setIfInBounds_toArray, List.set_cons_zero, List.set_cons_succ]
          refine wpAnyH_take (i := 2) (oi := { dst := some 112, op := Op.load 5 (Operand.tmp 111), type := 5, pos := "law.go:141", after := #[{ on := 1, ground := Ground.data }], guard := none }) (v := .int .u8 (V kd)) rfl (by kernel_rfl) (by kernel_rfl) (by kernel_rfl) (fun _ _ _ h => h) (Or.inl ⟨by rfl, fun wx hS => ?_⟩) hH ?_
          · have e1 : wx.cell? ⟨w.heap.size, 4, none⟩ = some (.int .u8 (V kd)) := (by rw [(NY.out _ hS).cell]; exact C4.out); go_simp
          simp only [Act.put, List.setIfInBounds_toArray, List.set_cons_zero, List.set_cons_succ]
          refine wpAnyH_take (i := 3) (oi := { dst := some 113, op := Op.fieldAddr 56 (Operand.tmp 1) 2, type := 0, pos := "law.go:141", after := #[], guard := none }) (v := .pointer (some ⟨w.heap.size, 2, none⟩)) rfl (by kernel_rfl) (by kernel_rfl) (by kernel_rfl) (fun _ _ _ h => h) (Or.inl ⟨by rfl, fun wx hS => ?_⟩) hH ?_
          · go_simp
          simp only [Act.put, List.setIfInBounds_toArray, List.set_cons_zero, List.set_cons_succ]
          refine wpAnyH_take (i := 4) (oi := { dst := some 114, op := Op.load 22 (Operand.tmp 113), type := 22, pos := "law.go:141", after := #[{ on := 3, ground := Ground.data }], guard := none }) (v := .slice ba G.length bc) rfl (by kernel_rfl) (by kernel_rfl) (by kernel_rfl) (fun _ _ _ h => h) (Or.inl ⟨by rfl, fun wx hS => ?_⟩) hH ?_
          · have e1 : wx.cell? ⟨w.heap.size, 2, none⟩ = some (.slice ba G.length bc) := (by rw [(NY.out _ hS).cell]; exact C2.out); go_simp
          simp only [Act.put, List.setIfInBounds_toArray, List.set_cons_zero, List.set_cons_succ]
          refine wpAnyH_take (i := 5) (oi := { dst := some 115, op := Op.fieldAddr 56 (Operand.tmp 1) 2, type := 0, pos := "law.go:141", after := #[], guard := none }) (v := .pointer (some ⟨w.heap.size, 2, none⟩)) rfl (by kernel_rfl) (by kernel_rfl) (by kernel_rfl) (fun _ _ _ h => h) (Or.inl ⟨by rfl, fun wx hS => ?_⟩) hH ?_
          · go_simp
          simp only [Act.put, List.setIfInBounds_toArray, List.set_cons_zero, List.set_cons_succ]
          refine wpAnyH_take (i := 6) (oi := { dst := some 116, op := Op.load 22 (Operand.tmp 115), type := 22, pos := "law.go:141", after := #[{ on := 5, ground := Ground.data }], guard := none }) (v := .slice ba G.length bc) rfl (by kernel_rfl) (by kernel_rfl) (by kernel_rfl) (fun _ _ _ h => h) (Or.inl ⟨by rfl, fun wx hS => ?_⟩) hH ?_
          · have e1 : wx.cell? ⟨w.heap.size, 2, none⟩ = some (.slice ba G.length bc) := (by rw [(NY.out _ hS).cell]; exact C2.out); go_simp
          simp only [Act.put, List.setIfInBounds_toArray, List.set_cons_zero, List.set_cons_succ]
          refine wpAnyH_take (i := 7) (oi := { dst := some 117, op := Op.call { callee := Callee.builtin Builtin.len, args := #[Operand.tmp 116], argTypes := #[22] }, type := 3, pos := "law.go:141", after := #[{ on := 6, ground := Ground.data }], guard := none }) (v := .int .i64 (G.length : Int)) rfl (by kernel_rfl) (by kernel_rfl) (by kernel_rfl) (fun _ _ _ h => h) (Or.inl ⟨by rfl, fun wx hS => ?_⟩) hH ?_
          · go_simp
          simp only [Act.put, List.setIfInBounds_toArray, List.set_cons_zero, List.set_cons_succ]
          refine wpAnyH_take (i := 8) (oi := { dst := some 118, op := Op.call { callee := Callee.builtin Builtin.min, args := #[Operand.tmp 117, Operand.const (Value.int IntKind.i64 50)], argTypes := #[3, 3] }, type := 3, pos := "law.go:141", after := #[{ on := 7, ground := Ground.data }], guard := none }) (v := .int .i64 (m : Int)) rfl (by kernel_rfl) (by kernel_rfl) (by kernel_rfl) (fun _ _ _ h => h) (Or.inl ⟨by rfl, fun wx hS => ?_⟩) hH ?_
          · go_simp; have e1 := HMIN.out; omega
          simp only [Act.put, List.setIfInBounds_toArray, List.set_cons_zero, List.set_cons_succ]
          refine wpAnyH_take (i := 9) (oi := { dst := some 119, op := Op.slice 22 (Operand.tmp 114) none (some (Operand.tmp 118)) none, type := 22, pos := "law.go:141", after := #[{ on := 4, ground := Ground.data }, { on := 8, ground := Ground.data }], guard := none }) (v := .slice sa BG.length sc) rfl (by kernel_rfl) (by kernel_rfl) (by kernel_rfl) (fun _ _ _ h => h) (Or.inl ⟨by rfl, fun wx hS => ?_⟩) hH ?_
          · have e1 := SL.out wx; go_simp
          simp only [Act.put, List.setIfInBounds_toArray, List.set_cons_zero, List.set_cons_succ]
          refine wpAnyH_ready (rs := [10]) (by kernel_rfl) (by simp) ?_
          refine AllReadyH.cons (o := { dst := some 120, op := Op.buildSlice 54 1 #[(0, Operand.tmp 119)], type := 54, pos := "law.go:141", after := #[{ on := 9, ground := Ground.data }], guard := none }) rfl (fun KK hKK => ?_) AllReadyH.nil
          have kb := alloc_below z0 (.cells #[.slice sa BG.length sc] 22 (0, 0))
          have QG := cellsAt.new z0 #[.slice sa BG.length sc] z0.heap.size 22 [.slice sa BG.length sc] rfl rfl
          have hN := hH.trans (kb.mono hH.size)
          clear hH kb
          go_simp
          refine hKK.out _ _ hN (fun hH => ?_)
          clear hKK KK hN
          try simp only [Act.put, List.setIfInBounds_toArray, List.set_cons_zero, List.set_cons_succ]
          generalize z0.alloc (.cells #[.slice sa BG.length sc] 22 (0, 0)) = z1 at *
          generalize z0.heap.size = zg at QG ⊢
          have PW := Lib.hid (NW.out z1 (some ⟨zg, 0, none⟩) (parts_one (QG 0 _ rfl) (OG.out z1 hH)) (TY.out z1 hH))
          clear QG
          refine wpAnyH_ready (rs := [11]) (by kernel_rfl) (by simp) ?_
          refine AllReadyH.cons (o := { dst := some 121, op := Op.call { callee := Callee.value (Operand.func 28), args := #[Operand.tmp 110, Operand.tmp 112, Operand.const (Value.string { data := #[110] }), Operand.tmp 120], argTypes := #[60, 5, 9, 54] }, type := 44, pos := "law.go:141", after := #[{ on := 0, ground := Ground.data }, { on := 2, ground := Ground.data }, { on := 10, ground := Ground.data }], guard := none }) rfl (fun KK hKK => ?_) AllReadyH.nil
          go_simp
          with_reducible refine PW.out.mono ?_
          rintro e z2 ⟨v, rfl, hv, kb⟩
          obtain ⟨ug, uc, rfl, -, -, hu1, hu2, hu3⟩ := own_at hv SO.out.2.1
          have hN := hH.trans (kb.mono hH.size)
          clear hH kb PW hv
          refine hKK.out _ _ hN (fun hH => ?_)
          clear hKK KK hN
          try simp only [Act.put, List.setIfInBounds_toArray, List.set_cons_zero, List.set_cons_succ]
          refine wpAnyH_take (i := 12) (oi := { dst := some 109, op := Op.move (Operand.tmp 121), type := 44, pos := "law.go:141", after := #[{ on := 11, ground := Ground.data }], guard := none }) (v := .tuple #[.slice (some ⟨ug, 0, none⟩) (sealR H M kd [110] Z BG).1.length uc, .int .i64 0]) rfl (by kernel_rfl) (by kernel_rfl) (by kernel_rfl) (fun _ _ _ h => h) (Or.inl ⟨by rfl, fun wx hS => ?_⟩) hH ?_
          · go_simp
          simp only [Act.put, List.setIfInBounds_toArray, List.set_cons_zero, List.set_cons_succ]
          refine wpAnyH_take (i := 13) (oi := { dst := some 122, op := Op.extract (Operand.tmp 109) 0, type := 22, pos := "law.go:141", after := #[{ on := 12, ground := Ground.data }], guard := none }) (v := .slice (some ⟨ug, 0, none⟩) (sealR H M kd [110] Z BG).1.length uc) rfl (by kernel_rfl) (by kernel_rfl) (by kernel_rfl) (fun _ _ _ h => h) (Or.inl ⟨by rfl, fun wx hS => ?_⟩) hH ?_
          · go_simp
          simp only [Act.put, List.setIfInBounds_toArray, List.set_cons_zero, List.set_cons_succ]
          refine wpAnyH_take (i := 14) (oi := { dst := some 123, op := Op.extract (Operand.tmp 109) 1, type := 41, pos := "law.go:141", after := #[{ on := 12, ground := Ground.data }, { on := 15, ground := Ground.gcOnly Departure.lateStores }], guard := none }) (v := .int .i64 0) rfl (by kernel_rfl) (by kernel_rfl) (by kernel_rfl) (fun _ _ _ h => h) (Or.inl ⟨by rfl, fun wx hS => ?_⟩) hH ?_
          · go_simp
          simp only [Act.put, List.setIfInBounds_toArray, List.set_cons_zero, List.set_cons_succ]
          refine wpAnyH_ready (rs := [15]) (by kernel_rfl) (by simp) ?_
          refine AllReadyH.cons (o := { dst := some 16, op := Op.assign (Operand.tmp 122), type := 22, pos := "law.go:141", after := #[{ on := 13, ground := Ground.data }, { on := 11, ground := Ground.chain }, { on := 0, ground := Ground.phase }, { on := 1, ground := Ground.phase }, { on := 2, ground := Ground.phase }, { on := 3, ground := Ground.phase }, { on := 4, ground := Ground.phase }, { on := 5, ground := Ground.phase }, { on := 6, ground := Ground.phase }, { on := 7, ground := Ground.phase }, { on := 8, ground := Ground.phase }, { on := 9, ground := Ground.phase }, { on := 10, ground := Ground.phase }, { on := 11, ground := Ground.phase }, { on := 12, ground := Ground.phase }, { on := 13, ground := Ground.phase }, { on := 14, ground := Ground.textOnly Departure.lateStores }], guard := none }) rfl (fun KK hKK => ?_) AllReadyH.nil
          go_simp
          refine hKK.out _ _ hH (fun hH => ?_)
          clear hKK KK
          try simp only [Act.put, List.setIfInBounds_toArray, List.set_cons_zero, List.set_cons_succ]
          refine wpAnyH_ready (rs := [16]) (by kernel_rfl) (by simp) ?_
          refine AllReadyH.cons (o := { dst := some 17, op := Op.assign (Operand.tmp 123), type := 41, pos := "law.go:141", after := #[{ on := 14, ground := Ground.data }, { on := 15, ground := Ground.chain }, { on := 0, ground := Ground.phase }, { on := 1, ground := Ground.phase }, { on := 2, ground := Ground.phase }, { on := 3, ground := Ground.phase }, { on := 4, ground := Ground.phase }, { on := 5, ground := Ground.phase }, { on := 6, ground := Ground.phase }, { on := 7, ground := Ground.phase }, { on := 8, ground := Ground.phase }, { on := 9, ground := Ground.phase }, { on := 10, ground := Ground.phase }, { on := 11, ground := Ground.phase }, { on := 12, ground := Ground.phase }, { on := 13, ground := Ground.phase }, { on := 14, ground := Ground.phase }, { on := 15, ground := Ground.phase }], guard := none }) rfl (fun KK hKK => ?_) AllReadyH.nil
          go_simp
          refine hKK.out _ _ hH (fun hH => ?_)
          clear hKK KK
          try simp only [Act.put, List.setIfInBounds_toArray, List.set_cons_zero, List.set_cons_succ]
          refine wpAnyH_done (by kernel_rfl) ?_ _
          refine NoPanic.normal ?_
          have HZ := Lib.hid hH
          have HU := Lib.hid hu3
          have NZ := Lib.hid (fun X (hX : Below z2.heap.size z2 X) => NY.out X (HZ.out.trans (hX.mono HZ.out.size)))
          have OZ := Lib.hid (fun X (hX : Below z2.heap.size z2 X) => OG.out X (HZ.out.trans (hX.mono HZ.out.size)))
          have EZ := Lib.hid (fun X (hX : Below z2.heap.size z2 X) => keys_at HRG.out (EY.out X (HZ.out.trans (hX.mono HZ.out.size))))
          clear hH hu3 NW NY OG EY TY NB1
          have KL : Hid ((keyCells H M).length = 64) := Lib.hid (keyCells_length HL.out ML.out)
          have DS := Lib.hid (fun X => docSealR_any H M Z kd [110] BG X HL.out ML.out ZL.out (by omega))
          rw [str_n, SO.out.1] at DS
          obtain ⟨KC, hKC⟩ : ∃ KC, KC = keyCells H M := ⟨_, rfl⟩
          rw [← hKC] at EZ KL DS
          clear hKC
          go_upto_region 15 with fail
          refine wp_region_noPanic ?_
          refine wp_region_held_drew (S := fun w' => Below z2.heap.size z2 w') (by kernel_rfl) (below_drew' (Below.refl _ _)) (fun hH => ?_)
          have HUd := bytesIn.below HU.out (below_drew' (Below.refl z2.heap.size z2))
          clear HU
          generalize z2.drew = z3 at *
          refine wpAnyH_take (i := 0) (oi := { dst := some 125, op := Op.fieldAddr 62 (Operand.tmp 7) 0, type := 0, pos := "law.go:142", after := #[], guard := none }) (v := .pointer (some ⟨qb + 1, 0, none⟩)) rfl (by kernel_rfl) (by kernel_rfl) (by kernel_rfl) (fun _ _ _ h => h) (Or.inl ⟨by rfl, fun wx hS => ?_⟩) hH ?_
          · go_simp
          simp only [Act.put, List.setIfInBounds_toArray, List.set_cons_zero, List.set_cons_succ]
          refine wpAnyH_take (i := 1) (oi := { dst := some 126, op := Op.load 36 (Operand.tmp 125), type := 36, pos := "law.go:142", after := #[{ on := 0, ground := Ground.data }], guard := none }) (v := .agg (KC).toArray) rfl (by kernel_rfl) (by kernel_rfl) (by kernel_rfl) (fun _ _ _ h => h) (yieldsIf_load_mid (by rfl) 36 _ rfl ((qb + 1)) 0 rfl (KC) _ (fun wx hS => EZ.out wx hS) Tryd.underlying36 rfl (by rw [infoRK, KL.out])) hH ?_
          simp only [Act.put, List.setIfInBounds_toArray, List.set_cons_zero, List.set_cons_succ]
          refine wpAnyH_take (i := 2) (oi := { dst := some 127, op := Op.fieldAddr 56 (Operand.tmp 1) 4, type := 0, pos := "law.go:142", after := #[], guard := none }) (v := .pointer (some ⟨w.heap.size, 4, none⟩)) rfl (by kernel_rfl) (by kernel_rfl) (by kernel_rfl) (fun _ _ _ h => h) (Or.inl ⟨by rfl, fun wx hS => ?_⟩) hH ?_
          · go_simp
          simp only [Act.put, List.setIfInBounds_toArray, List.set_cons_zero, List.set_cons_succ]
          refine wpAnyH_take (i := 3) (oi := { dst := some 128, op := Op.load 5 (Operand.tmp 127), type := 5, pos := "law.go:142", after := #[{ on := 2, ground := Ground.data }], guard := none }) (v := .int .u8 (V kd)) rfl (by kernel_rfl) (by kernel_rfl) (by kernel_rfl) (fun _ _ _ h => h) (Or.inl ⟨by rfl, fun wx hS => ?_⟩) hH ?_
          · have e1 : wx.cell? ⟨w.heap.size, 4, none⟩ = some (.int .u8 (V kd)) := (by rw [(NZ.out _ hS).cell]; exact C4.out); go_simp
          simp only [Act.put, List.setIfInBounds_toArray, List.set_cons_zero, List.set_cons_succ]
          refine wpAnyH_take (i := 4) (oi := { dst := some 129, op := Op.build 28 #[], type := 28, pos := "law.go:142", after := #[], guard := none }) (v := .agg (byteCells Z).toArray) rfl (by kernel_rfl) (by kernel_rfl) (by kernel_rfl) (fun _ _ _ h => h) (Or.inl ⟨by rfl, fun wx hS => ?_⟩) hH ?_
          · go_simp; exact C16.out
          simp only [Act.put, List.setIfInBounds_toArray, List.set_cons_zero, List.set_cons_succ]
          refine wpAnyH_take (i := 5) (oi := { dst := some 130, op := Op.fieldAddr 56 (Operand.tmp 1) 2, type := 0, pos := "law.go:142", after := #[], guard := none }) (v := .pointer (some ⟨w.heap.size, 2, none⟩)) rfl (by kernel_rfl) (by kernel_rfl) (by kernel_rfl) (fun _ _ _ h => h) (Or.inl ⟨by rfl, fun wx hS => ?_⟩) hH ?_
          · go_simp
          simp only [Act.put, List.setIfInBounds_toArray, List.set_cons_zero, List.set_cons_succ]
          refine wpAnyH_take (i := 6) (oi := { dst := some 131, op := Op.load 22 (Operand.tmp 130), type := 22, pos := "law.go:142", after := #[{ on := 5, ground := Ground.data }], guard := none }) (v := .slice ba G.length bc) rfl (by kernel_rfl) (by kernel_rfl) (by kernel_rfl) (fun _ _ _ h => h) (Or.inl ⟨by rfl, fun wx hS => ?_⟩) hH ?_
          · have e1 : wx.cell? ⟨w.heap.size, 2, none⟩ = some (.slice ba G.length bc) := (by rw [(NZ.out _ hS).cell]; exact C2.out); go_simp
          simp only [Act.put, List.setIfInBounds_toArray, List.set_cons_zero, List.set_cons_succ]
          refine wpAnyH_take (i := 7) (oi := { dst := some 132, op := Op.fieldAddr 56 (Operand.tmp 1) 2, type := 0, pos := "law.go:142", after := #[], guard := none }) (v := .pointer (some ⟨w.heap.size, 2, none⟩)) rfl (by kernel_rfl) (by kernel_rfl) (by kernel_rfl) (fun _ _ _ h => h) (Or.inl ⟨by rfl, fun wx hS => ?_⟩) hH ?_
          · go_simp
          simp only [Act.put, List.setIfInBounds_toArray, List.set_cons_zero, List.set_cons_succ]
          refine wpAnyH_take (i := 8) (oi := { dst := some 133, op := Op.load 22 (Operand.tmp 132), type := 22, pos := "law.go:142", after := #[{ on := 7, ground := Ground.data }], guard := none }) (v := .slice ba G.length bc) rfl (by kernel_rfl) (by kernel_rfl) (by kernel_rfl) (fun _ _ _ h => h) (Or.inl ⟨by rfl, fun wx hS => ?_⟩) hH ?_
          · have e1 : wx.cell? ⟨w.heap.size, 2, none⟩ = some (.slice ba G.length bc) := (by rw [(NZ.out _ hS).cell]; exact C2.out); go_simp
          simp only [Act.put, List.setIfInBounds_toArray, List.set_cons_zero, List.set_cons_succ]
          refine wpAnyH_take (i := 9) (oi := { dst := some 134, op := Op.call { callee := Callee.builtin Builtin.len, args := #[Operand.tmp 133], argTypes := #[22] }, type := 3, pos := "law.go:142", after := #[{ on := 8, ground := Ground.data }], guard := none }) (v := .int .i64 (G.length : Int)) rfl (by kernel_rfl) (by kernel_rfl) (by kernel_rfl) (fun _ _ _ h => h) (Or.inl ⟨by rfl, fun wx hS => ?_⟩) hH ?_
          · go_simp
          simp only [Act.put, List.setIfInBounds_toArray, List.set_cons_zero, List.set_cons_succ]
          refine wpAnyH_take (i := 10) (oi := { dst := some 135, op := Op.call { callee := Callee.builtin Builtin.min, args := #[Operand.tmp 134, Operand.const (Value.int IntKind.i64 50)], argTypes := #[3, 3] }, type := 3, pos := "law.go:142", after := #[{ on := 9, ground := Ground.data }], guard := none }) (v := .int .i64 (m : Int)) rfl (by kernel_rfl) (by kernel_rfl) (by kernel_rfl) (fun _ _ _ h => h) (Or.inl ⟨by rfl, fun wx hS => ?_⟩) hH ?_
          · go_simp; have e1 := HMIN.out; omega
          simp only [Act.put, List.setIfInBounds_toArray, List.set_cons_zero, List.set_cons_succ]
          refine wpAnyH_take (i := 11) (oi := { dst := some 136, op := Op.slice 22 (Operand.tmp 131) none (some (Operand.tmp 135)) none, type := 22, pos := "law.go:142", after := #[{ on := 6, ground := Ground.data }, { on := 10, ground := Ground.data }], guard := none }) (v := .slice sa BG.length sc) rfl (by kernel_rfl) (by kernel_rfl) (by kernel_rfl) (fun _ _ _ h => h) (Or.inl ⟨by rfl, fun wx hS => ?_⟩) hH ?_
          · have e1 := SL.out wx; go_simp
          simp only [Act.put, List.setIfInBounds_toArray, List.set_cons_zero, List.set_cons_succ]
          refine wpAnyH_take (i := 12) (oi := { dst := some 137, op := Op.convert 22 9 (Operand.tmp 136), type := 9, pos := "law.go:142", after := #[{ on := 11, ground := Ground.data }], guard := none }) (v := .string (str BG)) rfl (by kernel_rfl) (by kernel_rfl) (by kernel_rfl) (fun _ _ _ h => h) (Or.inl ⟨by rfl, fun wx hS => ?_⟩) hH ?_
          · have e1 := conv_string wx sa BG sc (OZ.out wx hS).1.2.2; go_simp
          simp only [Act.put, List.setIfInBounds_toArray, List.set_cons_zero, List.set_cons_succ]
          refine wpAnyH_ready (rs := [13]) (by kernel_rfl) (by simp) ?_
          refine AllReadyH.cons (o := { dst := some 138, op := Op.call { callee := Callee.value (Operand.func 21), args := #[Operand.tmp 126, Operand.tmp 128, Operand.const (Value.string { data := #[110] }), Operand.tmp 129, Operand.tmp 137], argTypes := #[36, 5, 9, 28, 9] }, type := 42, pos := "law.go:142", after := #[{ on := 1, ground := Ground.data }, { on := 3, ground := Ground.data }, { on := 4, ground := Ground.data }, { on := 12, ground := Ground.data }], guard := none }) rfl (fun KK hKK => ?_) AllReadyH.nil
          go_simp
          with_reducible refine (DS.out z3).mono ?_
          rintro e z4 ⟨rfl, kb⟩
          replace HUd := bytesIn.below HUd kb
          have hN := hH.trans (kb.mono hH.size)
          clear hH kb
          refine hKK.out _ _ hN (fun hH => ?_)
          clear hKK KK hN
          try simp only [Act.put, List.setIfInBounds_toArray, List.set_cons_zero, List.set_cons_succ]
          refine wpAnyH_take (i := 14) (oi := { dst := some 124, op := Op.move (Operand.tmp 138), type := 42, pos := "law.go:142", after := #[{ on := 13, ground := Ground.data }], guard := none }) (v := .tuple #[.string (str (sealR H M kd [110] Z BG).1), .int .i64 0]) rfl (by kernel_rfl) (by kernel_rfl) (by kernel_rfl) (fun _ _ _ h => h) (Or.inl ⟨by rfl, fun wx hS => ?_⟩) hH ?_
          · go_simp
          simp only [Act.put, List.setIfInBounds_toArray, List.set_cons_zero, List.set_cons_succ]
          refine wpAnyH_take (i := 15) (oi := { dst := some 139, op := Op.extract (Operand.tmp 124) 0, type := 9, pos := "law.go:142", after := #[{ on := 14, ground := Ground.data }], guard := none }) (v := .string (str (sealR H M kd [110] Z BG).1)) rfl (by kernel_rfl) (by kernel_rfl) (by kernel_rfl) (fun _ _ _ h => h) (Or.inl ⟨by rfl, fun wx hS => ?_⟩) hH ?_
          · go_simp
          simp only [Act.put, List.setIfInBounds_toArray, List.set_cons_zero, List.set_cons_succ]
          refine wpAnyH_take (i := 16) (oi := { dst := some 140, op := Op.extract (Operand.tmp 124) 1, type := 41, pos := "law.go:142", after := #[{ on := 14, ground := Ground.data }, { on := 17, ground := Ground.gcOnly Departure.lateStores }], guard := none }) (v := .int .i64 0) rfl (by kernel_rfl) (by kernel_rfl) (by kernel_rfl) (fun _ _ _ h => h) (Or.inl ⟨by rfl, fun wx hS => ?_⟩) hH ?_
          · go_simp
          simp only [Act.put, List.setIfInBounds_toArray, List.set_cons_zero, List.set_cons_succ]
          refine wpAnyH_ready (rs := [17]) (by kernel_rfl) (by simp) ?_
          refine AllReadyH.cons (o := { dst := some 18, op := Op.assign (Operand.tmp 139), type := 9, pos := "law.go:142", after := #[{ on := 15, ground := Ground.data }, { on := 13, ground := Ground.chain }, { on := 0, ground := Ground.phase }, { on := 1, ground := Ground.phase }, { on := 2, ground := Ground.phase }, { on := 3, ground := Ground.phase }, { on := 4, ground := Ground.phase }, { on := 5, ground := Ground.phase }, { on := 6, ground := Ground.phase }, { on := 7, ground := Ground.phase }, { on := 8, ground := Ground.phase }, { on := 9, ground := Ground.phase }, { on := 10, ground := Ground.phase }, { on := 11, ground := Ground.phase }, { on := 12, ground := Ground.phase }, { on := 13, ground := Ground.phase }, { on := 14, ground := Ground.phase }, { on := 15, ground := Ground.phase }, { on := 16, ground := Ground.textOnly Departure.lateStores }], guard := none }) rfl (fun KK hKK => ?_) AllReadyH.nil
          go_simp
          refine hKK.out _ _ hH (fun hH => ?_)
          clear hKK KK
          try simp only [Act.put, List.setIfInBounds_toArray, List.set_cons_zero, List.set_cons_succ]
          refine wpAnyH_ready (rs := [18]) (by kernel_rfl) (by simp) ?_
          refine AllReadyH.cons (o := { dst := some 19, op := Op.assign (Operand.tmp 140), type := 41, pos := "law.go:142", after := #[{ on := 16, ground := Ground.data }, { on := 17, ground := Ground.chain }, { on := 0, ground := Ground.phase }, { on := 1, ground := Ground.phase }, { on := 2, ground := Ground.phase }, { on := 3, ground := Ground.phase }, { on := 4, ground := Ground.phase }, { on := 5, ground := Ground.phase }, { on := 6, ground := Ground.phase }, { on := 7, ground := Ground.phase }, { on := 8, ground := Ground.phase }, { on := 9, ground := Ground.phase }, { on := 10, ground := Ground.phase }, { on := 11, ground := Ground.phase }, { on := 12, ground := Ground.phase }, { on := 13, ground := Ground.phase }, { on := 14, ground := Ground.phase }, { on := 15, ground := Ground.phase }, { on := 16, ground := Ground.phase }, { on := 17, ground := Ground.phase }], guard := none }) rfl (fun KK hKK => ?_) AllReadyH.nil
          go_simp
          refine hKK.out _ _ hH (fun hH => ?_)
          clear hKK KK
          try simp only [Act.put, List.setIfInBounds_toArray, List.set_cons_zero, List.set_cons_succ]
          refine wpAnyH_done (by kernel_rfl) ?_ _
          refine NoPanic.normal ?_
          have HBE := BX.out _ (HY.out.trans (But2.of_below (HZ.out.trans (hH.mono HZ.out.size))))
          generalize (sealR H M kd [110] Z BG).1 = s1 at *
          have cv1 := conv_string z4 (some ⟨ug, 0, none⟩) s1 uc HUd
          have sb : ((str s1).toList == (str s1).toList) = true := by simp
          clear hH
          go_wp2_with fail
          go_ret
          exact ⟨rfl, HBE⟩)
      · have q8 : ¬ (k : Int) < 6 := by omega
        by_cases hR : k < R.length
        · have qR : (k : Int) < (R.length : Int) := by omega
          (as_aux_lemma =>
            have RW := Lib.hid (rkeys_at HPC.out (PX.out _ hB))
            have HBN := Lib.hid (fun X => buildPenNil RG RL.out X)
            have hzp := zeroPen
            have NN := Lib.hid (blockIs.new wr (zeros 96 ++ [Value.pointer none]) 60)
            have KN := Lib.hid (alloc_below wr (.cells (zeros 96 ++ [Value.pointer none]).toArray 60 (0, 0)))
            have RGL : Hid ((byteCells RG).length = 96) := Lib.hid (by rw [byteCells_length, RL.out])
            go_wp2_with (first | (refine Ci.wpList_load_mid_if (by rfl) 58 _ rfl pb 0 rfl (byteCells RG) _ RW.out Tryd.underlying58 rfl (by rw [infoRing, RGL.out]) ?_) | (refine wpList_build rfl 60 _ rfl _ _ (HBN.out _) rfl ?_) | (refine wpList_store_block rfl 60 _ _ rfl wr.heap.size 0 (byteCells RG ++ [Value.pointer none]) rfl rfl (zeros 96 ++ [Value.pointer none]) 60 NN.out (by rw [infoPen, List.length_append, RGL.out]; rfl) (by rw [List.length_append, RGL.out]; simp [zeros]) (penNil_one RG) ?_))
            intro y1 h1 h2 h3
            have h1 := h1.out
            rw [splice_all _ _ (by rw [List.length_append, List.length_append, RGL.out]; simp [zeros])] at h1
            have NB1 := Lib.hid h1
            have HY := Lib.hid (hB.trans (But2.of_below (KN.out.trans (h2.out.below (Nat.le_refl _) KN.out.size))))
            obtain ⟨nb, hnb⟩ : ∃ nb, nb = wr.heap.size := ⟨_, rfl⟩
            rw [← hnb] at NB1 ⊢
            clear h1 h2 h3 hnb NN KN HBN hzp RW hB hT hU
            obtain ⟨m, hm⟩ : ∃ m, m = min G.length 50 := ⟨_, rfl⟩
            have HMIN : Hid (min (G.length : Int) 50 = (m : Int)) := Lib.hid (by omega)
            obtain ⟨sa, sc, hsl, hso⟩ := cut_to ba bc G 50 m hm (GX.out _ HY.out).1.1
            have hb1 : (G.take 50).length ≤ 50 := by rw [List.length_take]; omega
            have SL := Lib.hid hsl
            have OG := Lib.hid (fun X (hX : Below y1.heap.size y1 X) => hso X (GX.out _ (HY.out.trans (But2.of_below hX))))
            have NY := Lib.hid (fun X (hX : Below y1.heap.size y1 X) => NX.out _ (HY.out.trans (But2.of_below hX)))
            have EY := Lib.hid (fun X (hX : Below y1.heap.size y1 X) => EX.out _ (HY.out.trans (But2.of_below hX)))
            have TY := Lib.hid (fun X (hX : Below y1.heap.size y1 X) => TX.out _ (HY.out.trans (But2.of_below hX)))
            clear hsl hso hm
            generalize G.take 50 = BG at *
            obtain ⟨Z, hZ⟩ : ∃ Z, Z = List.replicate 16 (0 : UInt8) := ⟨_, rfl⟩
            have ZL : Hid (Z.length = 16) := Lib.hid (by rw [hZ]; simp)
            have C16 : Hid ([Value.int .u8 0, Value.int .u8 0, Value.int .u8 0, Value.int .u8 0, Value.int .u8 0, Value.int .u8 0, Value.int .u8 0, Value.int .u8 0, Value.int .u8 0, Value.int .u8 0, Value.int .u8 0, Value.int .u8 0, Value.int .u8 0, Value.int .u8 0, Value.int .u8 0, Value.int .u8 0] = byteCells Z) := Lib.hid (by rw [hZ]; rfl)
            have SO := Lib.hid (sealR_ok H M kd Z BG ZL.out)
            have NW := Lib.hid (fun X a h1 h2 => nwrite_any H M C kd [110] a 1 [BG] X HL.out ML.out DL.out (by simp) (by simp; omega) h1 h2)
            rw [← hZ, show [BG].length = 1 from rfl, show [BG].flatten = BG by simp, str_n, SO.out.1, show keyCells H M ++ (byteCells C ++ [Value.pointer none]) = byteCells RG ++ [Value.pointer none] by rw [HRG.out]; simp [keyCells, byteCells]] at NW
            clear hZ
            go_upto_region 14 with fail
            refine wp_region_noPanic ?_
            refine wp_region_held_drew (S := fun w' => Below y1.heap.size y1 w') (by kernel_rfl) (below_drew' (Below.refl _ _)) (fun hH => ?_)
            generalize y1.drew = z0 at *
            refine wpAnyH_take (i := 0) (oi := { dst := some 110, op := Op.load 60 (Operand.tmp 15), type := 60, pos := "law.go:141", after := #[], guard := none }) (v := .agg ((byteCells RG ++ [Value.pointer none])).toArray) rfl (by kernel_rfl) (by kernel_rfl) (by kernel_rfl) (fun _ _ _ h => h) (yieldsIf_load_mid (by rfl) 60 _ rfl (nb) 0 rfl ((byteCells RG ++ [Value.pointer none])) _ (fun wx hS => Ci.range_of (NB1.out.below hS NB1.out.lt)) Tryd.underlying60 rfl (by rw [infoPen, List.length_append, byteCells_length, RL.out]; rfl)) hH ?_
            simp only [Act.put, List.setIfInBounds_toArray, List.set_cons_zero, List.set_cons_succ]
            refine wpAnyH_take (i := 1) (oi := { dst := some 111, op := Op.fieldAddr 56 (Operand.tmp 1) 4, type := 0, pos := "law.go:141", after := #[], guard := none }) (v := .pointer (some ⟨w.heap.size, 4, none⟩)) rfl (by kernel_rfl) (by kernel_rfl) (by kernel_rfl) (fun _ _ _ h => h) (Or.inl ⟨by rfl, fun wx hS => ?_⟩) hH ?_
            · go_simp
            simp only [Act.put, List.setIfInBounds_toArray, List.set_cons_zero, List.set_cons_succ]
            refine wpAnyH_take (i := 2) (oi := { dst := some 112, op := Op.load 5 (Operand.tmp 111), type := 5, pos := "law.go:141", after := #[{ on := 1, ground := Ground.data }], guard := none }) (v := .int .u8 (V kd)) rfl (by kernel_rfl) (by kernel_rfl) (by kernel_rfl) (fun _ _ _ h => h) (Or.inl ⟨by rfl, fun wx hS => ?_⟩) hH ?_
            · have e1 : wx.cell? ⟨w.heap.size, 4, none⟩ = some (.int .u8 (V kd)) := (by rw [(NY.out _ hS).cell]; exact C4.out); go_simp
            simp only [Act.put, List.setIfInBounds_toArray, List.set_cons_zero, List.set_cons_succ]
            refine wpAnyH_take (i := 3) (oi := { dst := some 113, op := Op.fieldAddr 56 (Operand.tmp 1) 2, type := 0, pos := "law.go:141", after := #[], guard := none }) (v := .pointer (some ⟨w.heap.size, 2, none⟩)) rfl (by kernel_rfl) (by kernel_rfl) (by kernel_rfl) (fun _ _ _ h => h) (Or.inl ⟨by rfl, fun wx hS => ?_⟩) hH ?_
            · go_simp
            simp only [Act.put, List.setIfInBounds_toArray, List.set_cons_zero, List.set_cons_succ]
            refine wpAnyH_take (i := 4) (oi := { dst := some 114, op := Op.load 22 (Operand.tmp 113), type := 22, pos := "law.go:141", after := #[{ on := 3, ground := Ground.data }], guard := none }) (v := .slice ba G.length bc) rfl (by kernel_rfl) (by kernel_rfl) (by kernel_rfl) (fun _ _ _ h => h) (Or.inl ⟨by rfl, fun wx hS => ?_⟩) hH ?_
            · have e1 : wx.cell? ⟨w.heap.size, 2, none⟩ = some (.slice ba G.length bc) := (by rw [(NY.out _ hS).cell]; exact C2.out); go_simp
            simp only [Act.put, List.setIfInBounds_toArray, List.set_cons_zero, List.set_cons_succ]
            refine wpAnyH_take (i := 5) (oi := { dst := some 115, op := Op.fieldAddr 56 (Operand.tmp 1) 2, type := 0, pos := "law.go:141", after := #[], guard := none }) (v := .pointer (some ⟨w.heap.size, 2, none⟩)) rfl (by kernel_rfl) (by kernel_rfl) (by kernel_rfl) (fun _ _ _ h => h) (Or.inl ⟨by rfl, fun wx hS => ?_⟩) hH ?_
            · go_simp
            simp only [Act.put, List.setIfInBounds_toArray, List.set_cons_zero, List.set_cons_succ]
            refine wpAnyH_take (i := 6) (oi := { dst := some 116, op := Op.load 22 (Operand.tmp 115), type := 22, pos := "law.go:141", after := #[{ on := 5, ground := Ground.data }], guard := none }) (v := .slice ba G.length bc) rfl (by kernel_rfl) (by kernel_rfl) (by kernel_rfl) (fun _ _ _ h => h) (Or.inl ⟨by rfl, fun wx hS => ?_⟩) hH ?_
            · have e1 : wx.cell? ⟨w.heap.size, 2, none⟩ = some (.slice ba G.length bc) := (by rw [(NY.out _ hS).cell]; exact C2.out); go_simp
            simp only [Act.put, List.setIfInBounds_toArray, List.set_cons_zero, List.set_cons_succ]
            refine wpAnyH_take (i := 7) (oi := { dst := some 117, op := Op.call { callee := Callee.builtin Builtin.len, args := #[Operand.tmp 116], argTypes := #[22] }, type := 3, pos := "law.go:141", after := #[{ on := 6, ground := Ground.data }], guard := none }) (v := .int .i64 (G.length : Int)) rfl (by kernel_rfl) (by kernel_rfl) (by kernel_rfl) (fun _ _ _ h => h) (Or.inl ⟨by rfl, fun wx hS => ?_⟩) hH ?_
            · go_simp
            simp only [Act.put, List.setIfInBounds_toArray, List.set_cons_zero, List.set_cons_succ]
            refine wpAnyH_take (i := 8) (oi := { dst := some 118, op := Op.call { callee := Callee.builtin Builtin.min, args := #[Operand.tmp 117, Operand.const (Value.int IntKind.i64 50)], argTypes := #[3, 3] }, type := 3, pos := "law.go:141", after := #[{ on := 7, ground := Ground.data }], guard := none }) (v := .int .i64 (m : Int)) rfl (by kernel_rfl) (by kernel_rfl) (by kernel_rfl) (fun _ _ _ h => h) (Or.inl ⟨by rfl, fun wx hS => ?_⟩) hH ?_
            · go_simp; have e1 := HMIN.out; omega
            simp only [Act.put, List.setIfInBounds_toArray, List.set_cons_zero, List.set_cons_succ]
            refine wpAnyH_take (i := 9) (oi := { dst := some 119, op := Op.slice 22 (Operand.tmp 114) none (some (Operand.tmp 118)) none, type := 22, pos := "law.go:141", after := #[{ on := 4, ground := Ground.data }, { on := 8, ground := Ground.data }], guard := none }) (v := .slice sa BG.length sc) rfl (by kernel_rfl) (by kernel_rfl) (by kernel_rfl) (fun _ _ _ h => h) (Or.inl ⟨by rfl, fun wx hS => ?_⟩) hH ?_
            · have e1 := SL.out wx; go_simp
            simp only [Act.put, List.setIfInBounds_toArray, List.set_cons_zero, List.set_cons_succ]
            refine wpAnyH_ready (rs := [10]) (by kernel_rfl) (by simp) ?_
            refine AllReadyH.cons (o := { dst := some 120, op := Op.buildSlice 54 1 #[(0, Operand.tmp 119)], type := 54, pos := "law.go:141", after := #[{ on := 9, ground := Ground.data }], guard := none }) rfl (fun KK hKK => ?_) AllReadyH.nil
            have kb := alloc_below z0 (.cells #[.slice sa BG.length sc] 22 (0, 0))
            have QG := cellsAt.new z0 #[.slice sa BG.length sc] z0.heap.size 22 [.slice sa BG.length sc] rfl rfl
            have hN := hH.trans (kb.mono hH.size)
            clear hH kb
            go_simp
            refine hKK.out _ _ hN (fun hH => ?_)
            clear hKK KK hN
            try simp only [Act.put, List.setIfInBounds_toArray, List.set_cons_zero, List.set_cons_succ]
            generalize z0.alloc (.cells #[.slice sa BG.length sc] 22 (0, 0)) = z1 at *
            generalize z0.heap.size = zg at QG ⊢
            have PW := Lib.hid (NW.out z1 (some ⟨zg, 0, none⟩) (parts_one (QG 0 _ rfl) (OG.out z1 hH)) (TY.out z1 hH))
            clear QG
            refine wpAnyH_ready (rs := [11]) (by kernel_rfl) (by simp) ?_
            refine AllReadyH.cons (o := { dst := some 121, op := Op.call { callee := Callee.value (Operand.func 28), args := #[Operand.tmp 110, Operand.tmp 112, Operand.const (Value.string { data := #[110] }), Operand.tmp 120], argTypes := #[60, 5, 9, 54] }, type := 44, pos := "law.go:141", after := #[{ on := 0, ground := Ground.data }, { on := 2, ground := Ground.data }, { on := 10, ground := Ground.data }], guard := none }) rfl (fun KK hKK => ?_) AllReadyH.nil
            go_simp
            with_reducible refine PW.out.mono ?_
            rintro e z2 ⟨v, rfl, hv, kb⟩
            obtain ⟨ug, uc, rfl, -, -, hu1, hu2, hu3⟩ := own_at hv SO.out.2.1
            have hN := hH.trans (kb.mono hH.size)
            clear hH kb PW hv
            refine hKK.out _ _ hN (fun hH => ?_)
            clear hKK KK hN
            try simp only [Act.put, List.setIfInBounds_toArray, List.set_cons_zero, List.set_cons_succ]
            refine wpAnyH_take (i := 12) (oi := { dst := some 109, op := Op.move (Operand.tmp 121), type := 44, pos := "law.go:141", after := #[{ on := 11, ground := Ground.data }], guard := none }) (v := .tuple #[.slice (some ⟨ug, 0, none⟩) (sealR H M kd [110] Z BG).1.length uc, .int .i64 0]) rfl (by kernel_rfl) (by kernel_rfl) (by kernel_rfl) (fun _ _ _ h => h) (Or.inl ⟨by rfl, fun wx hS => ?_⟩) hH ?_
            · go_simp
            simp only [Act.put, List.setIfInBounds_toArray, List.set_cons_zero, List.set_cons_succ]
            refine wpAnyH_take (i := 13) (oi := { dst := some 122, op := Op.extract (Operand.tmp 109) 0, type := 22, pos := "law.go:141", after := #[{ on := 12, ground := Ground.data }], guard := none }) (v := .slice (some ⟨ug, 0, none⟩) (sealR H M kd [110] Z BG).1.length uc) rfl (by kernel_rfl) (by kernel_rfl) (by kernel_rfl) (fun _ _ _ h => h) (Or.inl ⟨by rfl, fun wx hS => ?_⟩) hH ?_
            · go_simp
            simp only [Act.put, List.setIfInBounds_toArray, List.set_cons_zero, List.set_cons_succ]
            refine wpAnyH_take (i := 14) (oi := { dst := some 123, op := Op.extract (Operand.tmp 109) 1, type := 41, pos := "law.go:141", after := #[{ on := 12, ground := Ground.data }, { on := 15, ground := Ground.gcOnly Departure.lateStores }], guard := none }) (v := .int .i64 0) rfl (by kernel_rfl) (by kernel_rfl) (by kernel_rfl) (fun _ _ _ h => h) (Or.inl ⟨by rfl, fun wx hS => ?_⟩) hH ?_
            · go_simp
            simp only [Act.put, List.setIfInBounds_toArray, List.set_cons_zero, List.set_cons_succ]
            refine wpAnyH_ready (rs := [15]) (by kernel_rfl) (by simp) ?_
            refine AllReadyH.cons (o := { dst := some 16, op := Op.assign (Operand.tmp 122), type := 22, pos := "law.go:141", after := #[{ on := 13, ground := Ground.data }, { on := 11, ground := Ground.chain }, { on := 0, ground := Ground.phase }, { on := 1, ground := Ground.phase }, { on := 2, ground := Ground.phase }, { on := 3, ground := Ground.phase }, { on := 4, ground := Ground.phase }, { on := 5, ground := Ground.phase }, { on := 6, ground := Ground.phase }, { on := 7, ground := Ground.phase }, { on := 8, ground := Ground.phase }, { on := 9, ground := Ground.phase }, { on := 10, ground := Ground.phase }, { on := 11, ground := Ground.phase }, { on := 12, ground := Ground.phase }, { on := 13, ground := Ground.phase }, { on := 14, ground := Ground.textOnly Departure.lateStores }], guard := none }) rfl (fun KK hKK => ?_) AllReadyH.nil
            go_simp
            refine hKK.out _ _ hH (fun hH => ?_)
            clear hKK KK
            try simp only [Act.put, List.setIfInBounds_toArray, List.set_cons_zero, List.set_cons_succ]
            refine wpAnyH_ready (rs := [16]) (by kernel_rfl) (by simp) ?_
            refine AllReadyH.cons (o := { dst := some 17, op := Op.assign (Operand.tmp 123), type := 41, pos := "law.go:141", after := #[{ on := 14, ground := Ground.data }, { on := 15, ground := Ground.chain }, { on := 0, ground := Ground.phase }, { on := 1, ground := Ground.phase }, { on := 2, ground := Ground.phase }, { on := 3, ground := Ground.phase }, { on := 4, ground := Ground.phase }, { on := 5, ground := Ground.phase }, { on := 6, ground := Ground.phase }, { on := 7, ground := Ground.phase }, { on := 8, ground := Ground.phase }, { on := 9, ground := Ground.phase }, { on := 10, ground := Ground.phase }, { on := 11, ground := Ground.phase }, { on := 12, ground := Ground.phase }, { on := 13, ground := Ground.phase }, { on := 14, ground := Ground.phase }, { on := 15, ground := Ground.phase }], guard := none }) rfl (fun KK hKK => ?_) AllReadyH.nil
            go_simp
            refine hKK.out _ _ hH (fun hH => ?_)
            clear hKK KK
            try simp only [Act.put, List.setIfInBounds_toArray, List.set_cons_zero, List.set_cons_succ]
            refine wpAnyH_done (by kernel_rfl) ?_ _
            refine NoPanic.normal ?_
            have HZ := Lib.hid hH
            have HU := Lib.hid hu3
            have NZ := Lib.hid (fun X (hX : Below z2.heap.size z2 X) => NY.out X (HZ.out.trans (hX.mono HZ.out.size)))
            have OZ := Lib.hid (fun X (hX : Below z2.heap.size z2 X) => OG.out X (HZ.out.trans (hX.mono HZ.out.size)))
            have EZ := Lib.hid (fun X (hX : Below z2.heap.size z2 X) => keys_at HRG.out (EY.out X (HZ.out.trans (hX.mono HZ.out.size))))
            clear hH hu3 NW NY OG EY TY NB1
            have KL : Hid ((keyCells H M).length = 64) := Lib.hid (keyCells_length HL.out ML.out)
            have DS := Lib.hid (fun X => docSealR_any H M Z kd [110] BG X HL.out ML.out ZL.out (by omega))
            rw [str_n, SO.out.1] at DS
            obtain ⟨KC, hKC⟩ : ∃ KC, KC = keyCells H M := ⟨_, rfl⟩
            rw [← hKC] at EZ KL DS
            clear hKC
            go_upto_region 15 with fail
            refine wp_region_noPanic ?_
            refine wp_region_held_drew (S := fun w' => Below z2.heap.size z2 w') (by kernel_rfl) (below_drew' (Below.refl _ _)) (fun hH => ?_)
            have HUd := bytesIn.below HU.out (below_drew' (Below.refl z2.heap.size z2))
            clear HU
            generalize z2.drew = z3 at *
            refine wpAnyH_take (i := 0) (oi := { dst := some 125, op := Op.fieldAddr 62 (Operand.tmp 7) 0, type := 0, pos := "law.go:142", after := #[], guard := none }) (v := .pointer (some ⟨qb + 1, 0, none⟩)) rfl (by kernel_rfl) (by kernel_rfl) (by kernel_rfl) (fun _ _ _ h => h) (Or.inl ⟨by rfl, fun wx hS => ?_⟩) hH ?_
            · go_simp
            simp only [Act.put, List.setIfInBounds_toArray, List.set_cons_zero, List.set_cons_succ]
            refine wpAnyH_take (i := 1) (oi := { dst := some 126, op := Op.load 36 (Operand.tmp 125), type := 36, pos := "law.go:142", after := #[{ on := 0, ground := Ground.data }], guard := none }) (v := .agg (KC).toArray) rfl (by kernel_rfl) (by kernel_rfl) (by kernel_rfl) (fun _ _ _ h => h) (yieldsIf_load_mid (by rfl) 36 _ rfl ((qb + 1)) 0 rfl (KC) _ (fun wx hS => EZ.out wx hS) Tryd.underlying36 rfl (by rw [infoRK, KL.out])) hH ?_
            simp only [Act.put, List.setIfInBounds_toArray, List.set_cons_zero, List.set_cons_succ]
            refine wpAnyH_take (i := 2) (oi := { dst := some 127, op := Op.fieldAddr 56 (Operand.tmp 1) 4, type := 0, pos := "law.go:142", after := #[], guard := none }) (v := .pointer (some ⟨w.heap.size, 4, none⟩)) rfl (by kernel_rfl) (by kernel_rfl) (by kernel_rfl) (fun _ _ _ h => h) (Or.inl ⟨by rfl, fun wx hS => ?_⟩) hH ?_
            · go_simp
            simp only [Act.put, List.setIfInBounds_toArray, List.set_cons_zero, List.set_cons_succ]
            refine wpAnyH_take (i := 3) (oi := { dst := some 128, op := Op.load 5 (Operand.tmp 127), type := 5, pos := "law.go:142", after := #[{ on := 2, ground := Ground.data }], guard := none }) (v := .int .u8 (V kd)) rfl (by kernel_rfl) (by kernel_rfl) (by kernel_rfl) (fun _ _ _ h => h) (Or.inl ⟨by rfl, fun wx hS => ?_⟩) hH ?_
            · have e1 : wx.cell? ⟨w.heap.size, 4, none⟩ = some (.int .u8 (V kd)) := (by rw [(NZ.out _ hS).cell]; exact C4.out); go_simp
            simp only [Act.put, List.setIfInBounds_toArray, List.set_cons_zero, List.set_cons_succ]
            refine wpAnyH_take (i := 4) (oi := { dst := some 129, op := Op.build 28 #[], type := 28, pos := "law.go:142", after := #[], guard := none }) (v := .agg (byteCells Z).toArray) rfl (by kernel_rfl) (by kernel_rfl) (by kernel_rfl) (fun _ _ _ h => h) (Or.inl ⟨by rfl, fun wx hS => ?_⟩) hH ?_
            · go_simp; exact C16.out
            simp only [Act.put, List.setIfInBounds_toArray, List.set_cons_zero, List.set_cons_succ]
            refine wpAnyH_take (i := 5) (oi := { dst := some 130, op := Op.fieldAddr 56 (Operand.tmp 1) 2, type := 0, pos := "law.go:142", after := #[], guard := none }) (v := .pointer (some ⟨w.heap.size, 2, none⟩)) rfl (by kernel_rfl) (by kernel_rfl) (by kernel_rfl) (fun _ _ _ h => h) (Or.inl ⟨by rfl, fun wx hS => ?_⟩) hH ?_
            · go_simp
            simp only [Act.put, List.setIfInBounds_toArray, List.set_cons_zero, List.set_cons_succ]
            refine wpAnyH_take (i := 6) (oi := { dst := some 131, op := Op.load 22 (Operand.tmp 130), type := 22, pos := "law.go:142", after := #[{ on := 5, ground := Ground.data }], guard := none }) (v := .slice ba G.length bc) rfl (by kernel_rfl) (by kernel_rfl) (by kernel_rfl) (fun _ _ _ h => h) (Or.inl ⟨by rfl, fun wx hS => ?_⟩) hH ?_
            · have e1 : wx.cell? ⟨w.heap.size, 2, none⟩ = some (.slice ba G.length bc) := (by rw [(NZ.out _ hS).cell]; exact C2.out); go_simp
            simp only [Act.put, List.setIfInBounds_toArray, List.set_cons_zero, List.set_cons_succ]
            refine wpAnyH_take (i := 7) (oi := { dst := some 132, op := Op.fieldAddr 56 (Operand.tmp 1) 2, type := 0, pos := "law.go:142", after := #[], guard := none }) (v := .pointer (some ⟨w.heap.size, 2, none⟩)) rfl (by kernel_rfl) (by kernel_rfl) (by kernel_rfl) (fun _ _ _ h => h) (Or.inl ⟨by rfl, fun wx hS => ?_⟩) hH ?_
            · go_simp
            simp only [Act.put, List.setIfInBounds_toArray, List.set_cons_zero, List.set_cons_succ]
            refine wpAnyH_take (i := 8) (oi := { dst := some 133, op := Op.load 22 (Operand.tmp 132), type := 22, pos := "law.go:142", after := #[{ on := 7, ground := Ground.data }], guard := none }) (v := .slice ba G.length bc) rfl (by kernel_rfl) (by kernel_rfl) (by kernel_rfl) (fun _ _ _ h => h) (Or.inl ⟨by rfl, fun wx hS => ?_⟩) hH ?_
            · have e1 : wx.cell? ⟨w.heap.size, 2, none⟩ = some (.slice ba G.length bc) := (by rw [(NZ.out _ hS).cell]; exact C2.out); go_simp
            simp only [Act.put, List.setIfInBounds_toArray, List.set_cons_zero, List.set_cons_succ]
            refine wpAnyH_take (i := 9) (oi := { dst := some 134, op := Op.call { callee := Callee.builtin Builtin.len, args := #[Operand.tmp 133], argTypes := #[22] }, type := 3, pos := "law.go:142", after := #[{ on := 8, ground := Ground.data }], guard := none }) (v := .int .i64 (G.length : Int)) rfl (by kernel_rfl) (by kernel_rfl) (by kernel_rfl) (fun _ _ _ h => h) (Or.inl ⟨by rfl, fun wx hS => ?_⟩) hH ?_
            · go_simp
            simp only [Act.put, List.setIfInBounds_toArray, List.set_cons_zero, List.set_cons_succ]
            refine wpAnyH_take (i := 10) (oi := { dst := some 135, op := Op.call { callee := Callee.builtin Builtin.min, args := #[Operand.tmp 134, Operand.const (Value.int IntKind.i64 50)], argTypes := #[3, 3] }, type := 3, pos := "law.go:142", after := #[{ on := 9, ground := Ground.data }], guard := none }) (v := .int .i64 (m : Int)) rfl (by kernel_rfl) (by kernel_rfl) (by kernel_rfl) (fun _ _ _ h => h) (Or.inl ⟨by rfl, fun wx hS => ?_⟩) hH ?_
            · go_simp; have e1 := HMIN.out; omega
            simp only [Act.put, List.setIfInBounds_toArray, List.set_cons_zero, List.set_cons_succ]
            refine wpAnyH_take (i := 11) (oi := { dst := some 136, op := Op.slice 22 (Operand.tmp 131) none (some (Operand.tmp 135)) none, type := 22, pos := "law.go:142", after := #[{ on := 6, ground := Ground.data }, { on := 10, ground := Ground.data }], guard := none }) (v := .slice sa BG.length sc) rfl (by kernel_rfl) (by kernel_rfl) (by kernel_rfl) (fun _ _ _ h => h) (Or.inl ⟨by rfl, fun wx hS => ?_⟩) hH ?_
            · have e1 := SL.out wx; go_simp
            simp only [Act.put, List.setIfInBounds_toArray, List.set_cons_zero, List.set_cons_succ]
            refine wpAnyH_take (i := 12) (oi := { dst := some 137, op := Op.convert 22 9 (Operand.tmp 136), type := 9, pos := "law.go:142", after := #[{ on := 11, ground := Ground.data }], guard := none }) (v := .string (str BG)) rfl (by kernel_rfl) (by kernel_rfl) (by kernel_rfl) (fun _ _ _ h => h) (Or.inl ⟨by rfl, fun wx hS => ?_⟩) hH ?_
            · have e1 := conv_string wx sa BG sc (OZ.out wx hS).1.2.2; go_simp
            simp only [Act.put, List.setIfInBounds_toArray, List.set_cons_zero, List.set_cons_succ]
            refine wpAnyH_ready (rs := [13]) (by kernel_rfl) (by simp) ?_
            refine AllReadyH.cons (o := { dst := some 138, op := Op.call { callee := Callee.value (Operand.func 21), args := #[Operand.tmp 126, Operand.tmp 128, Operand.const (Value.string { data := #[110] }), Operand.tmp 129, Operand.tmp 137], argTypes := #[36, 5, 9, 28, 9] }, type := 42, pos := "law.go:142", after := #[{ on := 1, ground := Ground.data }, { on := 3, ground := Ground.data }, { on := 4, ground := Ground.data }, { on := 12, ground := Ground.data }], guard := none }) rfl (fun KK hKK => ?_) AllReadyH.nil
            go_simp
            with_reducible refine (DS.out z3).mono ?_
            rintro e z4 ⟨rfl, kb⟩
            replace HUd := bytesIn.below HUd kb
            have hN := hH.trans (kb.mono hH.size)
            clear hH kb
            refine hKK.out _ _ hN (fun hH => ?_)
            clear hKK KK hN
            try simp only [Act.put, List.setIfInBounds_toArray, List.set_cons_zero, List.set_cons_succ]
            refine wpAnyH_take (i := 14) (oi := { dst := some 124, op := Op.move (Operand.tmp 138), type := 42, pos := "law.go:142", after := #[{ on := 13, ground := Ground.data }], guard := none }) (v := .tuple #[.string (str (sealR H M kd [110] Z BG).1), .int .i64 0]) rfl (by kernel_rfl) (by kernel_rfl) (by kernel_rfl) (fun _ _ _ h => h) (Or.inl ⟨by rfl, fun wx hS => ?_⟩) hH ?_
            · go_simp
            simp only [Act.put, List.setIfInBounds_toArray, List.set_cons_zero, List.set_cons_succ]
            refine wpAnyH_take (i := 15) (oi := { dst := some 139, op := Op.extract (Operand.tmp 124) 0, type := 9, pos := "law.go:142", after := #[{ on := 14, ground := Ground.data }], guard := none }) (v := .string (str (sealR H M kd [110] Z BG).1)) rfl (by kernel_rfl) (by kernel_rfl) (by kernel_rfl) (fun _ _ _ h => h) (Or.inl ⟨by rfl, fun wx hS => ?_⟩) hH ?_
            · go_simp
            simp only [Act.put, List.setIfInBounds_toArray, List.set_cons_zero, List.set_cons_succ]
            refine wpAnyH_take (i := 16) (oi := { dst := some 140, op := Op.extract (Operand.tmp 124) 1, type := 41, pos := "law.go:142", after := #[{ on := 14, ground := Ground.data }, { on := 17, ground := Ground.gcOnly Departure.lateStores }], guard := none }) (v := .int .i64 0) rfl (by kernel_rfl) (by kernel_rfl) (by kernel_rfl) (fun _ _ _ h => h) (Or.inl ⟨by rfl, fun wx hS => ?_⟩) hH ?_
            · go_simp
            simp only [Act.put, List.setIfInBounds_toArray, List.set_cons_zero, List.set_cons_succ]
            refine wpAnyH_ready (rs := [17]) (by kernel_rfl) (by simp) ?_
            refine AllReadyH.cons (o := { dst := some 18, op := Op.assign (Operand.tmp 139), type := 9, pos := "law.go:142", after := #[{ on := 15, ground := Ground.data }, { on := 13, ground := Ground.chain }, { on := 0, ground := Ground.phase }, { on := 1, ground := Ground.phase }, { on := 2, ground := Ground.phase }, { on := 3, ground := Ground.phase }, { on := 4, ground := Ground.phase }, { on := 5, ground := Ground.phase }, { on := 6, ground := Ground.phase }, { on := 7, ground := Ground.phase }, { on := 8, ground := Ground.phase }, { on := 9, ground := Ground.phase }, { on := 10, ground := Ground.phase }, { on := 11, ground := Ground.phase }, { on := 12, ground := Ground.phase }, { on := 13, ground := Ground.phase }, { on := 14, ground := Ground.phase }, { on := 15, ground := Ground.phase }, { on := 16, ground := Ground.textOnly Departure.lateStores }], guard := none }) rfl (fun KK hKK => ?_) AllReadyH.nil
            go_simp
            refine hKK.out _ _ hH (fun hH => ?_)
            clear hKK KK
            try simp only [Act.put, List.setIfInBounds_toArray, List.set_cons_zero, List.set_cons_succ]
            refine wpAnyH_ready (rs := [18]) (by kernel_rfl) (by simp) ?_
            refine AllReadyH.cons (o := { dst := some 19, op := Op.assign (Operand.tmp 140), type := 41, pos := "law.go:142", after := #[{ on := 16, ground := Ground.data }, { on := 17, ground := Ground.chain }, { on := 0, ground := Ground.phase }, { on := 1, ground := Ground.phase }, { on := 2, ground := Ground.phase }, { on := 3, ground := Ground.phase }, { on := 4, ground := Ground.phase }, { on := 5, ground := Ground.phase }, { on := 6, ground := Ground.phase }, { on := 7, ground := Ground.phase }, { on := 8, ground := Ground.phase }, { on := 9, ground := Ground.phase }, { on := 10, ground := Ground.phase }, { on := 11, ground := Ground.phase }, { on := 12, ground := Ground.phase }, { on := 13, ground := Ground.phase }, { on := 14, ground := Ground.phase }, { on := 15, ground := Ground.phase }, { on := 16, ground := Ground.phase }, { on := 17, ground := Ground.phase }], guard := none }) rfl (fun KK hKK => ?_) AllReadyH.nil
            go_simp
            refine hKK.out _ _ hH (fun hH => ?_)
            clear hKK KK
            try simp only [Act.put, List.setIfInBounds_toArray, List.set_cons_zero, List.set_cons_succ]
            refine wpAnyH_done (by kernel_rfl) ?_ _
            refine NoPanic.normal ?_
            have HBE := BX.out _ (HY.out.trans (But2.of_below (HZ.out.trans (hH.mono HZ.out.size))))
            generalize (sealR H M kd [110] Z BG).1 = s1 at *
            have cv1 := conv_string z4 (some ⟨ug, 0, none⟩) s1 uc HUd
            have sb : ((str s1).toList == (str s1).toList) = true := by simp
            clear hH
            go_wp2_with fail
            go_ret
            exact ⟨rfl, HBE⟩)
        · have qR : ¬ (k : Int) < (R.length : Int) := by omega
          (as_aux_lemma =>
            have RW := Lib.hid (rkeys_at HPC.out (PX.out _ hB))
            have HBN := Lib.hid (fun X => buildPenNil RG RL.out X)
            have hzp := zeroPen
            have NN := Lib.hid (blockIs.new wr (zeros 96 ++ [Value.pointer none]) 60)
            have KN := Lib.hid (alloc_below wr (.cells (zeros 96 ++ [Value.pointer none]).toArray 60 (0, 0)))
            have RGL : Hid ((byteCells RG).length = 96) := Lib.hid (by rw [byteCells_length, RL.out])
            go_wp2_with (first | (refine Ci.wpList_load_mid_if (by rfl) 58 _ rfl pb 0 rfl (byteCells RG) _ RW.out Tryd.underlying58 rfl (by rw [infoRing, RGL.out]) ?_) | (refine wpList_build rfl 60 _ rfl _ _ (HBN.out _) rfl ?_) | (refine wpList_store_block rfl 60 _ _ rfl wr.heap.size 0 (byteCells RG ++ [Value.pointer none]) rfl rfl (zeros 96 ++ [Value.pointer none]) 60 NN.out (by rw [infoPen, List.length_append, RGL.out]; rfl) (by rw [List.length_append, RGL.out]; simp [zeros]) (penNil_one RG) ?_))
            intro y1 h1 h2 h3
            have h1 := h1.out
            rw [splice_all _ _ (by rw [List.length_append, List.length_append, RGL.out]; simp [zeros])] at h1
            have NB1 := Lib.hid h1
            have HY := Lib.hid (hB.trans (But2.of_below (KN.out.trans (h2.out.below (Nat.le_refl _) KN.out.size))))
            obtain ⟨nb, hnb⟩ : ∃ nb, nb = wr.heap.size := ⟨_, rfl⟩
            rw [← hnb] at NB1 ⊢
            clear h1 h2 h3 hnb NN KN HBN hzp RW hB hT hU
            obtain ⟨m, hm⟩ : ∃ m, m = min G.length 50 := ⟨_, rfl⟩
            have HMIN : Hid (min (G.length : Int) 50 = (m : Int)) := Lib.hid (by omega)
            obtain ⟨sa, sc, hsl, hso⟩ := cut_to ba bc G 50 m hm (GX.out _ HY.out).1.1
            have hb1 : (G.take 50).length ≤ 50 := by rw [List.length_take]; omega
            have SL := Lib.hid hsl
            have OG := Lib.hid (fun X (hX : Below y1.heap.size y1 X) => hso X (GX.out _ (HY.out.trans (But2.of_below hX))))
            have NY := Lib.hid (fun X (hX : Below y1.heap.size y1 X) => NX.out _ (HY.out.trans (But2.of_below hX)))
            have EY := Lib.hid (fun X (hX : Below y1.heap.size y1 X) => EX.out _ (HY.out.trans (But2.of_below hX)))
            have TY := Lib.hid (fun X (hX : Below y1.heap.size y1 X) => TX.out _ (HY.out.trans (But2.of_below hX)))
            clear hsl hso hm
            generalize G.take 50 = BG at *
            obtain ⟨Z, hZ⟩ : ∃ Z, Z = List.replicate 16 (0 : UInt8) := ⟨_, rfl⟩
            have ZL : Hid (Z.length = 16) := Lib.hid (by rw [hZ]; simp)
            have C16 : Hid ([Value.int .u8 0, Value.int .u8 0, Value.int .u8 0, Value.int .u8 0, Value.int .u8 0, Value.int .u8 0, Value.int .u8 0, Value.int .u8 0, Value.int .u8 0, Value.int .u8 0, Value.int .u8 0, Value.int .u8 0, Value.int .u8 0, Value.int .u8 0, Value.int .u8 0, Value.int .u8 0] = byteCells Z) := Lib.hid (by rw [hZ]; rfl)
            have SO := Lib.hid (sealR_ok H M kd Z BG ZL.out)
            have NW := Lib.hid (fun X a h1 h2 => nwrite_any H M C kd [110] a 1 [BG] X HL.out ML.out DL.out (by simp) (by simp; omega) h1 h2)
            rw [← hZ, show [BG].length = 1 from rfl, show [BG].flatten = BG by simp, str_n, SO.out.1, show keyCells H M ++ (byteCells C ++ [Value.pointer none]) = byteCells RG ++ [Value.pointer none] by rw [HRG.out]; simp [keyCells, byteCells]] at NW
            clear hZ
            go_upto_region 14 with fail
            refine wp_region_noPanic ?_
            refine wp_region_held_drew (S := fun w' => Below y1.heap.size y1 w') (by kernel_rfl) (below_drew' (Below.refl _ _)) (fun hH => ?_)
            generalize y1.drew = z0 at *
            refine wpAnyH_take (i := 0) (oi := { dst := some 110, op := Op.load 60 (Operand.tmp 15), type := 60, pos := "law.go:141", after := #[], guard := none }) (v := .agg ((byteCells RG ++ [Value.pointer none])).toArray) rfl (by kernel_rfl) (by kernel_rfl) (by kernel_rfl) (fun _ _ _ h => h) (yieldsIf_load_mid (by rfl) 60 _ rfl (nb) 0 rfl ((byteCells RG ++ [Value.pointer none])) _ (fun wx hS => Ci.range_of (NB1.out.below hS NB1.out.lt)) Tryd.underlying60 rfl (by rw [infoPen, List.length_append, byteCells_length, RL.out]; rfl)) hH ?_
            simp only [Act.put, List.setIfInBounds_toArray, List.set_cons_zero, List.set_cons_succ]
            refine wpAnyH_take (i := 1) (oi := { dst := some 111, op := Op.fieldAddr 56 (Operand.tmp 1) 4, type := 0, pos := "law.go:141", after := #[], guard := none }) (v := .pointer (some ⟨w.heap.size, 4, none⟩)) rfl (by kernel_rfl) (by kernel_rfl) (by kernel_rfl) (fun _ _ _ h => h) (Or.inl ⟨by rfl, fun wx hS => ?_⟩) hH ?_
            · go_simp
            simp only [Act.put, List.setIfInBounds_toArray, List.set_cons_zero, List.set_cons_succ]
            refine wpAnyH_take (i := 2) (oi := { dst := some 112, op := Op.load 5 (Operand.tmp 111), type := 5, pos := "law.go:141", after := #[{ on := 1, ground := Ground.data }], guard := none }) (v := .int .u8 (V kd)) rfl (by kernel_rfl) (by kernel_rfl) (by kernel_rfl) (fun _ _ _ h => h) (Or.inl ⟨by rfl, fun wx hS => ?_⟩) hH ?_
            · have e1 : wx.cell? ⟨w.heap.size, 4, none⟩ = some (.int .u8 (V kd)) := (by rw [(NY.out _ hS).cell]; exact C4.out); go_simp
            simp only [Act.put, List.setIfInBounds_toArray, List.set_cons_zero, List.set_cons_succ]
            refine wpAnyH_take (i := 3) (oi := { dst := some 113, op := Op.fieldAddr 56 (Operand.tmp 1) 2, type := 0, pos := "law.go:141", after := #[], guard := none }) (v := .pointer (some ⟨w.heap.size, 2, none⟩)) rfl (by kernel_rfl) (by kernel_rfl) (by kernel_rfl) (fun _ _ _ h => h) (Or.inl ⟨by rfl, fun wx hS => ?_⟩) hH ?_
            · go_simp
            simp only [Act.put, List.setIfInBounds_toArray, List.set_cons_zero, List.set_cons_succ]
            refine wpAnyH_take (i := 4) (oi := { dst := some 114, op := Op.load 22 (Operand.tmp 113), type := 22, pos := "law.go:141", after := #[{ on := 3, ground := Ground.data }], guard := none }) (v := .slice ba G.length bc) rfl (by kernel_rfl) (by kernel_rfl) (by kernel_rfl) (fun _ _ _ h => h) (Or.inl ⟨by rfl, fun wx hS => ?_⟩) hH ?_
            · have e1 : wx.cell? ⟨w.heap.size, 2, none⟩ = some (.slice ba G.length bc) := (by rw [(NY.out _ hS).cell]; exact C2.out); go_simp
            simp only [Act.put, List.setIfInBounds_toArray, List.set_cons_zero, List.set_cons_succ]
            refine wpAnyH_take (i := 5) (oi := { dst := some 115, op := Op.fieldAddr 56 (Operand.tmp 1) 2, type := 0, pos := "law.go:141", after := #[], guard := none }) (v := .pointer (some ⟨w.heap.size, 2, none⟩)) rfl (by kernel_rfl) (by kernel_rfl) (by kernel_rfl) (fun _ _ _ h => h) (Or.inl ⟨by rfl, fun wx hS => ?_⟩) hH ?_
            · go_simp
            simp only [Act.put, List.setIfInBounds_toArray, List.set_cons_zero, List.set_cons_succ]
            refine wpAnyH_take (i := 6) (oi := { dst := some 116, op := Op.load 22 (Operand.tmp 115), type := 22, pos := "law.go:141", after := #[{ on := 5, ground := Ground.data }], guard := none }) (v := .slice ba G.length bc) rfl (by kernel_rfl) (by kernel_rfl) (by kernel_rfl) (fun _ _ _ h => h) (Or.inl ⟨by rfl, fun wx hS => ?_⟩) hH ?_
            · have e1 : wx.cell? ⟨w.heap.size, 2, none⟩ = some (.slice ba G.length bc) := (by rw [(NY.out _ hS).cell]; exact C2.out); go_simp
            simp only [Act.put, List.setIfInBounds_toArray, List.set_cons_zero, List.set_cons_succ]
            refine wpAnyH_take (i := 7) (oi := { dst := some 117, op := Op.call { callee := Callee.builtin Builtin.len, args := #[Operand.tmp 116], argTypes := #[22] }, type := 3, pos := "law.go:141", after := #[{ on := 6, ground := Ground.data }], guard := none }) (v := .int .i64 (G.length : Int)) rfl (by kernel_rfl) (by kernel_rfl) (by kernel_rfl) (fun _ _ _ h => h) (Or.inl ⟨by rfl, fun wx hS => ?_⟩) hH ?_
            · go_simp
            simp only [Act.put, List.setIfInBounds_toArray, List.set_cons_zero, List.set_cons_succ]
            refine wpAnyH_take (i := 8) (oi := { dst := some 118, op := Op.call { callee := Callee.builtin Builtin.min, args := #[Operand.tmp 117, Operand.const (Value.int IntKind.i64 50)], argTypes := #[3, 3] }, type := 3, pos := "law.go:141", after := #[{ on := 7, ground := Ground.data }], guard := none }) (v := .int .i64 (m : Int)) rfl (by kernel_rfl) (by kernel_rfl) (by kernel_rfl) (fun _ _ _ h => h) (Or.inl ⟨by rfl, fun wx hS => ?_⟩) hH ?_
            · go_simp; have e1 := HMIN.out; omega
            simp only [Act.put, List.setIfInBounds_toArray, List.set_cons_zero, List.set_cons_succ]
            refine wpAnyH_take (i := 9) (oi := { dst := some 119, op := Op.slice 22 (Operand.tmp 114) none (some (Operand.tmp 118)) none, type := 22, pos := "law.go:141", after := #[{ on := 4, ground := Ground.data }, { on := 8, ground := Ground.data }], guard := none }) (v := .slice sa BG.length sc) rfl (by kernel_rfl) (by kernel_rfl) (by kernel_rfl) (fun _ _ _ h => h) (Or.inl ⟨by rfl, fun wx hS => ?_⟩) hH ?_
            · have e1 := SL.out wx; go_simp
            simp only [Act.put, List.setIfInBounds_toArray, List.set_cons_zero, List.set_cons_succ]
            refine wpAnyH_ready (rs := [10]) (by kernel_rfl) (by simp) ?_
            refine AllReadyH.cons (o := { dst := some 120, op := Op.buildSlice 54 1 #[(0, Operand.tmp 119)], type := 54, pos := "law.go:141", after := #[{ on := 9, ground := Ground.data }], guard := none }) rfl (fun KK hKK => ?_) AllReadyH.nil
            have kb := alloc_below z0 (.cells #[.slice sa BG.length sc] 22 (0, 0))
            have QG := cellsAt.new z0 #[.slice sa BG.length sc] z0.heap.size 22 [.slice sa BG.length sc] rfl rfl
            have hN := hH.trans (kb.mono hH.size)
            clear hH kb
            go_simp
            refine hKK.out _ _ hN (fun hH => ?_)
            clear hKK KK hN
            try simp only [Act.put, List.setIfInBounds_toArray, List.set_cons_zero, List.set_cons_succ]
            generalize z0.alloc (.cells #[.slice sa BG.length sc] 22 (0, 0)) = z1 at *
            generalize z0.heap.size = zg at QG ⊢
            have PW := Lib.hid (NW.out z1 (some ⟨zg, 0, none⟩) (parts_one (QG 0 _ rfl) (OG.out z1 hH)) (TY.out z1 hH))
            clear QG
            refine wpAnyH_ready (rs := [11]) (by kernel_rfl) (by simp) ?_
            refine AllReadyH.cons (o := { dst := some 121, op := Op.call { callee := Callee.value (Operand.func 28), args := #[Operand.tmp 110, Operand.tmp 112, Operand.const (Value.string { data := #[110] }), Operand.tmp 120], argTypes := #[60, 5, 9, 54] }, type := 44, pos := "law.go:141", after := #[{ on := 0, ground := Ground.data }, { on := 2, ground := Ground.data }, { on := 10, ground := Ground.data }], guard := none }) rfl (fun KK hKK => ?_) AllReadyH.nil
            go_simp
            with_reducible refine PW.out.mono ?_
            rintro e z2 ⟨v, rfl, hv, kb⟩
            obtain ⟨ug, uc, rfl, -, -, hu1, hu2, hu3⟩ := own_at hv SO.out.2.1
            have hN := hH.trans (kb.mono hH.size)
            clear hH kb PW hv
            refine hKK.out _ _ hN (fun hH => ?_)
            clear hKK KK hN
            try simp only [Act.put, List.setIfInBounds_toArray, List.set_cons_zero, List.set_cons_succ]
            refine wpAnyH_take (i := 12) (oi := { dst := some 109, op := Op.move (Operand.tmp 121), type := 44, pos := "law.go:141", after := #[{ on := 11, ground := Ground.data }], guard := none }) (v := .tuple #[.slice (some ⟨ug, 0, none⟩) (sealR H M kd [110] Z BG).1.length uc, .int .i64 0]) rfl (by kernel_rfl) (by kernel_rfl) (by kernel_rfl) (fun _ _ _ h => h) (Or.inl ⟨by rfl, fun wx hS => ?_⟩) hH ?_
            · go_simp
            simp only [Act.put, List.setIfInBounds_toArray, List.set_cons_zero, List.set_cons_succ]
            refine wpAnyH_take (i := 13) (oi := { dst := some 122, op := Op.extract (Operand.tmp 109) 0, type := 22, pos := "law.go:141", after := #[{ on := 12, ground := Ground.data }], guard := none }) (v := .slice (some ⟨ug, 0, none⟩) (sealR H M kd [110] Z BG).1.length uc) rfl (by kernel_rfl) (by kernel_rfl) (by kernel_rfl) (fun _ _ _ h => h) (Or.inl ⟨by rfl, fun wx hS => ?_⟩) hH ?_
            · go_simp
            simp only [Act.put, List.setIfInBounds_toArray, List.set_cons_zero, List.set_cons_succ]
            refine wpAnyH_take (i := 14) (oi := { dst := some 123, op := Op.extract (Operand.tmp 109) 1, type := 41, pos := "law.go:141", after := #[{ on := 12, ground := Ground.data }, { on := 15, ground := Ground.gcOnly Departure.lateStores }], guard := none }) (v := .int .i64 0) rfl (by kernel_rfl) (by kernel_rfl) (by kernel_rfl) (fun _ _ _ h => h) (Or.inl ⟨by rfl, fun wx hS => ?_⟩) hH ?_
            · go_simp
            simp only [Act.put, List.setIfInBounds_toArray, List.set_cons_zero, List.set_cons_succ]
            refine wpAnyH_ready (rs := [15]) (by kernel_rfl) (by simp) ?_
            refine AllReadyH.cons (o := { dst := some 16, op := Op.assign (Operand.tmp 122), type := 22, pos := "law.go:141", after := #[{ on := 13, ground := Ground.data }, { on := 11, ground := Ground.chain }, { on := 0, ground := Ground.phase }, { on := 1, ground := Ground.phase }, { on := 2, ground := Ground.phase }, { on := 3, ground := Ground.phase }, { on := 4, ground := Ground.phase }, { on := 5, ground := Ground.phase }, { on := 6, ground := Ground.phase }, { on := 7, ground := Ground.phase }, { on := 8, ground := Ground.phase }, { on := 9, ground := Ground.phase }, { on := 10, ground := Ground.phase }, { on := 11, ground := Ground.phase }, { on := 12, ground := Ground.phase }, { on := 13, ground := Ground.phase }, { on := 14, ground := Ground.textOnly Departure.lateStores }], guard := none }) rfl (fun KK hKK => ?_) AllReadyH.nil
            go_simp
            refine hKK.out _ _ hH (fun hH => ?_)
            clear hKK KK
            try simp only [Act.put, List.setIfInBounds_toArray, List.set_cons_zero, List.set_cons_succ]
            refine wpAnyH_ready (rs := [16]) (by kernel_rfl) (by simp) ?_
            refine AllReadyH.cons (o := { dst := some 17, op := Op.assign (Operand.tmp 123), type := 41, pos := "law.go:141", after := #[{ on := 14, ground := Ground.data }, { on := 15, ground := Ground.chain }, { on := 0, ground := Ground.phase }, { on := 1, ground := Ground.phase }, { on := 2, ground := Ground.phase }, { on := 3, ground := Ground.phase }, { on := 4, ground := Ground.phase }, { on := 5, ground := Ground.phase }, { on := 6, ground := Ground.phase }, { on := 7, ground := Ground.phase }, { on := 8, ground := Ground.phase }, { on := 9, ground := Ground.phase }, { on := 10, ground := Ground.phase }, { on := 11, ground := Ground.phase }, { on := 12, ground := Ground.phase }, { on := 13, ground := Ground.phase }, { on := 14, ground := Ground.phase }, { on := 15, ground := Ground.phase }], guard := none }) rfl (fun KK hKK => ?_) AllReadyH.nil
            go_simp
            refine hKK.out _ _ hH (fun hH => ?_)
            clear hKK KK
            try simp only [Act.put, List.setIfInBounds_toArray, List.set_cons_zero, List.set_cons_succ]
            refine wpAnyH_done (by kernel_rfl) ?_ _
            refine NoPanic.normal ?_
            have HZ := Lib.hid hH
            have HU := Lib.hid hu3
            have NZ := Lib.hid (fun X (hX : Below z2.heap.size z2 X) => NY.out X (HZ.out.trans (hX.mono HZ.out.size)))
            have OZ := Lib.hid (fun X (hX : Below z2.heap.size z2 X) => OG.out X (HZ.out.trans (hX.mono HZ.out.size)))
            have EZ := Lib.hid (fun X (hX : Below z2.heap.size z2 X) => keys_at HRG.out (EY.out X (HZ.out.trans (hX.mono HZ.out.size))))
            clear hH hu3 NW NY OG EY TY NB1
            have KL : Hid ((keyCells H M).length = 64) := Lib.hid (keyCells_length HL.out ML.out)
            have DS := Lib.hid (fun X => docSealR_any H M Z kd [110] BG X HL.out ML.out ZL.out (by omega))
            rw [str_n, SO.out.1] at DS
            obtain ⟨KC, hKC⟩ : ∃ KC, KC = keyCells H M := ⟨_, rfl⟩
            rw [← hKC] at EZ KL DS
            clear hKC
            go_upto_region 15 with fail
            refine wp_region_noPanic ?_
            refine wp_region_held_drew (S := fun w' => Below z2.heap.size z2 w') (by kernel_rfl) (below_drew' (Below.refl _ _)) (fun hH => ?_)
            have HUd := bytesIn.below HU.out (below_drew' (Below.refl z2.heap.size z2))
            clear HU
            generalize z2.drew = z3 at *
            refine wpAnyH_take (i := 0) (oi := { dst := some 125, op := Op.fieldAddr 62 (Operand.tmp 7) 0, type := 0, pos := "law.go:142", after := #[], guard := none }) (v := .pointer (some ⟨qb + 1, 0, none⟩)) rfl (by kernel_rfl) (by kernel_rfl) (by kernel_rfl) (fun _ _ _ h => h) (Or.inl ⟨by rfl, fun wx hS => ?_⟩) hH ?_
            · go_simp
            simp only [Act.put, List.setIfInBounds_toArray, List.set_cons_zero, List.set_cons_succ]
            refine wpAnyH_take (i := 1) (oi := { dst := some 126, op := Op.load 36 (Operand.tmp 125), type := 36, pos := "law.go:142", after := #[{ on := 0, ground := Ground.data }], guard := none }) (v := .agg (KC).toArray) rfl (by kernel_rfl) (by kernel_rfl) (by kernel_rfl) (fun _ _ _ h => h) (yieldsIf_load_mid (by rfl) 36 _ rfl ((qb + 1)) 0 rfl (KC) _ (fun wx hS => EZ.out wx hS) Tryd.underlying36 rfl (by rw [infoRK, KL.out])) hH ?_
            simp only [Act.put, List.setIfInBounds_toArray, List.set_cons_zero, List.set_cons_succ]
            refine wpAnyH_take (i := 2) (oi := { dst := some 127, op := Op.fieldAddr 56 (Operand.tmp 1) 4, type := 0, pos := "law.go:142", after := #[], guard := none }) (v := .pointer (some ⟨w.heap.size, 4, none⟩)) rfl (by kernel_rfl) (by kernel_rfl) (by kernel_rfl) (fun _ _ _ h => h) (Or.inl ⟨by rfl, fun wx hS => ?_⟩) hH ?_
            · go_simp
            simp only [Act.put, List.setIfInBounds_toArray, List.set_cons_zero, List.set_cons_succ]
            refine wpAnyH_take (i := 3) (oi := { dst := some 128, op := Op.load 5 (Operand.tmp 127), type := 5, pos := "law.go:142", after := #[{ on := 2, ground := Ground.data }], guard := none }) (v := .int .u8 (V kd)) rfl (by kernel_rfl) (by kernel_rfl) (by kernel_rfl) (fun _ _ _ h => h) (Or.inl ⟨by rfl, fun wx hS => ?_⟩) hH ?_
            · have e1 : wx.cell? ⟨w.heap.size, 4, none⟩ = some (.int .u8 (V kd)) := (by rw [(NZ.out _ hS).cell]; exact C4.out); go_simp
            simp only [Act.put, List.setIfInBounds_toArray, List.set_cons_zero, List.set_cons_succ]
            refine wpAnyH_take (i := 4) (oi := { dst := some 129, op := Op.build 28 #[], type := 28, pos := "law.go:142", after := #[], guard := none }) (v := .agg (byteCells Z).toArray) rfl (by kernel_rfl) (by kernel_rfl) (by kernel_rfl) (fun _ _ _ h => h) (Or.inl ⟨by rfl, fun wx hS => ?_⟩) hH ?_
            · go_simp; exact C16.out
            simp only [Act.put, List.setIfInBounds_toArray, List.set_cons_zero, List.set_cons_succ]
            refine wpAnyH_take (i := 5) (oi := { dst := some 130, op := Op.fieldAddr 56 (Operand.tmp 1) 2, type := 0, pos := "law.go:142", after := #[], guard := none }) (v := .pointer (some ⟨w.heap.size, 2, none⟩)) rfl (by kernel_rfl) (by kernel_rfl) (by kernel_rfl) (fun _ _ _ h => h) (Or.inl ⟨by rfl, fun wx hS => ?_⟩) hH ?_
            · go_simp
            simp only [Act.put, List.setIfInBounds_toArray, List.set_cons_zero, List.set_cons_succ]
            refine wpAnyH_take (i := 6) (oi := { dst := some 131, op := Op.load 22 (Operand.tmp 130), type := 22, pos := "law.go:142", after := #[{ on := 5, ground := Ground.data }], guard := none }) (v := .slice ba G.length bc) rfl (by kernel_rfl) (by kernel_rfl) (by kernel_rfl) (fun _ _ _ h => h) (Or.inl ⟨by rfl, fun wx hS => ?_⟩) hH ?_
            · have e1 : wx.cell? ⟨w.heap.size, 2, none⟩ = some (.slice ba G.length bc) := (by rw [(NZ.out _ hS).cell]; exact C2.out); go_simp
            simp only [Act.put, List.setIfInBounds_toArray, List.set_cons_zero, List.set_cons_succ]
            refine wpAnyH_take (i := 7) (oi := { dst := some 132, op := Op.fieldAddr 56 (Operand.tmp 1) 2, type := 0, pos := "law.go:142", after := #[], guard := none }) (v := .pointer (some ⟨w.heap.size, 2, none⟩)) rfl (by kernel_rfl) (by kernel_rfl) (by kernel_rfl) (fun _ _ _ h => h) (Or.inl ⟨by rfl, fun wx hS => ?_⟩) hH ?_
            · go_simp
            simp only [Act.put, List.setIfInBounds_toArray, List.set_cons_zero, List.set_cons_succ]
            refine wpAnyH_take (i := 8) (oi := { dst := some 133, op := Op.load 22 (Operand.tmp 132), type := 22, pos := "law.go:142", after := #[{ on := 7, ground := Ground.data }], guard := none }) (v := .slice ba G.length bc) rfl (by kernel_rfl) (by kernel_rfl) (by kernel_rfl) (fun _ _ _ h => h) (Or.inl ⟨by rfl, fun wx hS => ?_⟩) hH ?_
            · have e1 : wx.cell? ⟨w.heap.size, 2, none⟩ = some (.slice ba G.length bc) := (by rw [(NZ.out _ hS).cell]; exact C2.out); go_simp
            simp only [Act.put, List.setIfInBounds_toArray, List.set_cons_zero, List.set_cons_succ]
            refine wpAnyH_take (i := 9) (oi := { dst := some 134, op := Op.call { callee := Callee.builtin Builtin.len, args := #[Operand.tmp 133], argTypes := #[22] }, type := 3, pos := "law.go:142", after := #[{ on := 8, ground := Ground.data }], guard := none }) (v := .int .i64 (G.length : Int)) rfl (by kernel_rfl) (by kernel_rfl) (by kernel_rfl) (fun _ _ _ h => h) (Or.inl ⟨by rfl, fun wx hS => ?_⟩) hH ?_
            · go_simp
            simp only [Act.put, List.setIfInBounds_toArray, List.set_cons_zero, List.set_cons_succ]
            refine wpAnyH_take (i := 10) (oi := { dst := some 135, op := Op.call { callee := Callee.builtin Builtin.min, args := #[Operand.tmp 134, Operand.const (Value.int IntKind.i64 50)], argTypes := #[3, 3] }, type := 3, pos := "law.go:142", after := #[{ on := 9, ground := Ground.data }], guard := none }) (v := .int .i64 (m : Int)) rfl (by kernel_rfl) (by kernel_rfl) (by kernel_rfl) (fun _ _ _ h => h) (Or.inl ⟨by rfl, fun wx hS => ?_⟩) hH ?_
            · go_simp; have e1 := HMIN.out; omega
            simp only [Act.put, List.setIfInBounds_toArray, List.set_cons_zero, List.set_cons_succ]
            refine wpAnyH_take (i := 11) (oi := { dst := some 136, op := Op.slice 22 (Operand.tmp 131) none (some (Operand.tmp 135)) none, type := 22, pos := "law.go:142", after := #[{ on := 6, ground := Ground.data }, { on := 10, ground := Ground.data }], guard := none }) (v := .slice sa BG.length sc) rfl (by kernel_rfl) (by kernel_rfl) (by kernel_rfl) (fun _ _ _ h => h) (Or.inl ⟨by rfl, fun wx hS => ?_⟩) hH ?_
            · have e1 := SL.out wx; go_simp
            simp only [Act.put, List.setIfInBounds_toArray, List.set_cons_zero, List.set_cons_succ]
            refine wpAnyH_take (i := 12) (oi := { dst := some 137, op := Op.convert 22 9 (Operand.tmp 136), type := 9, pos := "law.go:142", after := #[{ on := 11, ground := Ground.data }], guard := none }) (v := .string (str BG)) rfl (by kernel_rfl) (by kernel_rfl) (by kernel_rfl) (fun _ _ _ h => h) (Or.inl ⟨by rfl, fun wx hS => ?_⟩) hH ?_
            · have e1 := conv_string wx sa BG sc (OZ.out wx hS).1.2.2; go_simp
            simp only [Act.put, List.setIfInBounds_toArray, List.set_cons_zero, List.set_cons_succ]
            refine wpAnyH_ready (rs := [13]) (by kernel_rfl) (by simp) ?_
            refine AllReadyH.cons (o := { dst := some 138, op := Op.call { callee := Callee.value (Operand.func 21), args := #[Operand.tmp 126, Operand.tmp 128, Operand.const (Value.string { data := #[110] }), Operand.tmp 129, Operand.tmp 137], argTypes := #[36, 5, 9, 28, 9] }, type := 42, pos := "law.go:142", after := #[{ on := 1, ground := Ground.data }, { on := 3, ground := Ground.data }, { on := 4, ground := Ground.data }, { on := 12, ground := Ground.data }], guard := none }) rfl (fun KK hKK => ?_) AllReadyH.nil
            go_simp
            with_reducible refine (DS.out z3).mono ?_
            rintro e z4 ⟨rfl, kb⟩
            replace HUd := bytesIn.below HUd kb
            have hN := hH.trans (kb.mono hH.size)
            clear hH kb
            refine hKK.out _ _ hN (fun hH => ?_)
            clear hKK KK hN
            try simp only [Act.put, List.setIfInBounds_toArray, List.set_cons_zero, List.set_cons_succ]
            refine wpAnyH_take (i := 14) (oi := { dst := some 124, op := Op.move (Operand.tmp 138), type := 42, pos := "law.go:142", after := #[{ on := 13, ground := Ground.data }], guard := none }) (v := .tuple #[.string (str (sealR H M kd [110] Z BG).1), .int .i64 0]) rfl (by kernel_rfl) (by kernel_rfl) (by kernel_rfl) (fun _ _ _ h => h) (Or.inl ⟨by rfl, fun wx hS => ?_⟩) hH ?_
            · go_simp
            simp only [Act.put, List.setIfInBounds_toArray, List.set_cons_zero, List.set_cons_succ]
            refine wpAnyH_take (i := 15) (oi := { dst := some 139, op := Op.extract (Operand.tmp 124) 0, type := 9, pos := "law.go:142", after := #[{ on := 14, ground := Ground.data }], guard := none }) (v := .string (str (sealR H M kd [110] Z BG).1)) rfl (by kernel_rfl) (by kernel_rfl) (by kernel_rfl) (fun _ _ _ h => h) (Or.inl ⟨by rfl, fun wx hS => ?_⟩) hH ?_
            · go_simp
            simp only [Act.put, List.setIfInBounds_toArray, List.set_cons_zero, List.set_cons_succ]
            refine wpAnyH_take (i := 16) (oi := { dst := some 140, op := Op.extract (Operand.tmp 124) 1, type := 41, pos := "law.go:142", after := #[{ on := 14, ground := Ground.data }, { on := 17, ground := Ground.gcOnly Departure.lateStores }], guard := none }) (v := .int .i64 0) rfl (by kernel_rfl) (by kernel_rfl) (by kernel_rfl) (fun _ _ _ h => h) (Or.inl ⟨by rfl, fun wx hS => ?_⟩) hH ?_
            · go_simp
            simp only [Act.put, List.setIfInBounds_toArray, List.set_cons_zero, List.set_cons_succ]
            refine wpAnyH_ready (rs := [17]) (by kernel_rfl) (by simp) ?_
            refine AllReadyH.cons (o := { dst := some 18, op := Op.assign (Operand.tmp 139), type := 9, pos := "law.go:142", after := #[{ on := 15, ground := Ground.data }, { on := 13, ground := Ground.chain }, { on := 0, ground := Ground.phase }, { on := 1, ground := Ground.phase }, { on := 2, ground := Ground.phase }, { on := 3, ground := Ground.phase }, { on := 4, ground := Ground.phase }, { on := 5, ground := Ground.phase }, { on := 6, ground := Ground.phase }, { on := 7, ground := Ground.phase }, { on := 8, ground := Ground.phase }, { on := 9, ground := Ground.phase }, { on := 10, ground := Ground.phase }, { on := 11, ground := Ground.phase }, { on := 12, ground := Ground.phase }, { on := 13, ground := Ground.phase }, { on := 14, ground := Ground.phase }, { on := 15, ground := Ground.phase }, { on := 16, ground := Ground.textOnly Departure.lateStores }], guard := none }) rfl (fun KK hKK => ?_) AllReadyH.nil
            go_simp
            refine hKK.out _ _ hH (fun hH => ?_)
            clear hKK KK
            try simp only [Act.put, List.setIfInBounds_toArray, List.set_cons_zero, List.set_cons_succ]
            refine wpAnyH_ready (rs := [18]) (by kernel_rfl) (by simp) ?_
            refine AllReadyH.cons (o := { dst := some 19, op := Op.assign (Operand.tmp 140), type := 41, pos := "law.go:142", after := #[{ on := 16, ground := Ground.data }, { on := 17, ground := Ground.chain }, { on := 0, ground := Ground.phase }, { on := 1, ground := Ground.phase }, { on := 2, ground := Ground.phase }, { on := 3, ground := Ground.phase }, { on := 4, ground := Ground.phase }, { on := 5, ground := Ground.phase }, { on := 6, ground := Ground.phase }, { on := 7, ground := Ground.phase }, { on := 8, ground := Ground.phase }, { on := 9, ground := Ground.phase }, { on := 10, ground := Ground.phase }, { on := 11, ground := Ground.phase }, { on := 12, ground := Ground.phase }, { on := 13, ground := Ground.phase }, { on := 14, ground := Ground.phase }, { on := 15, ground := Ground.phase }, { on := 16, ground := Ground.phase }, { on := 17, ground := Ground.phase }], guard := none }) rfl (fun KK hKK => ?_) AllReadyH.nil
            go_simp
            refine hKK.out _ _ hH (fun hH => ?_)
            clear hKK KK
            try simp only [Act.put, List.setIfInBounds_toArray, List.set_cons_zero, List.set_cons_succ]
            refine wpAnyH_done (by kernel_rfl) ?_ _
            refine NoPanic.normal ?_
            have HBE := BX.out _ (HY.out.trans (But2.of_below (HZ.out.trans (hH.mono HZ.out.size))))
            generalize (sealR H M kd [110] Z BG).1 = s1 at *
            have cv1 := conv_string z4 (some ⟨ug, 0, none⟩) s1 uc HUd
            have sb : ((str s1).toList == (str s1).toList) = true := by simp
            clear hH
            go_wp2_with fail
            go_ret
            exact ⟨rfl, HBE⟩)
end Go.Proofs.YtjkhokholcchfaaDoor
