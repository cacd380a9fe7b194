/- The document's own Id. -/
import Derived.Test.YtfhlcondnaahiaaDoorTk
import Derived.Test.YtfhlcondnaahiaaDoorIdd
namespace Go.Proofs.YtfhlcondnaahiaaDoor
open Go.RowKit Sha

set_option maxRecDepth 100000 in
set_option maxHeartbeats 2000000 in
theorem docId_any (A N l : List UInt8) (k : UInt8) (w : World) (hA : A.length = 64) (hN : N.length = 32) (hl : l.length ≤ 80000) :
    Calls Tryd.prog 39 #[.agg (byteCells (A ++ N)).toArray, .int .u8 (V k), .string (str l)] w fun e w' => e = .returned (.agg (byteCells (hmac N (k :: l))).toArray) ∧ Below w.heap.size w w' := by
  have hz := zeroId
  have HN := Lib.hid hN
  have G0 := Lib.hid (blockIs.new w (byteCells (A ++ N)) 50)
  have A0 := Lib.hid (alloc_below w (.cells (byteCells (A ++ N)).toArray 50 (0, 0)))
  have S0 : Hid ((w.alloc (.cells (byteCells (A ++ N)).toArray 50 (0, 0))).heap.size = w.heap.size + 1) := Lib.hid (by simp)
  have R0 := Lib.hid (blockIs.new (w.alloc (.cells (byteCells (A ++ N)).toArray 50 (0, 0))) (zeros 32) 24)
  have B1 := Lib.hid (alloc_below (w.alloc (.cells (byteCells (A ++ N)).toArray 50 (0, 0))) (.cells (zeros 32).toArray 24 (0, 0)))
  rw [S0.out] at R0 B1
  have G1 := Lib.hid (G0.out.below B1.out (Nat.lt_succ_self _))
  have A1 := Lib.hid (A0.out.trans (B1.out.mono (Nat.le_succ _)))
  have B0 : Hid (bytesIn ((w.alloc (.cells (byteCells (A ++ N)).toArray 50 (0, 0))).alloc (.cells (zeros 32).toArray 24 (0, 0))) (some ⟨w.heap.size, 64, none⟩) N) := Lib.hid (Or.inr ⟨_, _, rfl, fun j hj => by
    rw [G1.out.cell, byteCells_get _ _ (by rw [List.length_append]; omega)]
    simp only [List.getD_eq_getElem?_getD]
    rw [List.getElem?_append_right (by omega), show 64 + j - A.length = j by omega]⟩)
  clear G0 A0 S0 G1 B1 hA hN
  go_enter Tryd.func39, Tryd.ntmps39
  go_wp2_with fail
  generalize (w.alloc (.cells (byteCells (A ++ N)).toArray 50 (0, 0))).alloc (.cells (zeros 32).toArray 24 (0, 0)) = w2 at *
  clear hz
  generalize byteCells (A ++ N) = LL at *
  refine wp_region_noPanic ?_
  refine wp_region_held_drew (S := fun w' => Below w.heap.size w w' ∧ bytesIn w' (some ⟨w.heap.size, 64, none⟩) N) (by kernel_rfl) ⟨below_drew' A1.out, B0.out⟩ (fun hH => ?_)
  have R0 : Hid (blockIs w2.drew (w.heap.size + 1) (zeros 32) 24) := R0
  clear A1 B0
  generalize w2.drew = x0 at *
  refine tk (i := 0) (oi := { dst := some 7, op := Op.fieldAddr 50 (Operand.tmp 3) 1, type := 0, pos := "ref.go:37", after := #[], guard := none }) (v := .pointer (some ⟨w.heap.size, 64, none⟩)) rfl (fun wx hS => ?_) hH ?_
  · go_simp
  refine tk (i := 1) (oi := { dst := some 8, op := Op.slice 23 (Operand.tmp 7) none none none, type := 30, pos := "ref.go:37", after := #[⟨0, .data⟩], guard := none }) (v := .slice (some ⟨w.heap.size, 64, none⟩) 32 32) rfl (fun wx hS => ?_) hH ?_
  · go_simp
  refine tk (i := 3) (oi := { dst := some 10, op := Op.move (Operand.tmp 1), type := 5, pos := "ref.go:37", after := #[], guard := none }) (v := .int .u8 (V k)) rfl (fun wx hS => ?_) hH ?_
  · go_simp
  refine tk (i := 6) (oi := { dst := some 13, op := Op.move (Operand.tmp 2), type := 9, pos := "ref.go:37", after := #[], guard := none }) (v := .string (str l)) rfl (fun wx hS => ?_) hH ?_
  · go_simp
  refine tk (i := 2) (oi := { dst := some 9, op := Op.convert 30 9 (Operand.tmp 8), type := 9, pos := "ref.go:37", after := #[⟨1, .data⟩], guard := none }) (v := .string (str N)) rfl (fun wx hS => ?_) hH ?_
  · have cv := conv_string wx (some ⟨w.heap.size, 64, none⟩) N 32 hS.2; rw [HN.out] at cv; go_simp
  have kb := Lib.hid (alloc_below x0 (.cells #[.int .u8 (V k)] 5 (0, 0)))
  have kn := Lib.hid (heap_alloc_new x0 (.cells #[.int .u8 (V k)] 5 (0, 0)))
  have hN := (⟨hH.1.trans (kb.out.mono hH.1.size), hH.2.below kb.out⟩ : Below w.heap.size w _ ∧ bytesIn _ (some ⟨w.heap.size, 64, none⟩) N)
  clear hH
  refine wpAnyH_ready (rs := [4]) (by kernel_rfl) (by simp) ?_
  refine AllReadyH.cons rfl (fun KK hKK => ?_) AllReadyH.nil
  go_simp
  refine hKK.out _ _ hN (fun hH => ?_)
  clear hKK KK hN
  try simp only [Act.put, List.setIfInBounds_toArray, List.set_cons_zero, List.set_cons_succ]
  generalize x0.alloc (.cells #[.int .u8 (V k)] 5 (0, 0)) = x1 at *
  have C1 : Hid (bytesIn x1 (some ⟨x0.heap.size, 0, none⟩) [k]) := Lib.hid (Or.inr ⟨_, _, rfl, fun j hj => by
    obtain rfl : j = 0 := by simpa using hj
    rw [cell_of_row _ _ _ _ _ _ kn.out]; rfl⟩)
  have cv := conv_string x1 (some ⟨x0.heap.size, 0, none⟩) [k] 1 C1.out
  change (convert 30 9 (.slice (some ⟨x0.heap.size, 0, none⟩) 1 1)).run Tryd.prog x1 = .ok (.string (str [k])) x1 at cv
  have R1 := Lib.hid (R0.out.below kb.out R0.out.lt)
  clear kb kn C1 R0
  refine wpAnyH_ready (rs := [5]) (by kernel_rfl) (by simp) ?_
  refine AllReadyH.cons rfl (fun KK hKK => ?_) AllReadyH.nil
  go_simp
  refine hKK.out _ _ hH (fun hH => ?_)
  clear hKK KK cv
  try simp only [Act.put, List.setIfInBounds_toArray, List.set_cons_zero, List.set_cons_succ]
  refine tk (i := 7) (oi := { dst := some 14, op := Op.binOp BinOp.add 9 (Operand.tmp 12) (Operand.tmp 13) 9, type := 9, pos := "ref.go:37", after := #[⟨5, .data⟩, ⟨6, .data⟩], guard := none }) (v := .string (str [k] ++ str l)) rfl (fun wx hS => ?_) hH ?_
  · have e1 := str_size [k]; have e2 := str_size l; have e3 : [k].length = 1 := rfl; have e4 : (str [k]).size + (str l).size ≤ 9223372036854775807 := (by omega); go_simp; omega
  rw [str_append [k] l, show [k] ++ l = k :: l from rfl]
  have HF := Lib.hid (rky_any N (k :: l) x1 (by rw [HN.out]; decide) (by simp only [List.length_cons]; omega))
  refine wpAnyH_ready (rs := [8]) (by kernel_rfl) (by simp) ?_
  refine AllReadyH.cons rfl (fun KK hKK => ?_) AllReadyH.nil
  go_simp
  refine HF.out.mono ?_
  rintro e x2 ⟨rfl, kk⟩
  have R2 := Lib.hid (R1.out.below kk R1.out.lt)
  have hN := (⟨hH.1.trans (kk.mono hH.1.size), hH.2.below kk⟩ : Below w.heap.size w _ ∧ bytesIn _ (some ⟨w.heap.size, 64, none⟩) N)
  clear hH kk HF R1
  have HL2 : Hid ((hmac N (k :: l)).length = 32) := Lib.hid (hmac_length _ _)
  generalize hM : hmac N (k :: l) = M at *
  have HM := Lib.hid hM
  clear hM
  refine hKK.out _ _ hN (fun hH => ?_)
  clear hKK KK hN
  try simp only [Act.put, List.setIfInBounds_toArray, List.set_cons_zero, List.set_cons_succ]
  have HF := Lib.hid (of32_any M x2 HL2.out)
  refine wpAnyH_ready (rs := [9]) (by kernel_rfl) (by simp) ?_
  refine AllReadyH.cons rfl (fun KK hKK => ?_) AllReadyH.nil
  go_simp
  refine HF.out.mono ?_
  rintro e x3 ⟨rfl, kk⟩
  have R3 := Lib.hid (R2.out.below kk R2.out.lt)
  have hN := (⟨hH.1.trans (kk.mono hH.1.size), hH.2.below kk⟩ : Below w.heap.size w _ ∧ bytesIn _ (some ⟨w.heap.size, 64, none⟩) N)
  clear hH kk HF R2
  refine hKK.out _ _ hN (fun hH => ?_)
  clear hKK KK hN
  try simp only [Act.put, List.setIfInBounds_toArray, List.set_cons_zero, List.set_cons_succ]
  refine wpAnyH_ready (rs := [10]) (by kernel_rfl) (by simp) ?_
  refine AllReadyH.cons rfl (fun KK hKK => ?_) AllReadyH.nil
  refine step_store_block rfl 24 _ _ rfl (w.heap.size + 1) 0 (byteCells M) rfl rfl (zeros 32) 24 R3.out (by rw [infoId, byteCells_length, HL2.out]) (by simp [zeros, byteCells_length, HL2.out]) (byteCells_one _) ?_
  intro x6 h1 h2 h3
  have h1 := h1.out
  rw [splice_all _ _ (by simp [zeros, byteCells_length, HL2.out])] at h1
  have E6 := Lib.hid h1
  have hN := (⟨hH.1.trans (h2.out.below (Nat.le_succ _) hH.1.size), hH.2.but h2.out (Nat.ne_of_lt (Nat.lt_succ_self _))⟩ : Below w.heap.size w _ ∧ bytesIn _ (some ⟨w.heap.size, 64, none⟩) N)
  clear h1 h2 h3 hH R3
  refine hKK.out _ _ hN (fun hH => ?_)
  clear hKK KK hN
  try simp only [Act.put, List.setIfInBounds_toArray, List.set_cons_zero, List.set_cons_succ]
  refine wpAnyH_done (by kernel_rfl) ?_ _
  refine NoPanic.normal ?_
  go_wp2_with fail
  refine bodyPost_ret (v := .agg (byteCells M).toArray) (results_cell_row rfl _ _ (w.heap.size + 1) 24 _ (0, 0) _ rfl E6.out Tryd.underlying24 rfl (by rw [infoId]; simp [byteCells_length, HL2.out])) rfl ?_
  exact ⟨by rw [HM.out], hH.1⟩
end Go.Proofs.YtfhlcondnaahiaaDoor
