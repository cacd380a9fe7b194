/- (key.Pen).Write. -/
import Derived.Test.YtfhlcondnaahiaaDoorTk
import Derived.Test.YtfhlcondnaahiaaDoorHc
import Derived.Test.YtfhlcondnaahiaaDoorHa
namespace Go.Proofs.YtfhlcondnaahiaaDoor
open Go.RowKit Sha

/-- What holds while a pen writes. -/
structure WrS (w : World) (tb : Nat) (CP : List Value) (X : World) : Prop where
  b : But tb w X
  l : blockIs X w.heap.size CP 77
theorem WrS.size {w X : World} {tb : Nat} {CP : List Value} (_h : WrS w tb CP X) : X.heap.size ≤ X.heap.size := Nat.le_refl _
theorem WrS.trans {w X Y : World} {tb : Nat} {CP : List Value} (h : WrS w tb CP X) (k : Below X.heap.size X Y) : WrS w tb CP Y := ⟨h.b.trans (But.of_below k), h.l.below k h.l.lt⟩
theorem WrS.drew {w X : World} {tb : Nat} {CP : List Value} (h : WrS w tb CP X) : WrS w tb CP X.drew := ⟨h.b.drewN 1, h.l.drewN 1⟩
theorem WrS.but {w X Y : World} {tb : Nat} {CP : List Value} (h : WrS w tb CP X) (k : But tb X Y) (h1 : tb ≠ w.heap.size) : WrS w tb CP Y := ⟨h.b.trans k, k.is h.l (Ne.symm h1)⟩
theorem WrS.keys {w X : World} {tb : Nat} {CP K R : List Value} (h : WrS w tb CP X) (e : CP = K ++ R) : X.rangeAt w.heap.size 0 K := by
  have h := h.l
  rw [e] at h
  exact Ci.rangeAt_block (p := []) h
theorem WrS.tape {w X : World} {tb : Nat} {CP : List Value} {v : Value} (h : WrS w tb CP X) (hc : CP[96]? = some v) : X.cell? ⟨w.heap.size, 96, none⟩ = some v := by rw [h.l.cell]; exact hc

set_option maxRecDepth 100000 in
set_option maxHeartbeats 8000000 in
theorem write_any (H M C : List UInt8) (tp : Value) (tb : Nat) (kd : UInt8) (nm : List UInt8) (pa : Option Addr) (pc : Nat) (ls : List (List UInt8)) (N : List UInt8) (G : World → Prop) (w : World)
    (hH : H.length = 32) (hM : M.length = 32) (hC : C.length = 32) (hN : N.length = 16) (hl : ls.length ≤ 100000) (hm : ls.flatten.length ≤ 800000) (hP : ∀ X, But tb w X → partsW X pa ls) (hT : ∀ X, But tb w X → tables X) (htb : tb ≠ w.heap.size)
    (hG : ∀ X Y, G X → Below X.heap.size X Y → G Y) (hNN : ∀ X, Below w.heap.size w X → Calls Tryd.prog 48 #[tp] X fun e w' => e = .returned (.agg (byteCells N).toArray) ∧ G w' ∧ But tb X w') :
    Calls Tryd.prog 26 #[.agg (keyCells H M ++ (byteCells C ++ [tp])).toArray, .int .u8 (V kd), .string (str nm), .slice pa ls.length pc] w fun e w' => ∃ v, e = .returned (.tuple #[v, .int .i64 (sealR H M kd nm N ls.flatten).2]) ∧ Ci.ownB w' w.heap.size v (sealR H M kd nm N ls.flatten).1 ∧ G w' ∧ But tb w w' := by
  have KL : Hid ((keyCells H M).length = 64) := Lib.hid (keyCells_length hH hM)
  have NN := Lib.hid hNN
  have HTB := Lib.hid htb
  have HP := Lib.hid (fun X (hX : But tb w X) => sealR_any H M N kd nm pa pc ls X hH hM hN hl hm (hP X hX) (hT X hX))
  obtain ⟨CP, hcp⟩ : ∃ CP, CP = keyCells H M ++ (byteCells C ++ [tp]) := ⟨_, rfl⟩
  have C96 : Hid (CP[96]? = some tp) := Lib.hid (by
    rw [hcp, List.getElem?_append_right (by rw [KL.out]; omega), KL.out, List.getElem?_append_right (by rw [byteCells_length, hC]; omega), byteCells_length, hC]
    rfl)
  rw [← hcp]
  have hCP := Lib.hid hcp
  obtain ⟨n, hn⟩ : ∃ n, n = ls.length := ⟨_, rfl⟩
  rw [← hn] at HP ⊢
  generalize sealR H M kd nm N ls.flatten = RR at *
  obtain ⟨r1, r2⟩ := RR
  dsimp only at HP ⊢
  have A1 := Lib.hid (alloc_below w (.cells CP.toArray 77 (0, 0)))
  have PS0 : WrS w tb CP (w.alloc (.cells CP.toArray 77 (0, 0))) := ⟨But.of_below A1.out, blockIs.new w CP 77⟩
  clear hNN htb hcp hn hP hT hl hm hH hM hC hN
  go_enter Tryd.func26, Tryd.ntmps26
  go_upto_region 1 with fail
  generalize w.alloc (.cells CP.toArray 77 (0, 0)) = w1 at *
  refine wp_region_noPanic ?_
  refine wp_region_held_drew (S := fun w' => WrS w tb CP w') (by kernel_rfl) (PS0.drew) (fun hH => ?_)
  clear PS0
  have NN2 := Lib.hid (NN.out w1.drew (below_drew' A1.out))
  clear NN A1
  generalize w1.drew = y0 at *
  refine tk (i := 0) (oi := { dst := some 10, op := Op.fieldAddr 77 (Operand.tmp 4) 0, type := 0, pos := "pen.go:17", after := #[], guard := none }) (v := .pointer (some ⟨w.heap.size, 0, none⟩)) rfl (fun wx hS => ?_) hH ?_
  · go_simp
  refine tk (i := 1) (oi := { dst := some 11, op := Op.fieldAddr 58 (Operand.tmp 10) 0, type := 0, pos := "pen.go:17", after := #[⟨0, .data⟩], guard := none }) (v := .pointer (some ⟨w.heap.size, 0, none⟩)) rfl (fun wx hS => ?_) hH ?_
  · go_simp
  refine tky (i := 2) (oi := { dst := some 12, op := Op.load 56 (Operand.tmp 11), type := 56, pos := "pen.go:17", after := #[⟨1, .data⟩], guard := none }) (v := .agg (keyCells H M).toArray) rfl (yieldsIf_load_mid (by rfl) 56 _ rfl (w.heap.size) 0 rfl (keyCells H M) _ (fun wx hS => hS.keys hCP.out) Tryd.underlying56 rfl (by rw [infoKeys, KL.out])) hH ?_
  refine tk (i := 3) (oi := { dst := some 13, op := Op.move (Operand.tmp 1), type := 5, pos := "pen.go:17", after := #[], guard := none }) (v := .int .u8 (V kd)) rfl (fun wx hS => ?_) hH ?_
  · go_simp
  refine tk (i := 4) (oi := { dst := some 14, op := Op.move (Operand.tmp 2), type := 9, pos := "pen.go:17", after := #[], guard := none }) (v := .string (str nm)) rfl (fun wx hS => ?_) hH ?_
  · go_simp
  refine tk (i := 5) (oi := { dst := some 15, op := Op.fieldAddr 77 (Operand.tmp 4) 1, type := 0, pos := "pen.go:17", after := #[], guard := none }) (v := .pointer (some ⟨w.heap.size, 96, none⟩)) rfl (fun wx hS => ?_) hH ?_
  · go_simp
  refine tk (i := 6) (oi := { dst := some 16, op := Op.load 75 (Operand.tmp 15), type := 75, pos := "pen.go:17", after := #[⟨5, .data⟩], guard := none }) (v := tp) rfl (fun wx hS => ?_) hH ?_
  · have e1 := hS.tape C96.out; go_simp
  refine tk (i := 8) (oi := { dst := some 18, op := Op.move (Operand.tmp 3), type := 71, pos := "pen.go:17", after := #[], guard := none }) (v := .slice pa n pc) rfl (fun wx hS => ?_) hH ?_
  · go_simp
  refine wpAnyH_ready (rs := [7]) (by kernel_rfl) (by simp) ?_
  refine AllReadyH.cons (o := { dst := some 17, op := Op.call { callee := Callee.value (Operand.func 48), args := #[Operand.tmp 16], argTypes := #[75] }, type := 106, pos := "pen.go:17", after := #[⟨6, .data⟩], guard := none }) rfl (fun KK hKK => ?_) AllReadyH.nil
  go_simp
  with_reducible refine NN2.out.mono ?_
  rintro e y1 ⟨rfl, hg, kb⟩
  have hN := hH.but kb HTB.out
  clear hH kb NN2
  refine hKK.out _ _ hN (fun hH => ?_)
  clear hKK KK hN
  try simp only [Act.put, List.setIfInBounds_toArray, List.set_cons_zero, List.set_cons_succ]
  have hlo := hH.b.size
  have SE := Lib.hid (HP.out y1 hH.b)
  refine wpAnyH_ready (rs := [9]) (by kernel_rfl) (by simp) ?_
  refine AllReadyH.cons (o := { dst := some 19, op := Op.call { callee := Callee.value (Operand.func 47), args := #[Operand.tmp 12, Operand.tmp 13, Operand.tmp 14, Operand.tmp 17, Operand.tmp 18], argTypes := #[56, 5, 9, 106, 71] }, type := 63, pos := "pen.go:17", after := #[⟨2, .data⟩, ⟨3, .data⟩, ⟨4, .data⟩, ⟨7, .data⟩, ⟨8, .data⟩, ⟨7, .chain⟩], guard := none }) rfl (fun KK hKK => ?_) AllReadyH.nil
  go_simp
  with_reducible refine (SE.out).mono ?_
  rintro e y2 ⟨v, rfl, hv, kb⟩
  have hg2 := hG _ _ hg kb
  replace hv := ownB_mono hv hlo
  clear hg
  have hN := hH.trans (kb.mono hH.size)
  clear hH kb
  refine hKK.out _ _ hN (fun hH => ?_)
  clear hKK KK hN
  try simp only [Act.put, List.setIfInBounds_toArray, List.set_cons_zero, List.set_cons_succ]
  clear SE hlo
  refine tk (i := 10) (oi := { dst := some 20, op := Op.extract (Operand.tmp 19) 0, type := 30, pos := "pen.go:17", after := #[⟨9, .data⟩], guard := none }) (v := v) rfl (fun wx hS => ?_) hH ?_
  · go_simp
  refine tk (i := 11) (oi := { dst := some 21, op := Op.extract (Operand.tmp 19) 1, type := 25, pos := "pen.go:17", after := #[⟨9, .data⟩], guard := none }) (v := .int .i64 r2) rfl (fun wx hS => ?_) hH ?_
  · go_simp
  refine wpAnyH_ready (rs := [12]) (by kernel_rfl) (by simp) ?_
  refine AllReadyH.cons (o := { dst := some 8, op := Op.assign (Operand.tmp 20), type := 30, pos := "pen.go:17", after := #[⟨10, .data⟩, ⟨9, .chain⟩, ⟨0, .phase⟩, ⟨1, .phase⟩, ⟨2, .phase⟩, ⟨3, .phase⟩, ⟨4, .phase⟩, ⟨5, .phase⟩, ⟨6, .phase⟩, ⟨7, .phase⟩, ⟨8, .phase⟩, ⟨9, .phase⟩, ⟨10, .phase⟩, ⟨11, .phase⟩], guard := none }) rfl (fun KK hKK => ?_) AllReadyH.nil
  go_simp
  refine hKK.out _ _ hH (fun hH => ?_)
  clear hKK KK
  try simp only [Act.put, List.setIfInBounds_toArray, List.set_cons_zero, List.set_cons_succ]
  refine wpAnyH_ready (rs := [13]) (by kernel_rfl) (by simp) ?_
  refine AllReadyH.cons (o := { dst := some 9, op := Op.assign (Operand.tmp 21), type := 25, pos := "pen.go:17", after := #[⟨11, .data⟩, ⟨12, .chain⟩, ⟨0, .phase⟩, ⟨1, .phase⟩, ⟨2, .phase⟩, ⟨3, .phase⟩, ⟨4, .phase⟩, ⟨5, .phase⟩, ⟨6, .phase⟩, ⟨7, .phase⟩, ⟨8, .phase⟩, ⟨9, .phase⟩, ⟨10, .phase⟩, ⟨11, .phase⟩, ⟨12, .phase⟩], guard := none }) rfl (fun KK hKK => ?_) AllReadyH.nil
  go_simp
  refine hKK.out _ _ hH (fun hH => ?_)
  clear hKK KK
  try simp only [Act.put, List.setIfInBounds_toArray, List.set_cons_zero, List.set_cons_succ]
  refine wpAnyH_done (by kernel_rfl) ?_ _
  refine NoPanic.normal ?_
  have HB := hH.b
  clear hH
  go_wp2_with fail
  refine bodyPost_ret (v := .tuple #[v, .int .i64 r2]) (results_tmp2 (t := 8) (u := 9) rfl _ _ _) rfl ?_
  exact ⟨v, rfl, hv, hg2, HB⟩

end Go.Proofs.YtfhlcondnaahiaaDoor
