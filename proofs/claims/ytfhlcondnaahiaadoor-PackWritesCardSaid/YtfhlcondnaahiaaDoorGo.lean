/- The document's own mark. -/
import Derived.Test.YtfhlcondnaahiaaDoorTk
import Derived.Test.YtfhlcondnaahiaaDoorGn
import Derived.Test.YtfhlcondnaahiaaDoorHa
section
namespace Go.Proofs.YtfhlcondnaahiaaDoor
open Go.RowKit Sha

set_option maxRecDepth 100000 in
set_option maxHeartbeats 4000000 in
theorem docMark_any (H M N : List UInt8) (kd : UInt8) (nm X : List UInt8) (w : World) (hH : H.length = 32) (hM : M.length = 32) (hN : N.length = 16) (hnm : nm.length ≤ 1000) (hX : X.length ≤ 80000) :
    Calls Tryd.prog 79 #[.agg (keyCells H M).toArray, .int .u8 (V kd), .string (str nm), .string (str N), .string (str X)] w fun e w' => e = .returned (.string (str (wmark M kd nm N X))) ∧ Below w.heap.size w w' := by
  obtain ⟨z, hz⟩ : ∃ z, z = UInt8.ofNat nm.length := ⟨_, rfl⟩
  have q5 : IntKind.u8.wrap (nm.length : Int) = V z := by rw [hz, V_ofNat, IntKind.wrap_u8']; omega
  have HZ := Lib.hid hz
  clear hz
  have G0 := blockIs.new w (keyCells H M) 48
  have B1 := Lib.hid (alloc_below w (.cells (keyCells H M).toArray 48 (0, 0)))
  have I0 := Lib.hid (keys_in2 hH G0)
  have HXL := Lib.hid hX
  have HNL := Lib.hid hN
  have HML := Lib.hid hM
  have HNM := Lib.hid hnm
  have hsz := str_size nm
  clear G0 hX hN hM hH hnm
  generalize keyCells H M = C at *
  go_enter Tryd.func79, Tryd.ntmps79
  go_upto_region 1 with fail
  generalize w.alloc (.cells C.toArray 48 (0, 0)) = w1 at *
  refine wp_region_noPanic ?_
  refine wp_region_held_drew (S := fun w' => Below w1.heap.size w1 w') (by kernel_rfl) (below_drew' (Below.refl _ _)) (fun hH => ?_)
  generalize w1.drew = x0 at *
  refine tk (i := 0) (oi := { dst := some 11, op := Op.fieldAddr 48 (Operand.tmp 5) 1, type := 0, pos := "ref.go:26", after := #[], guard := none }) (v := .pointer (some ⟨w.heap.size, 32, none⟩)) rfl (fun wx hS => ?_) hH ?_
  · go_simp
  refine tk (i := 1) (oi := { dst := some 12, op := Op.slice 23 (Operand.tmp 11) none none none, type := 30, pos := "ref.go:26", after := #[⟨0, .data⟩], guard := none }) (v := .slice (some ⟨w.heap.size, 32, none⟩) 32 32) rfl (fun wx hS => ?_) hH ?_
  · go_simp
  refine tk (i := 2) (oi := { dst := some 13, op := Op.convert 30 9 (Operand.tmp 12), type := 9, pos := "ref.go:26", after := #[⟨1, .data⟩], guard := none }) (v := .string (str M)) rfl (fun wx hS => ?_) hH ?_
  · have cv := conv_string wx (some ⟨w.heap.size, 32, none⟩) M 32 (I0.out.below hS); rw [HML.out] at cv; go_simp
  refine tk (i := 3) (oi := { dst := some 14, op := Op.move (Operand.tmp 1), type := 5, pos := "ref.go:26", after := #[], guard := none }) (v := .int .u8 (V kd)) rfl (fun wx hS => ?_) hH ?_
  · go_simp
  refine tk (i := 4) (oi := { dst := some 15, op := Op.move (Operand.tmp 2), type := 9, pos := "ref.go:26", after := #[], guard := none }) (v := .string (str nm)) rfl (fun wx hS => ?_) hH ?_
  · go_simp
  refine tk (i := 5) (oi := { dst := some 16, op := Op.call { callee := Callee.builtin Builtin.len, args := #[Operand.tmp 15], argTypes := #[9] }, type := 3, pos := "ref.go:26", after := #[⟨4, .data⟩], guard := none }) (v := .int .i64 (nm.length : Int)) rfl (fun wx hS => ?_) hH ?_
  · go_simp
  refine tk (i := 6) (oi := { dst := some 17, op := Op.convert 3 5 (Operand.tmp 16), type := 5, pos := "ref.go:26", after := #[⟨5, .data⟩], guard := none }) (v := .int .u8 (V z)) rfl (fun wx hS => ?_) hH ?_
  · have e1 := q5; go_simp
  clear q5
  refine tk (i := 9) (oi := { dst := some 20, op := Op.move (Operand.tmp 2), type := 9, pos := "ref.go:26", after := #[], guard := none }) (v := .string (str nm)) rfl (fun wx hS => ?_) hH ?_
  · go_simp
  refine tk (i := 11) (oi := { dst := some 22, op := Op.move (Operand.tmp 3), type := 9, pos := "ref.go:26", after := #[], guard := none }) (v := .string (str N)) rfl (fun wx hS => ?_) hH ?_
  · go_simp
  refine tk (i := 13) (oi := { dst := some 24, op := Op.move (Operand.tmp 4), type := 9, pos := "ref.go:26", after := #[], guard := none }) (v := .string (str X)) rfl (fun wx hS => ?_) hH ?_
  · go_simp
  refine wpAnyH_ready (rs := [7]) (by kernel_rfl) (by simp) ?_
  refine AllReadyH.cons rfl (fun KK hKK => ?_) AllReadyH.nil
  have kb := alloc_below x0 (.cells #[.int .u8 (V kd), .int .u8 (V z)] 5 (0, 0))
  have q_ga := cellsAt.new x0 #[.int .u8 (V kd), .int .u8 (V z)] x0.heap.size 5 [.int .u8 (V kd), .int .u8 (V z)] rfl rfl
  have hN := hH.trans (kb.mono hH.size)
  clear hH kb
  go_simp
  refine hKK.out _ _ hN (fun hH => ?_)
  clear hKK KK hN
  try simp only [Act.put, List.setIfInBounds_toArray, List.set_cons_zero, List.set_cons_succ]
  generalize x0.alloc (.cells #[.int .u8 (V kd), .int .u8 (V z)] 5 (0, 0)) = x2 at *
  generalize x0.heap.size = ga at *
  have Q2 := Lib.hid (bytes2_in q_ga)
  have k2 := Below.refl x2.heap.size x2
  have cv := conv_string x2 (some ⟨ga, 0, none⟩) [kd, z] 2 Q2.out
  change (convert 30 9 (.slice (some ⟨ga, 0, none⟩) 2 2)).run Tryd.prog x2 = .ok (.string (str [kd, z])) x2 at cv
  refine wpAnyH_ready (rs := [8]) (by kernel_rfl) (by simp) ?_
  refine AllReadyH.cons rfl (fun KK hKK => ?_) AllReadyH.nil
  go_simp
  refine hKK.out _ _ hH (fun hH => ?_)
  clear hKK KK cv q_ga
  try simp only [Act.put, List.setIfInBounds_toArray, List.set_cons_zero, List.set_cons_succ]
  obtain ⟨s0, h_s0⟩ : ∃ s, s = [kd, z] := ⟨_, rfl⟩
  rw [← h_s0]
  have E_s0 := Lib.hid h_s0
  have LALL : Hid (s0.length = 2 ∧ nm.length ≤ 1000 ∧ N.length = 16 ∧ X.length ≤ 80000) := Lib.hid ⟨by rw [h_s0]; rfl, HNM.out, HNL.out, HXL.out⟩
  clear h_s0
  obtain ⟨s1, h_s1⟩ : ∃ s, s = s0 ++ nm := ⟨_, rfl⟩
  have E_s1 := Lib.hid h_s1
  have L_s1 : Hid (s1.length = s0.length + nm.length) := Lib.hid (by rw [h_s1, List.length_append])
  clear h_s1
  refine tk (i := 10) (oi := { dst := some 21, op := Op.binOp BinOp.add 9 (Operand.tmp 19) (Operand.tmp 20) 9, type := 9, pos := "ref.go:26", after := #[⟨8, .data⟩, ⟨9, .data⟩], guard := none }) (v := .string (str s1)) rfl (fun wx hS => ?_) hH ?_
  · rw [E_s1.out, ← str_append]; have e1 := str_size (s0); have e2 := str_size (nm); have e4 : (str (s0)).size + (str (nm)).size ≤ 9223372036854775807 := (by rw [e1, e2]; have := LALL.out; omega); go_simp; first | done | omega
  replace LALL : Hid (s1.length ≤ 1002 ∧ N.length = 16 ∧ X.length ≤ 80000) := Lib.hid (by have := LALL.out; have := L_s1.out; omega)
  obtain ⟨s2, h_s2⟩ : ∃ s, s = s1 ++ N := ⟨_, rfl⟩
  have E_s2 := Lib.hid h_s2
  have L_s2 : Hid (s2.length = s1.length + N.length) := Lib.hid (by rw [h_s2, List.length_append])
  clear h_s2
  refine tk (i := 12) (oi := { dst := some 23, op := Op.binOp BinOp.add 9 (Operand.tmp 21) (Operand.tmp 22) 9, type := 9, pos := "ref.go:26", after := #[⟨10, .data⟩, ⟨11, .data⟩], guard := none }) (v := .string (str s2)) rfl (fun wx hS => ?_) hH ?_
  · rw [E_s2.out, ← str_append]; have e1 := str_size (s1); have e2 := str_size (N); have e4 : (str (s1)).size + (str (N)).size ≤ 9223372036854775807 := (by rw [e1, e2]; have := LALL.out; omega); go_simp; first | done | omega
  replace LALL : Hid (s2.length ≤ 1018 ∧ X.length ≤ 80000) := Lib.hid (by have := LALL.out; have := L_s2.out; omega)
  obtain ⟨s3, h_s3⟩ : ∃ s, s = s2 ++ X := ⟨_, rfl⟩
  have E_s3 := Lib.hid h_s3
  have L_s3 : Hid (s3.length = s2.length + X.length) := Lib.hid (by rw [h_s3, List.length_append])
  clear h_s3
  refine tk (i := 14) (oi := { dst := some 25, op := Op.binOp BinOp.add 9 (Operand.tmp 23) (Operand.tmp 24) 9, type := 9, pos := "ref.go:26", after := #[⟨12, .data⟩, ⟨13, .data⟩], guard := none }) (v := .string (str s3)) rfl (fun wx hS => ?_) hH ?_
  · rw [E_s3.out, ← str_append]; have e1 := str_size (s2); have e2 := str_size (X); have e4 : (str (s2)).size + (str (X)).size ≤ 9223372036854775807 := (by rw [e1, e2]; have := LALL.out; omega); go_simp; first | done | omega
  have HF := Lib.hid (rky_any M s3 x2 (by rw [HML.out]; decide) (by have := LALL.out; have := L_s3.out; omega))
  refine wpAnyH_ready (rs := [15]) (by kernel_rfl) (by simp) ?_
  refine AllReadyH.cons rfl (fun KK hKK => ?_) AllReadyH.nil
  go_simp
  with_reducible refine (HF.out).mono ?_
  rintro e x3 ⟨rfl, kb⟩
  have hN := hH.trans (kb.mono hH.size)
  clear hH kb
  refine hKK.out _ _ hN (fun hH => ?_)
  clear hKK KK hN
  try simp only [Act.put, List.setIfInBounds_toArray, List.set_cons_zero, List.set_cons_succ]
  have HD : Hid (hmac M s3 = wmark M kd nm N X) := Lib.hid (by unfold wmark; rw [E_s3.out, E_s2.out, E_s1.out, E_s0.out, HZ.out]; simp only [List.append_assoc])
  rw [HD.out]
  generalize hDD : wmark M kd nm N X = D at *
  have HDD := Lib.hid hDD
  clear hDD
  refine wpAnyH_ready (rs := [16]) (by kernel_rfl) (by simp) ?_
  refine AllReadyH.cons rfl (fun KK hKK => ?_) AllReadyH.nil
  go_simp
  refine hKK.out _ _ hH (fun hH => ?_)
  clear hKK KK
  try simp only [Act.put, List.setIfInBounds_toArray, List.set_cons_zero, List.set_cons_succ]
  refine wpAnyH_done (by kernel_rfl) ?_ _
  refine NoPanic.normal ?_
  go_wp2_with fail
  go_ret
  exact ⟨congrArg (fun b => Ending.returned (.string (str b))) HDD.out.symm, B1.out.trans (hH.mono B1.out.size)⟩
end Go.Proofs.YtfhlcondnaahiaaDoor
end
section
/- The document's own Seal. -/
namespace Go.Proofs.YtfhlcondnaahiaaDoor
open Go.RowKit Sha

theorem infoRK : (Tryd.prog.info? 48).map (·.size) = some 64 := by kernel_rfl
set_option maxRecDepth 100000 in
set_option maxHeartbeats 2000000 in
theorem docSeal_ok (H M N : List UInt8) (kd : UInt8) (nm B : List UInt8) (w : World) (hH : H.length = 32) (hM : M.length = 32) (hN : N.length = 16) (hnm : nm.length ≤ 255) (hB : B.length ≤ 1000) :
    Calls Tryd.prog 56 #[.agg (keyCells H M).toArray, .int .u8 (V kd), .string (str nm), .agg (byteCells N).toArray, .string (str B)] w fun e w' => e = .returned (.tuple #[.string (str (wseal H M kd nm N B)), .int .i64 0]) ∧ Below w.heap.size w w' := by
  have KL : Hid ((keyCells H M).length = 64) := Lib.hid (keyCells_length hH hM)
  have G0 := blockIs.new w (keyCells H M) 48
  have A0 := alloc_below w (.cells (keyCells H M).toArray 48 (0, 0))
  have N0 := blockIs.last (w.alloc (.cells (keyCells H M).toArray 48 (0, 0))) (byteCells N) 106 (w.heap.size + 1) (by simp)
  have B1 : Hid (Below w.heap.size w ((w.alloc (.cells (keyCells H M).toArray 48 (0, 0))).alloc (.cells (byteCells N).toArray 106 (0, 0)))) := Lib.hid (A0.alloc A0.size _)
  have G1 := Lib.hid (G0.alloc (.cells (byteCells N).toArray 106 (0, 0)))
  have IN : Hid (bytesIn _ (some ⟨w.heap.size + 1, 0, none⟩) N) := Lib.hid (Or.inr ⟨_, _, rfl, fun j hj => by
    rw [Nat.zero_add, N0.cell]
    exact byteCells_get N j hj⟩)
  have IH := Lib.hid (keys_in G1.out)
  have hsz := str_size nm
  have hsb := str_size B
  have g0 : ¬ (255 : Int) < (nm.length : Int) := by omega
  have g1 : ¬ (1048576 : Int) < (B.length : Int) := by omega
  have HMD := Lib.hid (fun X => Ci.docMake_any H X hH)
  have HHD := Lib.hid (fun kb g X (hk : Ci.keyIs X kb g H) => Ci.docHide_any kb g H N B 0 X hN (by omega) hB hk)
  rw [show Ci.hideL (Ci.Aes.words H 60) N 0 B = whide H N B from rfl] at HHD
  have HWL : Hid ((whide H N B).length ≤ 1000) := Lib.hid (by rw [whide_length]; exact hB)
  have HMK := Lib.hid (fun X h (hx : h.length ≤ 1000) => docMark_any H M N kd nm h X hH hM hN (by omega) (by omega))
  have HNL := Lib.hid hN
  have HHL := Lib.hid hH
  have HW : Hid (wseal H M kd nm N B = N ++ whide H N B ++ wmark M kd nm N (whide H N B)) := Lib.hid (by unfold wseal; rw [List.append_assoc])
  clear G0 A0 N0 hH hM hN hnm hB
  generalize wseal H M kd nm N B = OUT at *
  generalize whide H N B = h at *
  generalize keyCells H M = C at *
  generalize hNB : byteCells N = NB at *
  clear hNB
  go_enter Tryd.func56, Tryd.ntmps56
  have cvn := fun (X : World) (hx : bytesIn X (some ⟨w.heap.size + 1, 0, none⟩) N) => conv_string X (some ⟨w.heap.size + 1, 0, none⟩) N 16 hx
  have cvh := fun (X : World) (hx : bytesIn X (some ⟨w.heap.size, 0, none⟩) H) => conv_string X (some ⟨w.heap.size, 0, none⟩) H 32 hx
  rw [HNL.out] at cvn
  rw [HHL.out] at cvh
  have cv1 := cvn _ IN.out
  have cv2 := cvh _ IH.out
  go_upto_region 6 with fail
  go_wp2_with fail
  generalize (w.alloc (.cells C.toArray 48 (0, 0))).alloc (.cells NB.toArray 106 (0, 0)) = w1 at *
  with_reducible refine (HMD.out _).mono ?_
  rintro e w2 ⟨kb, g, rfl, hk1, hk2, hk3, hk4, hk5, kk⟩
  have HK2 := Lib.hid (HHD.out kb g w2 ⟨hk4, hk5⟩)
  rw [show ((0 : Nat) : Int) = 0 from rfl] at HK2
  have B2 := Lib.hid (B1.out.trans (kk.mono B1.out.size))
  have G2 := Lib.hid (G1.out.below kk G1.out.lt)
  clear hk1 hk2 hk3 hk4 hk5 kk HMD HHD cv1 cv2 cvn cvh IN IH B1 G1
  go_wp2_with fail
  with_reducible refine HK2.out.mono ?_
  rintro e w3 ⟨rfl, kk⟩
  have B3 := Lib.hid (B2.out.trans (kk.mono B2.out.size))
  have G3 := Lib.hid (Ci.range_of (G2.out.below kk G2.out.lt))
  have HM3 := Lib.hid (HMK.out w3 h HWL.out)
  have e1 := str_size N
  have e2 := str_size h
  have e4 : (str N).size + (str h).size ≤ 9223372036854775807 := by have := HNL.out; have := HWL.out; omega
  clear kk HK2 B2 G2 HMK
  go_wp2_with (refine Ci.wpList_load_mid_if (by rfl) 48 _ rfl w.heap.size 0 rfl C _ G3.out Tryd.underlying48 rfl (by rw [infoRK, KL.out]) ?_)
  with_reducible refine HM3.out.mono ?_
  rintro e w4 ⟨rfl, kk⟩
  have B4 := Lib.hid (B3.out.trans (kk.mono B3.out.size))
  have HDL : Hid ((wmark M kd nm N h).length = 32) := Lib.hid (wmark_length _ _ _ _ _)
  clear kk HM3 B3 G3
  generalize wmark M kd nm N h = D at *
  rw [str_append]
  have HNH : Hid ((N ++ h).length ≤ 1016) := Lib.hid (by rw [List.length_append]; have := HNL.out; have := HWL.out; omega)
  generalize N ++ h = Z at *
  have e5 := str_size Z
  have e6 := str_size D
  have e7 : (str Z).size + (str D).size ≤ 9223372036854775807 := by have := HNH.out; have := HDL.out; omega
  go_wp2_with fail
  refine bodyPost_ret (v := .tuple #[.string (str Z ++ str D), .int .i64 0]) (results_tmp2 (t := 10) (u := 11) rfl _ _ _) rfl ?_
  exact ⟨by rw [HW.out, str_append], B4.out⟩
end Go.Proofs.YtfhlcondnaahiaaDoor
end
section
/- The document's own Open. -/
namespace Go.Proofs.YtfhlcondnaahiaaDoor
open Go.RowKit Sha

end Go.Proofs.YtfhlcondnaahiaaDoor
end
