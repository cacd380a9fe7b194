/- The document's own mark. -/
import Derived.Test.YtjkhokholcchfaaDoorGn
import Derived.Test.YtjkhokholcchfaaDoorRky
import Derived.Test.YtjkhokholcchfaaDoorGm
section
namespace Go.Proofs.YtjkhokholcchfaaDoor
open Go.RowKit Sha

set_option maxRecDepth 100000 in
set_option maxHeartbeats 4000000 in
theorem docMark_any (H M N : List UInt8) (kd : UInt8) (nm X : List UInt8) (w : World) (hH : H.length = 32) (hM : M.length = 32) (hN : N.length = 16) (hnm : nm.length ≤ 1000) (hX : X.length ≤ 80000) :
    Calls Tryd.prog 42 #[.agg (keyCells H M).toArray, .int .u8 (V kd), .string (str nm), .string (str N), .string (str X)] w fun e w' => e = .returned (.string (str (wmark M kd nm N X))) ∧ Below w.heap.size w w' := by
  obtain ⟨z, hz⟩ : ∃ z, z = UInt8.ofNat nm.length := ⟨_, rfl⟩
  have q5 : IntKind.u8.wrap (nm.length : Int) = V z := by rw [hz, V_ofNat, IntKind.wrap_u8']; omega
  have HZ := Lib.hid hz
  clear hz
  have G0 := blockIs.new w (keyCells H M) 36
  have B1 := Lib.hid (alloc_below w (.cells (keyCells H M).toArray 36 (0, 0)))
  have I0 := Lib.hid (keys_in2 hH G0)
  have HXL := Lib.hid hX
  have HNL := Lib.hid hN
  have HML := Lib.hid hM
  have HNM := Lib.hid hnm
  have hsz := str_size nm
  clear G0 hX hN hM hH hnm
  generalize keyCells H M = C at *
  go_enter Tryd.func42, Tryd.ntmps42
  go_upto_region 1 with fail
  generalize w.alloc (.cells C.toArray 36 (0, 0)) = w1 at *
  refine wp_region_noPanic ?_
  refine wp_region_held_drew (S := fun w' => Below w1.heap.size w1 w') (by kernel_rfl) (below_drew' (Below.refl _ _)) (fun hH => ?_)
  generalize w1.drew = x0 at *
  refine wpAnyH_take (i := 0) (oi := { dst := some 11, op := Op.fieldAddr 36 (Operand.tmp 5) 1, type := 0, pos := "ref.go:26", after := #[], guard := none }) (v := .pointer (some ⟨w.heap.size, 32, none⟩)) rfl (by kernel_rfl) (by kernel_rfl) (by kernel_rfl) (fun _ _ _ h => h) (Or.inl ⟨by rfl, fun wx hS => ?_⟩) hH ?_
  · go_simp
  simp only [Act.put, List.setIfInBounds_toArray, List.set_cons_zero, List.set_cons_succ]
  refine wpAnyH_take (i := 1) (oi := { dst := some 12, op := Op.slice 34 (Operand.tmp 11) none none none, type := 22, pos := "ref.go:26", after := #[{ on := 0, ground := Ground.data }], guard := none }) (v := .slice (some ⟨w.heap.size, 32, none⟩) 32 32) rfl (by kernel_rfl) (by kernel_rfl) (by kernel_rfl) (fun _ _ _ h => h) (Or.inl ⟨by rfl, fun wx hS => ?_⟩) hH ?_
  · go_simp
  simp only [Act.put, List.setIfInBounds_toArray, List.set_cons_zero, List.set_cons_succ]
  refine wpAnyH_take (i := 2) (oi := { dst := some 13, op := Op.convert 22 9 (Operand.tmp 12), type := 9, pos := "ref.go:26", after := #[{ on := 1, ground := Ground.data }], guard := none }) (v := .string (str M)) rfl (by kernel_rfl) (by kernel_rfl) (by kernel_rfl) (fun _ _ _ h => h) (Or.inl ⟨by rfl, fun wx hS => ?_⟩) hH ?_
  · have cv := conv_string wx (some ⟨w.heap.size, 32, none⟩) M 32 (I0.out.below hS); rw [HML.out] at cv; go_simp
  simp only [Act.put, List.setIfInBounds_toArray, List.set_cons_zero, List.set_cons_succ]
  refine wpAnyH_take (i := 3) (oi := { dst := some 14, op := Op.move (Operand.tmp 1), type := 5, pos := "ref.go:26", after := #[], guard := none }) (v := .int .u8 (V kd)) rfl (by kernel_rfl) (by kernel_rfl) (by kernel_rfl) (fun _ _ _ h => h) (Or.inl ⟨by rfl, fun wx hS => ?_⟩) hH ?_
  · go_simp
  simp only [Act.put, List.setIfInBounds_toArray, List.set_cons_zero, List.set_cons_succ]
  refine wpAnyH_take (i := 4) (oi := { dst := some 15, op := Op.move (Operand.tmp 2), type := 9, pos := "ref.go:26", after := #[], guard := none }) (v := .string (str nm)) rfl (by kernel_rfl) (by kernel_rfl) (by kernel_rfl) (fun _ _ _ h => h) (Or.inl ⟨by rfl, fun wx hS => ?_⟩) hH ?_
  · go_simp
  simp only [Act.put, List.setIfInBounds_toArray, List.set_cons_zero, List.set_cons_succ]
  refine wpAnyH_take (i := 5) (oi := { dst := some 16, op := Op.call { callee := Callee.builtin Builtin.len, args := #[Operand.tmp 15], argTypes := #[9] }, type := 3, pos := "ref.go:26", after := #[{ on := 4, ground := Ground.data }], guard := none }) (v := .int .i64 (nm.length : Int)) rfl (by kernel_rfl) (by kernel_rfl) (by kernel_rfl) (fun _ _ _ h => h) (Or.inl ⟨by rfl, fun wx hS => ?_⟩) hH ?_
  · go_simp
  simp only [Act.put, List.setIfInBounds_toArray, List.set_cons_zero, List.set_cons_succ]
  refine wpAnyH_take (i := 6) (oi := { dst := some 17, op := Op.convert 3 5 (Operand.tmp 16), type := 5, pos := "ref.go:26", after := #[{ on := 5, ground := Ground.data }], guard := none }) (v := .int .u8 (V z)) rfl (by kernel_rfl) (by kernel_rfl) (by kernel_rfl) (fun _ _ _ h => h) (Or.inl ⟨by rfl, fun wx hS => ?_⟩) hH ?_
  · have e1 := q5; go_simp
  simp only [Act.put, List.setIfInBounds_toArray, List.set_cons_zero, List.set_cons_succ]
  clear q5
  refine wpAnyH_take (i := 9) (oi := { dst := some 20, op := Op.move (Operand.tmp 2), type := 9, pos := "ref.go:26", after := #[], guard := none }) (v := .string (str nm)) rfl (by kernel_rfl) (by kernel_rfl) (by kernel_rfl) (fun _ _ _ h => h) (Or.inl ⟨by rfl, fun wx hS => ?_⟩) hH ?_
  · go_simp
  simp only [Act.put, List.setIfInBounds_toArray, List.set_cons_zero, List.set_cons_succ]
  refine wpAnyH_take (i := 11) (oi := { dst := some 22, op := Op.move (Operand.tmp 3), type := 9, pos := "ref.go:26", after := #[], guard := none }) (v := .string (str N)) rfl (by kernel_rfl) (by kernel_rfl) (by kernel_rfl) (fun _ _ _ h => h) (Or.inl ⟨by rfl, fun wx hS => ?_⟩) hH ?_
  · go_simp
  simp only [Act.put, List.setIfInBounds_toArray, List.set_cons_zero, List.set_cons_succ]
  refine wpAnyH_take (i := 13) (oi := { dst := some 24, op := Op.move (Operand.tmp 4), type := 9, pos := "ref.go:26", after := #[], guard := none }) (v := .string (str X)) rfl (by kernel_rfl) (by kernel_rfl) (by kernel_rfl) (fun _ _ _ h => h) (Or.inl ⟨by rfl, fun wx hS => ?_⟩) hH ?_
  · go_simp
  simp only [Act.put, List.setIfInBounds_toArray, List.set_cons_zero, List.set_cons_succ]
  refine wpAnyH_ready (rs := [7]) (by kernel_rfl) (by simp) ?_
  refine AllReadyH.cons (o := { dst := some 18, op := Op.buildSlice 22 2 #[(0, Operand.tmp 14), (1, Operand.tmp 17)], type := 22, pos := "ref.go:26", after := #[{ on := 3, ground := Ground.data }, { on := 6, ground := Ground.data }], guard := none }) rfl (fun KK hKK => ?_) AllReadyH.nil
  have kb := alloc_below x0 (.cells #[.int .u8 (V kd), .int .u8 (V z)] 5 (0, 0))
  have q_ga := cellsAt.new x0 #[.int .u8 (V kd), .int .u8 (V z)] x0.heap.size 5 [.int .u8 (V kd), .int .u8 (V z)] rfl rfl
  have hN := hH.trans (kb.mono hH.size)
  clear hH kb
  go_simp
  refine hKK.out _ _ hN (fun hH => ?_)
  clear hKK KK hN
  try simp only [Act.put, List.setIfInBounds_toArray, List.set_cons_zero, List.set_cons_succ]
  generalize x0.alloc (.cells #[.int .u8 (V kd), .int .u8 (V z)] 5 (0, 0)) = x2 at *
  generalize x0.heap.size = ga at *
  have Q2 := Lib.hid (bytes2_in q_ga)
  have k2 := Below.refl x2.heap.size x2
  have cv := conv_string x2 (some ⟨ga, 0, none⟩) [kd, z] 2 Q2.out
  change (convert 22 9 (.slice (some ⟨ga, 0, none⟩) 2 2)).run Tryd.prog x2 = .ok (.string (str [kd, z])) x2 at cv
  refine wpAnyH_ready (rs := [8]) (by kernel_rfl) (by simp) ?_
  refine AllReadyH.cons (o := { dst := some 19, op := Op.convert 22 9 (Operand.tmp 18), type := 9, pos := "ref.go:26", after := #[{ on := 7, ground := Ground.data }], guard := none }) rfl (fun KK hKK => ?_) AllReadyH.nil
  go_simp
  refine hKK.out _ _ hH (fun hH => ?_)
  clear hKK KK cv q_ga
  try simp only [Act.put, List.setIfInBounds_toArray, List.set_cons_zero, List.set_cons_succ]
  obtain ⟨s0, h_s0⟩ : ∃ s, s = [kd, z] := ⟨_, rfl⟩
  rw [← h_s0]
  have E_s0 := Lib.hid h_s0
  have LALL : Hid (s0.length = 2 ∧ nm.length ≤ 1000 ∧ N.length = 16 ∧ X.length ≤ 80000) := Lib.hid ⟨by rw [h_s0]; rfl, HNM.out, HNL.out, HXL.out⟩
  clear h_s0
  obtain ⟨s1, h_s1⟩ : ∃ s, s = s0 ++ nm := ⟨_, rfl⟩
  have E_s1 := Lib.hid h_s1
  have L_s1 : Hid (s1.length = s0.length + nm.length) := Lib.hid (by rw [h_s1, List.length_append])
  clear h_s1
  refine wpAnyH_take (i := 10) (oi := { dst := some 21, op := Op.binOp BinOp.add 9 (Operand.tmp 19) (Operand.tmp 20) 9, type := 9, pos := "ref.go:26", after := #[{ on := 8, ground := Ground.data }, { on := 9, ground := Ground.data }], guard := none }) (v := .string (str s1)) rfl (by kernel_rfl) (by kernel_rfl) (by kernel_rfl) (fun _ _ _ h => h) (Or.inl ⟨by rfl, fun wx hS => ?_⟩) hH ?_
  · rw [E_s1.out, ← str_append]; have e1 := str_size (s0); have e2 := str_size (nm); have e4 : (str (s0)).size + (str (nm)).size ≤ 9223372036854775807 := (by rw [e1, e2]; have := LALL.out; omega); go_simp; first | done | omega
  simp only [Act.put, List.setIfInBounds_toArray, List.set_cons_zero, List.set_cons_succ]
  replace LALL : Hid (s1.length ≤ 1002 ∧ N.length = 16 ∧ X.length ≤ 80000) := Lib.hid (by have := LALL.out; have := L_s1.out; omega)
  obtain ⟨s2, h_s2⟩ : ∃ s, s = s1 ++ N := ⟨_, rfl⟩
  have E_s2 := Lib.hid h_s2
  have L_s2 : Hid (s2.length = s1.length + N.length) := Lib.hid (by rw [h_s2, List.length_append])
  clear h_s2
  refine wpAnyH_take (i := 12) (oi := { dst := some 23, op := Op.binOp BinOp.add 9 (Operand.tmp 21) (Operand.tmp 22) 9, type := 9, pos := "ref.go:26", after := #[{ on := 10, ground := Ground.data }, { on := 11, ground := Ground.data }], guard := none }) (v := .string (str s2)) rfl (by kernel_rfl) (by kernel_rfl) (by kernel_rfl) (fun _ _ _ h => h) (Or.inl ⟨by rfl, fun wx hS => ?_⟩) hH ?_
  · rw [E_s2.out, ← str_append]; have e1 := str_size (s1); have e2 := str_size (N); have e4 : (str (s1)).size + (str (N)).size ≤ 9223372036854775807 := (by rw [e1, e2]; have := LALL.out; omega); go_simp; first | done | omega
  simp only [Act.put, List.setIfInBounds_toArray, List.set_cons_zero, List.set_cons_succ]
  replace LALL : Hid (s2.length ≤ 1018 ∧ X.length ≤ 80000) := Lib.hid (by have := LALL.out; have := L_s2.out; omega)
  obtain ⟨s3, h_s3⟩ : ∃ s, s = s2 ++ X := ⟨_, rfl⟩
  have E_s3 := Lib.hid h_s3
  have L_s3 : Hid (s3.length = s2.length + X.length) := Lib.hid (by rw [h_s3, List.length_append])
  clear h_s3
  refine wpAnyH_take (i := 14) (oi := { dst := some 25, op := Op.binOp BinOp.add 9 (Operand.tmp 23) (Operand.tmp 24) 9, type := 9, pos := "ref.go:26", after := #[{ on := 12, ground := Ground.data }, { on := 13, ground := Ground.data }], guard := none }) (v := .string (str s3)) rfl (by kernel_rfl) (by kernel_rfl) (by kernel_rfl) (fun _ _ _ h => h) (Or.inl ⟨by rfl, fun wx hS => ?_⟩) hH ?_
  · rw [E_s3.out, ← str_append]; have e1 := str_size (s2); have e2 := str_size (X); have e4 : (str (s2)).size + (str (X)).size ≤ 9223372036854775807 := (by rw [e1, e2]; have := LALL.out; omega); go_simp; first | done | omega
  simp only [Act.put, List.setIfInBounds_toArray, List.set_cons_zero, List.set_cons_succ]
  have HF := Lib.hid (rky_any M s3 x2 (by rw [HML.out]; decide) (by have := LALL.out; have := L_s3.out; omega))
  refine wpAnyH_ready (rs := [15]) (by kernel_rfl) (by simp) ?_
  refine AllReadyH.cons (o := { dst := some 26, op := Op.call { callee := Callee.value (Operand.func 61), args := #[Operand.tmp 13, Operand.tmp 25], argTypes := #[9, 9] }, type := 9, pos := "ref.go:26", after := #[{ on := 2, ground := Ground.data }, { on := 14, ground := Ground.data }], guard := none }) rfl (fun KK hKK => ?_) AllReadyH.nil
  go_simp
  with_reducible refine (HF.out).mono ?_
  rintro e x3 ⟨rfl, kb⟩
  have hN := hH.trans (kb.mono hH.size)
  clear hH kb
  refine hKK.out _ _ hN (fun hH => ?_)
  clear hKK KK hN
  try simp only [Act.put, List.setIfInBounds_toArray, List.set_cons_zero, List.set_cons_succ]
  have HD : Hid (hmac M s3 = wmark M kd nm N X) := Lib.hid (by unfold wmark; rw [E_s3.out, E_s2.out, E_s1.out, E_s0.out, HZ.out]; simp only [List.append_assoc])
  rw [HD.out]
  generalize hDD : wmark M kd nm N X = D at *
  have HDD := Lib.hid hDD
  clear hDD
  refine wpAnyH_ready (rs := [16]) (by kernel_rfl) (by simp) ?_
  refine AllReadyH.cons (o := { dst := some 10, op := Op.assign (Operand.tmp 26), type := 9, pos := "ref.go:26", after := #[{ on := 15, ground := Ground.data }, { on := 15, ground := Ground.chain }, { on := 0, ground := Ground.phase }, { on := 1, ground := Ground.phase }, { on := 2, ground := Ground.phase }, { on := 3, ground := Ground.phase }, { on := 4, ground := Ground.phase }, { on := 5, ground := Ground.phase }, { on := 6, ground := Ground.phase }, { on := 7, ground := Ground.phase }, { on := 8, ground := Ground.phase }, { on := 9, ground := Ground.phase }, { on := 10, ground := Ground.phase }, { on := 11, ground := Ground.phase }, { on := 12, ground := Ground.phase }, { on := 13, ground := Ground.phase }, { on := 14, ground := Ground.phase }, { on := 15, ground := Ground.phase }], guard := none }) rfl (fun KK hKK => ?_) AllReadyH.nil
  go_simp
  refine hKK.out _ _ hH (fun hH => ?_)
  clear hKK KK
  try simp only [Act.put, List.setIfInBounds_toArray, List.set_cons_zero, List.set_cons_succ]
  refine wpAnyH_done (by kernel_rfl) ?_ _
  refine NoPanic.normal ?_
  go_wp2_with fail
  go_ret
  exact ⟨congrArg (fun b => Ending.returned (.string (str b))) HDD.out.symm, B1.out.trans (hH.mono B1.out.size)⟩
end Go.Proofs.YtjkhokholcchfaaDoor
end
section
/- The document's own Seal. -/
namespace Go.Proofs.YtjkhokholcchfaaDoor
open Go.RowKit Sha

theorem infoRK : (Tryd.prog.info? 36).map (·.size) = some 64 := by kernel_rfl
set_option maxRecDepth 100000 in
set_option maxHeartbeats 2000000 in
theorem docSeal_ok (H M N : List UInt8) (kd : UInt8) (nm B : List UInt8) (w : World) (hH : H.length = 32) (hM : M.length = 32) (hN : N.length = 16) (hnm : nm.length ≤ 255) (hB : B.length ≤ 1000) :
    Calls Tryd.prog 21 #[.agg (keyCells H M).toArray, .int .u8 (V kd), .string (str nm), .agg (byteCells N).toArray, .string (str B)] w fun e w' => e = .returned (.tuple #[.string (str (wseal H M kd nm N B)), .int .i64 0]) ∧ Below w.heap.size w w' := by
  have KL : Hid ((keyCells H M).length = 64) := Lib.hid (keyCells_length hH hM)
  have G0 := blockIs.new w (keyCells H M) 36
  have A0 := alloc_below w (.cells (keyCells H M).toArray 36 (0, 0))
  have N0 := blockIs.last (w.alloc (.cells (keyCells H M).toArray 36 (0, 0))) (byteCells N) 28 (w.heap.size + 1) (by simp)
  have B1 : Hid (Below w.heap.size w ((w.alloc (.cells (keyCells H M).toArray 36 (0, 0))).alloc (.cells (byteCells N).toArray 28 (0, 0)))) := Lib.hid (A0.alloc A0.size _)
  have G1 := Lib.hid (G0.alloc (.cells (byteCells N).toArray 28 (0, 0)))
  have IN : Hid (bytesIn _ (some ⟨w.heap.size + 1, 0, none⟩) N) := Lib.hid (Or.inr ⟨_, _, rfl, fun j hj => by
    rw [Nat.zero_add, N0.cell]
    exact byteCells_get N j hj⟩)
  have IH := Lib.hid (keys_in G1.out)
  have hsz := str_size nm
  have hsb := str_size B
  have g0 : ¬ (255 : Int) < (nm.length : Int) := by omega
  have g1 : ¬ (1048576 : Int) < (B.length : Int) := by omega
  have HMD := Lib.hid (fun X => Ci.docMake_any H X hH)
  have HHD := Lib.hid (fun kb g X (hk : Ci.keyIs X kb g H) => Ci.docHide_any kb g H N B 0 X hN (by omega) hB hk)
  rw [show Ci.hideL (Ci.Aes.words H 60) N 0 B = whide H N B from rfl] at HHD
  have HWL : Hid ((whide H N B).length ≤ 1000) := Lib.hid (by rw [whide_length]; exact hB)
  have HMK := Lib.hid (fun X h (hx : h.length ≤ 1000) => docMark_any H M N kd nm h X hH hM hN (by omega) (by omega))
  have HNL := Lib.hid hN
  have HHL := Lib.hid hH
  have HW : Hid (wseal H M kd nm N B = N ++ whide H N B ++ wmark M kd nm N (whide H N B)) := Lib.hid (by unfold wseal; rw [List.append_assoc])
  clear G0 A0 N0 hH hM hN hnm hB
  generalize wseal H M kd nm N B = OUT at *
  generalize whide H N B = h at *
  generalize keyCells H M = C at *
  generalize hNB : byteCells N = NB at *
  clear hNB
  go_enter Tryd.func21, Tryd.ntmps21
  have cvn := fun (X : World) (hx : bytesIn X (some ⟨w.heap.size + 1, 0, none⟩) N) => conv_string X (some ⟨w.heap.size + 1, 0, none⟩) N 16 hx
  have cvh := fun (X : World) (hx : bytesIn X (some ⟨w.heap.size, 0, none⟩) H) => conv_string X (some ⟨w.heap.size, 0, none⟩) H 32 hx
  rw [HNL.out] at cvn
  rw [HHL.out] at cvh
  have cv1 := cvn _ IN.out
  have cv2 := cvh _ IH.out
  go_upto_region 6 with fail
  go_wp2_with fail
  generalize (w.alloc (.cells C.toArray 36 (0, 0))).alloc (.cells NB.toArray 28 (0, 0)) = w1 at *
  with_reducible refine (HMD.out _).mono ?_
  rintro e w2 ⟨kb, g, rfl, hk1, hk2, hk3, hk4, hk5, kk⟩
  have HK2 := Lib.hid (HHD.out kb g w2 ⟨hk4, hk5⟩)
  rw [show ((0 : Nat) : Int) = 0 from rfl] at HK2
  have B2 := Lib.hid (B1.out.trans (kk.mono B1.out.size))
  have G2 := Lib.hid (G1.out.below kk G1.out.lt)
  clear hk1 hk2 hk3 hk4 hk5 kk HMD HHD cv1 cv2 cvn cvh IN IH B1 G1
  go_wp2_with fail
  with_reducible refine HK2.out.mono ?_
  rintro e w3 ⟨rfl, kk⟩
  have B3 := Lib.hid (B2.out.trans (kk.mono B2.out.size))
  have G3 := Lib.hid (Ci.range_of (G2.out.below kk G2.out.lt))
  have HM3 := Lib.hid (HMK.out w3 h HWL.out)
  have e1 := str_size N
  have e2 := str_size h
  have e4 : (str N).size + (str h).size ≤ 9223372036854775807 := by have := HNL.out; have := HWL.out; omega
  clear kk HK2 B2 G2 HMK
  go_wp2_with (refine Ci.wpList_load_mid_if (by rfl) 36 _ rfl w.heap.size 0 rfl C _ G3.out Tryd.underlying36 rfl (by rw [infoRK, KL.out]) ?_)
  with_reducible refine HM3.out.mono ?_
  rintro e w4 ⟨rfl, kk⟩
  have B4 := Lib.hid (B3.out.trans (kk.mono B3.out.size))
  have HDL : Hid ((wmark M kd nm N h).length = 32) := Lib.hid (wmark_length _ _ _ _ _)
  clear kk HM3 B3 G3
  generalize wmark M kd nm N h = D at *
  rw [str_append]
  have HNH : Hid ((N ++ h).length ≤ 1016) := Lib.hid (by rw [List.length_append]; have := HNL.out; have := HWL.out; omega)
  generalize N ++ h = Z at *
  have e5 := str_size Z
  have e6 := str_size D
  have e7 : (str Z).size + (str D).size ≤ 9223372036854775807 := by have := HNH.out; have := HDL.out; omega
  go_wp2_with fail
  refine bodyPost_ret (v := .tuple #[.string (str Z ++ str D), .int .i64 0]) (results_tmp2 (t := 10) (u := 11) rfl _ _ _) rfl ?_
  exact ⟨by rw [HW.out, str_append], B4.out⟩
set_option maxRecDepth 100000 in
theorem docSeal_name (C NB : List Value) (kd : UInt8) (nm B : List UInt8) (w : World) (hnm : 255 < nm.length) :
    Calls Tryd.prog 21 #[.agg C.toArray, .int .u8 (V kd), .string (str nm), .agg NB.toArray, .string (str B)] w fun e w' => e = .returned (.tuple #[.string (str []), .int .i64 5]) ∧ Below w.heap.size w w' := by
  have hsz := str_size nm
  have g0 : (255 : Int) < (nm.length : Int) := by omega
  have A0 := alloc_below w (.cells C.toArray 36 (0, 0))
  have B1 := Lib.hid (A0.alloc A0.size (.cells NB.toArray 28 (0, 0)))
  clear A0
  go_enter Tryd.func21, Tryd.ntmps21
  go_wp2_with fail
  refine bodyPost_ret (v := .tuple #[.string (str []), .int .i64 5]) (results_tmp2 (t := 10) (u := 11) rfl _ _ _) rfl ?_
  exact ⟨rfl, B1.out⟩
end Go.Proofs.YtjkhokholcchfaaDoor
end
section
/- The document's own Open. -/
namespace Go.Proofs.YtjkhokholcchfaaDoor
open Go.RowKit Sha

theorem str_extract (l : List UInt8) (i n : Nat) : (str l).extract i n = str ((l.take n).drop i) := by
  apply ByteArray.ext
  rw [ByteArray.data_extract]
  apply Array.toList_inj.1
  simp [str, List.drop_take]
theorem s_cutH (T : List UInt8) (m : Nat) (h : m ≤ T.length) (w : World) : (Instr.slice 9 (.string (str T)) none (some (.int .i64 (m : Int))) none).run Tryd.prog w = .ok (.string (str (T.take m))) w := by
  have := run_slice_string_h (P := Tryd.prog) w 9 (str T) Tryd.underlying9 .i64 (m : Int) (by omega) (by rw [str_size]; omega)
  rw [this, Int.toNat_natCast, str_extract, List.drop_zero]
theorem s_cutL (T : List UInt8) (m : Nat) (h : m ≤ T.length) (w : World) : (Instr.slice 9 (.string (str T)) (some (.int .i64 (m : Int))) none none).run Tryd.prog w = .ok (.string (str (T.drop m))) w := by
  have := run_slice_string_l (P := Tryd.prog) w 9 (str T) Tryd.underlying9 .i64 (m : Int) (by omega) (by rw [str_size]; omega)
  rw [this, Int.toNat_natCast, str_extract, str_size, List.take_length]
theorem s_cut (T : List UInt8) (i m : Nat) (hi : i ≤ m) (h : m ≤ T.length) (w : World) : (Instr.slice 9 (.string (str T)) (some (.int .i64 (i : Int))) (some (.int .i64 (m : Int))) none).run Tryd.prog w = .ok (.string (str ((T.take m).drop i))) w := by
  have := run_slice_string_if (P := Tryd.prog) w 9 (str T) .i64 .i64 (i : Int) (m : Int) Tryd.underlying9
  rw [this, if_pos ⟨by omega, by rw [str_size]; omega⟩, if_pos ⟨by omega, by omega⟩, Int.toNat_natCast, Int.toNat_natCast, str_extract]

set_option maxRecDepth 100000 in
set_option maxHeartbeats 4000000 in
theorem docOpen_at (H M N X D : List UInt8) (kd : UInt8) (nm : List UInt8) (w : World) (hH : H.length = 32) (hM : M.length = 32) (hN : N.length = 16) (hD : D.length = 32) (hX : X.length ≤ 1000) (hnm : nm.length ≤ 255) :
    Calls Tryd.prog 24 #[.agg (keyCells H M).toArray, .int .u8 (V kd), .string (str nm), .string (str (N ++ (X ++ D)))] w fun e w' => (D = wmark M kd nm N X → e = .returned (.tuple #[.string (str (whide H N X)), .int .i64 0])) ∧ (D ≠ wmark M kd nm N X → e = .returned (.tuple #[.string (str []), .int .i64 10])) ∧ Below w.heap.size w w' := by
  have KL : Hid ((keyCells H M).length = 64) := Lib.hid (keyCells_length hH hM)
  have G0 := blockIs.new w (keyCells H M) 36
  have B1 := Lib.hid (alloc_below w (.cells (keyCells H M).toArray 36 (0, 0)))
  have IH := Lib.hid (keys_in G0)
  have G1 := Lib.hid G0
  have hsz := str_size nm
  have g0 : ¬ (255 : Int) < (nm.length : Int) := by omega
  obtain ⟨Z, hZ⟩ : ∃ Z, Z = N ++ (X ++ D) := ⟨_, rfl⟩
  have hZl : Z.length = X.length + 48 := by rw [hZ]; simp only [List.length_append]; omega
  rw [← hZ]
  obtain ⟨L, hL⟩ : ∃ L, L = Z.length := ⟨_, rfl⟩
  obtain ⟨m, hm⟩ : ∃ m, m = X.length + 16 := ⟨_, rfl⟩
  have hs2 : (str Z).size = L := by rw [str_size, hL]
  have g1 : ¬ (L : Int) < 48 := by omega
  have q0 : IntKind.i64.wrap ((L : Int) - 48) = (X.length : Int) := by rw [IntWalk.i64_in _ (by omega)]; omega
  have g2 : ¬ (1048576 : Int) < (X.length : Int) := by omega
  have qm : Hid (IntKind.i64.wrap ((L : Int) - 32) = (m : Int)) := Lib.hid (by rw [IntWalk.i64_in _ (by omega)]; omega)
  have c1 : Z.take 16 = N := by rw [hZ, ← hN]; simp
  have c2 : (Z.take m).drop 16 = X := by rw [hZ, hm, ← hN]; simp [List.take_append]
  have c3 : Z.drop m = D := by
    rw [hZ, hm, ← List.append_assoc, show X.length + 16 = (N ++ X).length by rw [List.length_append]; omega]
    simp
  have r1 := Lib.hid (fun X' => s_cutH Z 16 (by omega) X')
  have r2 := Lib.hid (fun X' => s_cut Z 16 m (by omega) (by omega) X')
  have r3 := Lib.hid (fun X' => s_cutL Z m (by omega) X')
  rw [c1, show ((16 : Nat) : Int) = 16 from rfl] at r1
  rw [c2, show ((16 : Nat) : Int) = 16 from rfl] at r2
  rw [c3] at r3
  have HMD := Lib.hid (fun X' => Ci.docMake_any H X' hH)
  have HHD := Lib.hid (fun kb g X' (hk : Ci.keyIs X' kb g H) => Ci.docHide_any kb g H N X 0 X' hN (by omega) hX hk)
  rw [show Ci.hideL (Ci.Aes.words H 60) N 0 X = whide H N X from rfl] at HHD
  have HMK := Lib.hid (fun X' => docMark_any H M N kd nm X X' hH hM hN (by omega) (by omega))
  have HHL := Lib.hid hH
  clear G0 hH hM hN hD hX hnm hm hL hZl c1 c2 c3 hZ
  generalize whide H N X = OUT at *
  generalize wmark M kd nm N X = Y at *
  generalize keyCells H M = C at *
  go_enter Tryd.func24, Tryd.ntmps24
  go_upto_region 5 with fail
  generalize w.alloc (.cells C.toArray 36 (0, 0)) = w1 at *
  refine wp_region_noPanic ?_
  refine wp_region_held_drew (S := fun w' => Below w1.heap.size w1 w') (by kernel_rfl) (below_drew' (Below.refl _ _)) (fun hH => ?_)
  generalize w1.drew = x0 at *
  refine wpAnyH_take (i := 0) (oi := { dst := some 25, op := Op.move (Operand.tmp 3), type := 9, pos := "ref.go:50", after := #[], guard := none }) (v := .string (str Z)) rfl (by kernel_rfl) (by kernel_rfl) (by kernel_rfl) (fun _ _ _ h => h) (Or.inl ⟨by rfl, fun wx hS => ?_⟩) hH ?_
  · go_simp
  simp only [Act.put, List.setIfInBounds_toArray, List.set_cons_zero, List.set_cons_succ]
  refine wpAnyH_take (i := 1) (oi := { dst := some 26, op := Op.slice 9 (Operand.tmp 25) none (some (Operand.const (Value.int IntKind.i64 16))) none, type := 9, pos := "ref.go:50", after := #[{ on := 0, ground := Ground.data }], guard := none }) (v := .string (str N)) rfl (by kernel_rfl) (by kernel_rfl) (by kernel_rfl) (fun _ _ _ h => h) (Or.inl ⟨by rfl, fun wx hS => ?_⟩) hH ?_
  · have e1 := r1.out wx; go_simp
  simp only [Act.put, List.setIfInBounds_toArray, List.set_cons_zero, List.set_cons_succ]
  refine wpAnyH_take (i := 2) (oi := { dst := some 27, op := Op.move (Operand.tmp 3), type := 9, pos := "ref.go:50", after := #[], guard := none }) (v := .string (str Z)) rfl (by kernel_rfl) (by kernel_rfl) (by kernel_rfl) (fun _ _ _ h => h) (Or.inl ⟨by rfl, fun wx hS => ?_⟩) hH ?_
  · go_simp
  simp only [Act.put, List.setIfInBounds_toArray, List.set_cons_zero, List.set_cons_succ]
  refine wpAnyH_take (i := 3) (oi := { dst := some 28, op := Op.move (Operand.tmp 3), type := 9, pos := "ref.go:50", after := #[], guard := none }) (v := .string (str Z)) rfl (by kernel_rfl) (by kernel_rfl) (by kernel_rfl) (fun _ _ _ h => h) (Or.inl ⟨by rfl, fun wx hS => ?_⟩) hH ?_
  · go_simp
  simp only [Act.put, List.setIfInBounds_toArray, List.set_cons_zero, List.set_cons_succ]
  refine wpAnyH_take (i := 4) (oi := { dst := some 29, op := Op.call { callee := Callee.builtin Builtin.len, args := #[Operand.tmp 28], argTypes := #[9] }, type := 3, pos := "ref.go:50", after := #[{ on := 3, ground := Ground.data }], guard := none }) (v := .int .i64 (L : Int)) rfl (by kernel_rfl) (by kernel_rfl) (by kernel_rfl) (fun _ _ _ h => h) (Or.inl ⟨by rfl, fun wx hS => ?_⟩) hH ?_
  · go_simp
  simp only [Act.put, List.setIfInBounds_toArray, List.set_cons_zero, List.set_cons_succ]
  refine wpAnyH_take (i := 5) (oi := { dst := some 30, op := Op.binOp BinOp.sub 3 (Operand.tmp 29) (Operand.const (Value.int IntKind.i64 32)) 3, type := 3, pos := "ref.go:50", after := #[{ on := 4, ground := Ground.data }], guard := none }) (v := .int .i64 (m : Int)) rfl (by kernel_rfl) (by kernel_rfl) (by kernel_rfl) (fun _ _ _ h => h) (Or.inl ⟨by rfl, fun wx hS => ?_⟩) hH ?_
  · have e1 := qm.out; go_simp
  simp only [Act.put, List.setIfInBounds_toArray, List.set_cons_zero, List.set_cons_succ]
  refine wpAnyH_take (i := 6) (oi := { dst := some 31, op := Op.slice 9 (Operand.tmp 27) (some (Operand.const (Value.int IntKind.i64 16))) (some (Operand.tmp 30)) none, type := 9, pos := "ref.go:50", after := #[{ on := 2, ground := Ground.data }, { on := 5, ground := Ground.data }], guard := none }) (v := .string (str X)) rfl (by kernel_rfl) (by kernel_rfl) (by kernel_rfl) (fun _ _ _ h => h) (Or.inl ⟨by rfl, fun wx hS => ?_⟩) hH ?_
  · have e1 := r2.out wx; go_simp
  simp only [Act.put, List.setIfInBounds_toArray, List.set_cons_zero, List.set_cons_succ]
  refine wpAnyH_take (i := 7) (oi := { dst := some 32, op := Op.move (Operand.tmp 3), type := 9, pos := "ref.go:50", after := #[], guard := none }) (v := .string (str Z)) rfl (by kernel_rfl) (by kernel_rfl) (by kernel_rfl) (fun _ _ _ h => h) (Or.inl ⟨by rfl, fun wx hS => ?_⟩) hH ?_
  · go_simp
  simp only [Act.put, List.setIfInBounds_toArray, List.set_cons_zero, List.set_cons_succ]
  refine wpAnyH_take (i := 8) (oi := { dst := some 33, op := Op.move (Operand.tmp 3), type := 9, pos := "ref.go:50", after := #[], guard := none }) (v := .string (str Z)) rfl (by kernel_rfl) (by kernel_rfl) (by kernel_rfl) (fun _ _ _ h => h) (Or.inl ⟨by rfl, fun wx hS => ?_⟩) hH ?_
  · go_simp
  simp only [Act.put, List.setIfInBounds_toArray, List.set_cons_zero, List.set_cons_succ]
  refine wpAnyH_take (i := 9) (oi := { dst := some 34, op := Op.call { callee := Callee.builtin Builtin.len, args := #[Operand.tmp 33], argTypes := #[9] }, type := 3, pos := "ref.go:50", after := #[{ on := 8, ground := Ground.data }], guard := none }) (v := .int .i64 (L : Int)) rfl (by kernel_rfl) (by kernel_rfl) (by kernel_rfl) (fun _ _ _ h => h) (Or.inl ⟨by rfl, fun wx hS => ?_⟩) hH ?_
  · go_simp
  simp only [Act.put, List.setIfInBounds_toArray, List.set_cons_zero, List.set_cons_succ]
  refine wpAnyH_take (i := 10) (oi := { dst := some 35, op := Op.binOp BinOp.sub 3 (Operand.tmp 34) (Operand.const (Value.int IntKind.i64 32)) 3, type := 3, pos := "ref.go:50", after := #[{ on := 9, ground := Ground.data }], guard := none }) (v := .int .i64 (m : Int)) rfl (by kernel_rfl) (by kernel_rfl) (by kernel_rfl) (fun _ _ _ h => h) (Or.inl ⟨by rfl, fun wx hS => ?_⟩) hH ?_
  · have e1 := qm.out; go_simp
  simp only [Act.put, List.setIfInBounds_toArray, List.set_cons_zero, List.set_cons_succ]
  refine wpAnyH_take (i := 11) (oi := { dst := some 36, op := Op.slice 9 (Operand.tmp 32) (some (Operand.tmp 35)) none none, type := 9, pos := "ref.go:50", after := #[{ on := 7, ground := Ground.data }, { on := 10, ground := Ground.data }], guard := none }) (v := .string (str D)) rfl (by kernel_rfl) (by kernel_rfl) (by kernel_rfl) (fun _ _ _ h => h) (Or.inl ⟨by rfl, fun wx hS => ?_⟩) hH ?_
  · have e1 := r3.out wx; go_simp
  simp only [Act.put, List.setIfInBounds_toArray, List.set_cons_zero, List.set_cons_succ]
  refine wpAnyH_ready (rs := [12]) (by kernel_rfl) (by simp) ?_
  refine AllReadyH.cons (o := { dst := some 10, op := Op.assign (Operand.tmp 26), type := 9, pos := "ref.go:50", after := #[{ on := 1, ground := Ground.data }, { on := 0, ground := Ground.phase }, { on := 1, ground := Ground.phase }, { on := 2, ground := Ground.textOnly Departure.lateStores }, { on := 3, ground := Ground.textOnly Departure.lateStores }, { on := 4, ground := Ground.textOnly Departure.lateStoresUnsure }, { on := 5, ground := Ground.textOnly Departure.lateStores }, { on := 6, ground := Ground.textOnly Departure.lateStoresUnsure }, { on := 7, ground := Ground.textOnly Departure.lateStores }, { on := 8, ground := Ground.textOnly Departure.lateStores }, { on := 9, ground := Ground.textOnly Departure.lateStoresUnsure }, { on := 10, ground := Ground.textOnly Departure.lateStores }, { on := 11, ground := Ground.textOnly Departure.lateStoresUnsure }], guard := none }) rfl (fun KK hKK => ?_) AllReadyH.nil
  go_simp
  refine hKK.out _ _ hH (fun hH => ?_)
  clear hKK KK
  try simp only [Act.put, List.setIfInBounds_toArray, List.set_cons_zero, List.set_cons_succ]
  refine wpAnyH_ready (rs := [13]) (by kernel_rfl) (by simp) ?_
  refine AllReadyH.cons (o := { dst := some 11, op := Op.assign (Operand.tmp 31), type := 9, pos := "ref.go:50", after := #[{ on := 6, ground := Ground.data }, { on := 12, ground := Ground.chain }, { on := 0, ground := Ground.phase }, { on := 1, ground := Ground.phase }, { on := 2, ground := Ground.phase }, { on := 3, ground := Ground.phase }, { on := 4, ground := Ground.phase }, { on := 5, ground := Ground.phase }, { on := 6, ground := Ground.phase }, { on := 7, ground := Ground.textOnly Departure.lateStores }, { on := 8, ground := Ground.textOnly Departure.lateStores }, { on := 9, ground := Ground.textOnly Departure.lateStoresUnsure }, { on := 10, ground := Ground.textOnly Departure.lateStores }, { on := 11, ground := Ground.textOnly Departure.lateStoresUnsure }, { on := 12, ground := Ground.phase }], guard := none }) rfl (fun KK hKK => ?_) AllReadyH.nil
  go_simp
  refine hKK.out _ _ hH (fun hH => ?_)
  clear hKK KK
  try simp only [Act.put, List.setIfInBounds_toArray, List.set_cons_zero, List.set_cons_succ]
  refine wpAnyH_ready (rs := [14]) (by kernel_rfl) (by simp) ?_
  refine AllReadyH.cons (o := { dst := some 12, op := Op.assign (Operand.tmp 36), type := 9, pos := "ref.go:50", after := #[{ on := 11, ground := Ground.data }, { on := 13, ground := Ground.chain }, { on := 0, ground := Ground.phase }, { on := 1, ground := Ground.phase }, { on := 2, ground := Ground.phase }, { on := 3, ground := Ground.phase }, { on := 4, ground := Ground.phase }, { on := 5, ground := Ground.phase }, { on := 6, ground := Ground.phase }, { on := 7, ground := Ground.phase }, { on := 8, ground := Ground.phase }, { on := 9, ground := Ground.phase }, { on := 10, ground := Ground.phase }, { on := 11, ground := Ground.phase }, { on := 12, ground := Ground.phase }, { on := 13, ground := Ground.phase }], guard := none }) rfl (fun KK hKK => ?_) AllReadyH.nil
  go_simp
  refine hKK.out _ _ hH (fun hH => ?_)
  clear hKK KK
  try simp only [Act.put, List.setIfInBounds_toArray, List.set_cons_zero, List.set_cons_succ]
  refine wpAnyH_done (by kernel_rfl) ?_ _
  refine NoPanic.normal ?_
  have G2 := Lib.hid (G1.out.below hH G1.out.lt)
  have B2 := Lib.hid (B1.out.trans (hH.mono B1.out.size))
  have I2 := Lib.hid (IH.out.below hH)
  have RK := Lib.hid (Ci.range_of G2.out)
  clear hH G1 B1 IH r1 r2 r3 qm
  have CM := Lib.hid (HMK.out x0)
  clear HMK
  by_cases hy : D = Y
  · have sb : ((str Y).toList == (str D).toList) = true := by rw [str_beq, hy]; simp
    have HY := Lib.hid hy
    clear hy
    have SB := Lib.hid sb
    clear sb
    go_wp2_with (refine Ci.wpList_load_mid_if (by rfl) 36 _ rfl w.heap.size 0 rfl C _ RK.out Tryd.underlying36 rfl (by rw [infoRK, KL.out]) ?_)
    with_reducible refine CM.out.mono ?_
    rintro e w3 ⟨rfl, kk⟩
    have sb := SB.out
    have cvh := conv_string w3 (some ⟨w.heap.size, 0, none⟩) H 32 (I2.out.below kk)
    rw [HHL.out] at cvh
    have B3 := Lib.hid (B2.out.trans (kk.mono B2.out.size))
    clear kk CM
    go_wp2_with fail
    with_reducible refine (HMD.out _).mono ?_
    rintro e w4 ⟨kb, g, rfl, hk1, hk2, hk3, hk4, hk5, kk⟩
    have HK2 := Lib.hid (HHD.out kb g w4 ⟨hk4, hk5⟩)
    rw [show ((0 : Nat) : Int) = 0 from rfl] at HK2
    have B4 := Lib.hid (B3.out.trans (kk.mono B3.out.size))
    clear hk1 hk2 hk3 hk4 hk5 kk HMD HHD cvh
    go_wp2_with fail
    with_reducible refine HK2.out.mono ?_
    rintro e w5 ⟨rfl, kk⟩
    have B5 := Lib.hid (B4.out.trans (kk.mono B4.out.size))
    clear kk HK2
    go_wp2_with fail
    refine bodyPost_ret (v := .tuple #[.string (str OUT), .int .i64 0]) (results_tmp2 (t := 8) (u := 9) rfl _ _ _) rfl ?_
    exact ⟨fun _ => rfl, fun h => absurd HY.out h, B5.out⟩
  · have sb : ((str Y).toList == (str D).toList) = false := by rw [str_beq]; simp [hy]
    have HY := Lib.hid hy
    have SB := Lib.hid sb
    clear hy sb
    go_wp2_with (refine Ci.wpList_load_mid_if (by rfl) 36 _ rfl w.heap.size 0 rfl C _ RK.out Tryd.underlying36 rfl (by rw [infoRK, KL.out]) ?_)
    with_reducible refine CM.out.mono ?_
    rintro e w3 ⟨rfl, kk⟩
    have sb := SB.out
    have B3 := Lib.hid (B2.out.trans (kk.mono B2.out.size))
    clear kk CM
    go_wp2_with fail
    refine bodyPost_ret (v := .tuple #[.string (str []), .int .i64 10]) (results_tmp2 (t := 8) (u := 9) rfl _ _ _) rfl ?_
    exact ⟨fun h => absurd h HY.out, fun _ => rfl, B3.out⟩
set_option maxRecDepth 100000 in
theorem docOpen_short (C : List Value) (kd : UInt8) (nm B : List UInt8) (w : World) (hnm : nm.length ≤ 255) (hB : B.length < 48) :
    Calls Tryd.prog 24 #[.agg C.toArray, .int .u8 (V kd), .string (str nm), .string (str B)] w fun e w' => e = .returned (.tuple #[.string (str []), .int .i64 10]) ∧ Below w.heap.size w w' := by
  have hsz := str_size nm
  have hsb := str_size B
  have g0 : ¬ (255 : Int) < (nm.length : Int) := by omega
  have g1 : (B.length : Int) < 48 := by omega
  have B1 := Lib.hid (alloc_below w (.cells C.toArray 36 (0, 0)))
  go_enter Tryd.func24, Tryd.ntmps24
  go_wp2_with fail
  refine bodyPost_ret (v := .tuple #[.string (str []), .int .i64 10]) (results_tmp2 (t := 8) (u := 9) rfl _ _ _) rfl ?_
  exact ⟨rfl, B1.out⟩
set_option maxRecDepth 100000 in
theorem docOpen_name (C : List Value) (kd : UInt8) (nm B : List UInt8) (w : World) (hnm : 255 < nm.length) :
    Calls Tryd.prog 24 #[.agg C.toArray, .int .u8 (V kd), .string (str nm), .string (str B)] w fun e w' => e = .returned (.tuple #[.string (str []), .int .i64 5]) ∧ Below w.heap.size w w' := by
  have hsz := str_size nm
  have g0 : (255 : Int) < (nm.length : Int) := by omega
  have B1 := Lib.hid (alloc_below w (.cells C.toArray 36 (0, 0)))
  go_enter Tryd.func24, Tryd.ntmps24
  go_wp2_with fail
  refine bodyPost_ret (v := .tuple #[.string (str []), .int .i64 5]) (results_tmp2 (t := 8) (u := 9) rfl _ _ _) rfl ?_
  exact ⟨rfl, B1.out⟩
end Go.Proofs.YtjkhokholcchfaaDoor
end
