/- The law NodeChecks: its walk. -/
import Derived.Test.YtjgmhaajcglpmaaNc
namespace Go.Proofs.Ytjgmhaajcglpmaa
open Go.RowKit

theorem row_one {w : World} {g : Nat} {n : Nd} {pv : Value} {t : TypeId} (h : blockIs w g (n.cells pv) t) (wf : n.Wf) (hid : idsIn w pv n.parts) : rowN w (some ⟨g, 0, none⟩) [n] :=
  Or.inr ⟨g, 0, rfl, fun i hi => by
    obtain rfl : i = 0 := by simp at hi; exact hi
    exact ⟨wf, pv, hid, nd_all h⟩⟩
set_option maxRecDepth 100000 in
set_option maxHeartbeats 4000000 in
theorem law_nodeChecks (n : Nd) (pa : Option Addr) (pc : Nat) (s : List UInt8) (w : World) (wf : n.Wf) (hid : idsIn w (.slice pa n.parts.length pc) n.parts) (hb : n.parts.length * 32 ≤ 140737488355328) :
    Calls Try.prog 3 #[.agg (n.cells (.slice pa n.parts.length pc)).toArray, .string (str s)] w fun e w' => e = .returned (.bool true) ∧ Below w.heap.size w w' := by
  have WF := Lib.hid wf
  have HBD := Lib.hid hb
  have HCL := Lib.hid (n.cells_length (.slice pa n.parts.length pc) wf.tree)
  have B1 := Lib.hid (alloc_below w (.cells (n.cells (.slice pa n.parts.length pc)).toArray 26 (0, 0)))
  have HBK := Lib.hid (blockIs.new w (n.cells (.slice pa n.parts.length pc)) 26)
  have HID := Lib.hid (hid.below B1.out (Nat.le_refl _))
  have CR := fun w => Lib.hid (refCheck_any n pa pc w wf.tree)
  clear wf hid hb
  go_enter Try.func3, Try.ntmps3
  go_upto_region 1 with fail
  generalize hcs : n.cells (.slice pa n.parts.length pc) = cs at *
  have HCS := Lib.hid hcs
  clear hcs
  generalize w.alloc (.cells cs.toArray 26 (0, 0)) = w1 at *
  generalize hg : w.heap.size = g at *
  have HG := Lib.hid hg
  clear hg
  have R1 := Lib.hid (block_range HBK.out)
  have B2 := Lib.hid (B1.out.trans ((alloc_below w1 (.cells cs.toArray 26 (0, 0))).mono (by rw [← HG.out]; exact B1.out.size)))
  have HBK2 := Lib.hid (HBK.out.alloc (.cells cs.toArray 26 (0, 0)))
  have TA := Lib.hid (to_any (some ⟨w1.heap.size, 0, none⟩) 1 [n] (w1.alloc (.cells cs.toArray 26 (0, 0))) (by simp) (fun m hm => by rw [List.mem_singleton.1 hm]; exact HBD.out) (row_one (by rw [← HCS.out]; exact blockIs.new w1 _ _) WF.out (HID.out.below (alloc_below w1 _) (Nat.le_refl _))))
  rw [show [n].length = 1 from rfl] at TA
  go_wp2_with (first | (refine load_rn (by rfl) _ rfl g 0 rfl cs R1.out HCL.out ?_) | (refine build_one (by rfl) 26 29 ntR _ rfl cs HCL.out rfl ?_; refine Hid.out ?_))
  refine Lib.hid ?_
  go_wp2_with fail
  with_reducible refine TA.out.mono ?_
  rintro e w3 ⟨⟨v, rfl, hv⟩, b3⟩
  have B3 := Lib.hid (B2.out.trans (b3.mono (by rw [← HG.out]; exact B2.out.size)))
  have HBK3 := Lib.hid (HBK2.out.below b3 HBK2.out.lt)
  obtain ⟨a1, c1, rfl, hlc, hc1, hz1, hrow⟩ := hv.row
  obtain ⟨b, o, rfl, hnd⟩ := hrow.at 0 (by simp)
  rw [show [n].length = 1 from rfl] at hlc ⊢
  simp only [Nat.zero_mul, Nat.add_zero, List.getElem_cons_zero] at hnd
  obtain ⟨pa2, pc2, -, -, hr⟩ := hnd.form
  have R3 := Lib.hid hr
  have HCL2 := Lib.hid (n.cells_length (.slice pa2 n.parts.length pc2) WF.out.tree)
  have CN := fun w => Lib.hid (check_any n pa2 pc2 w WF.out.tree)
  clear b3 hrow hnd hr hv TA HBK2 HBK B2 R1 HID
  generalize n.cells (.slice pa2 n.parts.length pc2) = cs2 at *
  go_upto_region 2 with fail
  refine wp_region_noPanic ?_
  refine wp_region_held_drew (S := fun x => Below w3.heap.size w3 x) (by kernel_rfl) (below_drewN (Below.refl w3.heap.size w3) 1) (fun hH => ?_)
  generalize w3.drew = y0 at *
  refine wpAnyH_ready (rs := [0]) (by kernel_rfl) (by simp) ?_
  refine AllReadyH.cons (o := { dst := some 9, op := Op.call { callee := Callee.value (Operand.func 11), args := #[], argTypes := #[] }, type := 4, pos := "law.go:49", after := #[], guard := none }) rfl (fun KK hKK => ?_) AllReadyH.nil
  go_simp
  with_reducible refine (nodes_any _).mono ?_
  rintro e y1 ⟨rfl, kb⟩
  have hN := hH.trans (kb.mono hH.size)
  clear hH kb
  refine hKK.out _ _ hN (fun hH => ?_)
  clear hKK KK hN
  try simp only [Act.put, List.setIfInBounds_toArray, List.set_cons_zero, List.set_cons_succ]
  refine wpAnyH_take (i := 1) (oi := { dst := some 10, op := Op.move (Operand.tmp 9), type := 4, pos := "law.go:49", after := #[{ on := 0, ground := Ground.data }, { on := 0, ground := Ground.chain }], guard := none }) (v := .bool true) rfl (by kernel_rfl) (by kernel_rfl) (by kernel_rfl) (fun _ _ _ h => h) (Or.inl ⟨by rfl, fun wx hS => ?_⟩) hH ?_
  · go_simp
  simp only [Act.put, List.setIfInBounds_toArray, List.set_cons_zero, List.set_cons_succ]
  refine wpAnyH_take (i := 2) (oi := { dst := some 11, op := Op.move (Operand.tmp 5), type := 27, pos := "law.go:49", after := #[{ on := 1, ground := Ground.guard }], guard := some (1, true) }) (v := .slice (some ⟨b, o, none⟩) 1 c1) rfl (by kernel_rfl) (by kernel_rfl) (by kernel_rfl) (fun _ _ _ h => h) (Or.inl ⟨by rfl, fun wx hS => ?_⟩) hH ?_
  · go_simp
  simp only [Act.put, List.setIfInBounds_toArray, List.set_cons_zero, List.set_cons_succ]
  refine wpAnyH_take (i := 3) (oi := { dst := some 12, op := Op.indexAddr 27 (Operand.tmp 11) (Operand.const (Value.int IntKind.i64 0)), type := 0, pos := "law.go:49", after := #[{ on := 2, ground := Ground.data }, { on := 1, ground := Ground.guard }], guard := some (1, true) }) (v := .pointer (some ⟨b, o, none⟩)) rfl (by kernel_rfl) (by kernel_rfl) (by kernel_rfl) (fun _ _ _ h => h) (Or.inl ⟨by rfl, fun wx hS => ?_⟩) hH ?_
  · go_simp
  simp only [Act.put, List.setIfInBounds_toArray, List.set_cons_zero, List.set_cons_succ]
  refine wpAnyH_take (i := 4) (oi := { dst := some 13, op := Op.load 33 (Operand.tmp 12), type := 33, pos := "law.go:49", after := #[{ on := 3, ground := Ground.data }, { on := 1, ground := Ground.guard }], guard := some (1, true) }) (v := .agg cs2.toArray) rfl (by kernel_rfl) (by kernel_rfl) (by kernel_rfl) (fun _ _ _ h => h) (yieldsIf_load_mid (by rfl) 33 _ rfl (b) (o) rfl cs2 _ (fun wx hS => range_below R3.out hS (Nat.le_refl _)) Try.underlying33 rfl (by rw [HCL2.out]; kernel_rfl)) hH ?_
  simp only [Act.put, List.setIfInBounds_toArray, List.set_cons_zero, List.set_cons_succ]
  refine wpAnyH_take (i := 6) (oi := { dst := some 15, op := Op.load 26 (Operand.tmp 2), type := 26, pos := "law.go:49", after := #[{ on := 1, ground := Ground.guard }], guard := some (1, true) }) (v := .agg cs.toArray) rfl (by kernel_rfl) (by kernel_rfl) (by kernel_rfl) (fun _ _ _ h => h) (yieldsIf_load_mid (by rfl) 26 _ rfl (g) (0) rfl cs _ (fun wx hS => range_below (block_range HBK3.out) hS (Nat.le_refl _)) Try.underlying26 rfl (by rw [HCL.out]; kernel_rfl)) hH ?_
  simp only [Act.put, List.setIfInBounds_toArray, List.set_cons_zero, List.set_cons_succ]
  refine wpAnyH_ready (rs := [5]) (by kernel_rfl) (by simp) ?_
  refine AllReadyH.cons (o := { dst := some 14, op := Op.call { callee := Callee.value (Operand.func 12), args := #[Operand.tmp 13], argTypes := #[33] }, type := 31, pos := "law.go:49", after := #[{ on := 4, ground := Ground.data }, { on := 1, ground := Ground.chain }, { on := 1, ground := Ground.guard }], guard := some (1, true) }) rfl (fun KK hKK => ?_) AllReadyH.nil
  go_simp
  with_reducible refine ((CN _).out).mono ?_
  rintro e y2 ⟨rfl, kb⟩
  have hN := hH.trans (kb.mono hH.size)
  clear hH kb
  refine hKK.out _ _ hN (fun hH => ?_)
  clear hKK KK hN
  try simp only [Act.put, List.setIfInBounds_toArray, List.set_cons_zero, List.set_cons_succ]
  refine wpAnyH_ready (rs := [7]) (by kernel_rfl) (by simp) ?_
  refine AllReadyH.cons (o := { dst := some 16, op := Op.call { callee := Callee.value (Operand.func 13), args := #[Operand.tmp 15], argTypes := #[26] }, type := 31, pos := "law.go:49", after := #[{ on := 6, ground := Ground.data }, { on := 5, ground := Ground.chain }, { on := 1, ground := Ground.guard }], guard := some (1, true) }) rfl (fun KK hKK => ?_) AllReadyH.nil
  go_simp
  with_reducible refine ((CR _).out).mono ?_
  rintro e y3 ⟨rfl, kb⟩
  have hN := hH.trans (kb.mono hH.size)
  clear hH kb
  refine hKK.out _ _ hN (fun hH => ?_)
  clear hKK KK hN
  try simp only [Act.put, List.setIfInBounds_toArray, List.set_cons_zero, List.set_cons_succ]
  refine wpAnyH_take (i := 8) (oi := { dst := some 17, op := Op.binOp BinOp.eql 31 (Operand.tmp 14) (Operand.tmp 16) 31, type := 4, pos := "law.go:49", after := #[{ on := 5, ground := Ground.data }, { on := 7, ground := Ground.data }, { on := 1, ground := Ground.guard }], guard := some (1, true) }) (v := .bool true) rfl (by kernel_rfl) (by kernel_rfl) (by kernel_rfl) (fun _ _ _ h => h) (Or.inl ⟨by rfl, fun wx hS => ?_⟩) hH ?_
  · go_simp
  simp only [Act.put, List.setIfInBounds_toArray, List.set_cons_zero, List.set_cons_succ]
  refine wpAnyH_take (i := 9) (oi := { dst := some 18, op := Op.pick (Operand.tmp 10) (Operand.tmp 17) (Operand.const (Value.bool false)), type := 4, pos := "law.go:49", after := #[{ on := 1, ground := Ground.data }, { on := 8, ground := Ground.data }], guard := none }) (v := .bool true) rfl (by kernel_rfl) (by kernel_rfl) (by kernel_rfl) (fun _ _ _ h => h) (Or.inl ⟨by rfl, fun wx hS => ?_⟩) hH ?_
  · go_simp
  simp only [Act.put, List.setIfInBounds_toArray, List.set_cons_zero, List.set_cons_succ]
  refine wpAnyH_take (i := 10) (oi := { dst := some 19, op := Op.move (Operand.tmp 18), type := 4, pos := "law.go:49", after := #[{ on := 9, ground := Ground.data }, { on := 7, ground := Ground.chain }], guard := none }) (v := .bool true) rfl (by kernel_rfl) (by kernel_rfl) (by kernel_rfl) (fun _ _ _ h => h) (Or.inl ⟨by rfl, fun wx hS => ?_⟩) hH ?_
  · go_simp
  simp only [Act.put, List.setIfInBounds_toArray, List.set_cons_zero, List.set_cons_succ]
  refine wpAnyH_take (i := 11) (oi := { dst := some 20, op := Op.move (Operand.tmp 1), type := 9, pos := "law.go:49", after := #[{ on := 10, ground := Ground.guard }], guard := some (10, true) }) (v := .string (str s)) rfl (by kernel_rfl) (by kernel_rfl) (by kernel_rfl) (fun _ _ _ h => h) (Or.inl ⟨by rfl, fun wx hS => ?_⟩) hH ?_
  · go_simp
  simp only [Act.put, List.setIfInBounds_toArray, List.set_cons_zero, List.set_cons_succ]
  refine wpAnyH_take (i := 13) (oi := { dst := some 22, op := Op.move (Operand.tmp 1), type := 9, pos := "law.go:49", after := #[{ on := 10, ground := Ground.guard }], guard := some (10, true) }) (v := .string (str s)) rfl (by kernel_rfl) (by kernel_rfl) (by kernel_rfl) (fun _ _ _ h => h) (Or.inl ⟨by rfl, fun wx hS => ?_⟩) hH ?_
  · go_simp
  simp only [Act.put, List.setIfInBounds_toArray, List.set_cons_zero, List.set_cons_succ]
  refine wpAnyH_ready (rs := [12]) (by kernel_rfl) (by simp) ?_
  refine AllReadyH.cons (o := { dst := some 21, op := Op.call { callee := Callee.value (Operand.func 14), args := #[Operand.tmp 20], argTypes := #[9] }, type := 4, pos := "law.go:49", after := #[{ on := 11, ground := Ground.data }, { on := 10, ground := Ground.chain }, { on := 10, ground := Ground.guard }], guard := some (10, true) }) rfl (fun KK hKK => ?_) AllReadyH.nil
  go_simp
  with_reducible refine (isName_any s _).mono ?_
  rintro e y4 ⟨rfl, kb⟩
  have hN := hH.trans (kb.mono hH.size)
  clear hH kb
  refine hKK.out _ _ hN (fun hH => ?_)
  clear hKK KK hN
  try simp only [Act.put, List.setIfInBounds_toArray, List.set_cons_zero, List.set_cons_succ]
  refine wpAnyH_ready (rs := [14]) (by kernel_rfl) (by simp) ?_
  refine AllReadyH.cons (o := { dst := some 23, op := Op.call { callee := Callee.value (Operand.func 15), args := #[Operand.tmp 22], argTypes := #[9] }, type := 4, pos := "law.go:49", after := #[{ on := 13, ground := Ground.data }, { on := 12, ground := Ground.chain }, { on := 10, ground := Ground.guard }], guard := some (10, true) }) rfl (fun KK hKK => ?_) AllReadyH.nil
  go_simp
  with_reducible refine (refIsName_any s _).mono ?_
  rintro e y5 ⟨rfl, rfl⟩
  refine hKK.out _ _ hH (fun hH => ?_)
  clear hKK KK
  try simp only [Act.put, List.setIfInBounds_toArray, List.set_cons_zero, List.set_cons_succ]
  refine wpAnyH_take (i := 15) (oi := { dst := some 24, op := Op.binOp BinOp.eql 4 (Operand.tmp 21) (Operand.tmp 23) 4, type := 4, pos := "law.go:49", after := #[{ on := 12, ground := Ground.data }, { on := 14, ground := Ground.data }, { on := 10, ground := Ground.guard }], guard := some (10, true) }) (v := .bool true) rfl (by kernel_rfl) (by kernel_rfl) (by kernel_rfl) (fun _ _ _ h => h) (Or.inl ⟨by rfl, fun wx hS => ?_⟩) hH ?_
  · go_simp
  simp only [Act.put, List.setIfInBounds_toArray, List.set_cons_zero, List.set_cons_succ]
  refine wpAnyH_take (i := 16) (oi := { dst := some 25, op := Op.pick (Operand.tmp 19) (Operand.tmp 24) (Operand.const (Value.bool false)), type := 4, pos := "law.go:49", after := #[{ on := 10, ground := Ground.data }, { on := 15, ground := Ground.data }], guard := none }) (v := .bool true) rfl (by kernel_rfl) (by kernel_rfl) (by kernel_rfl) (fun _ _ _ h => h) (Or.inl ⟨by rfl, fun wx hS => ?_⟩) hH ?_
  · go_simp
  simp only [Act.put, List.setIfInBounds_toArray, List.set_cons_zero, List.set_cons_succ]
  refine wpAnyH_take (i := 17) (oi := { dst := some 4, op := Op.assign (Operand.tmp 25), type := 4, pos := "law.go:49", after := #[{ on := 16, ground := Ground.data }, { on := 14, ground := Ground.chain }, { on := 0, ground := Ground.phase }, { on := 1, ground := Ground.phase }, { on := 2, ground := Ground.phase }, { on := 3, ground := Ground.phase }, { on := 4, ground := Ground.phase }, { on := 5, ground := Ground.phase }, { on := 6, ground := Ground.phase }, { on := 7, ground := Ground.phase }, { on := 8, ground := Ground.phase }, { on := 9, ground := Ground.phase }, { on := 10, ground := Ground.phase }, { on := 11, ground := Ground.phase }, { on := 12, ground := Ground.phase }, { on := 13, ground := Ground.phase }, { on := 14, ground := Ground.phase }, { on := 15, ground := Ground.phase }, { on := 16, ground := Ground.phase }], guard := none }) (v := .bool true) rfl (by kernel_rfl) (by kernel_rfl) (by kernel_rfl) (fun _ _ _ h => h) (Or.inl ⟨by rfl, fun wx hS => ?_⟩) hH ?_
  · go_simp
  simp only [Act.put, List.setIfInBounds_toArray, List.set_cons_zero, List.set_cons_succ]
  refine wpAnyH_done (by kernel_rfl) ?_ _
  refine NoPanic.normal ?_
  go_wp2_with fail
  go_ret
  exact ⟨rfl, by rw [HG.out]; exact B3.out.trans (hH.mono (by rw [← HG.out]; exact B3.out.size))⟩
end Go.Proofs.Ytjgmhaajcglpmaa
