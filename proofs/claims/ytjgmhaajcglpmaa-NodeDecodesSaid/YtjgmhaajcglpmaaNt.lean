/- The law's nodes, made the program's. -/
import Derived.Test.YtjgmhaajcglpmaaNl
namespace Go.Proofs.Ytjgmhaajcglpmaa
open Go.RowKit

section
variable {w : World} {ops : Array Oper} {o : Oper} {a : Act} {K : Act → World → Prop} {Q : Exit → Act → World → Prop} {E : Prop}
theorem step_build_one (hw : Region.wanted o (yielded ops a.tmps) = true) (t ts : TypeId) (nt : NT t ts) (x : Operand) (ho : o.op = .buildSlice ts 1 #[(0, x)]) (cs : List Value) (hc : cs.length = 39) (hx : a.eval x = .agg cs.toArray)
    (h : K (a.put o.dst (.slice (some ⟨w.heap.size, 0, none⟩) 1 1)) (w.alloc (.cells cs.toArray t))) : if Region.wanted o (yielded ops a.tmps) = true then Oper.wp Try.prog o a w K Q else E := by
  rw [if_pos hw]
  have e : (#[((0 : Nat), x)].map fun (i, x) => (i, a.eval x)) = #[(0, .agg cs.toArray)] := by simp [hx]
  unfold Oper.wp execOp
  simp only [ho, Sem.run_bind, e, fill_one t ts nt cs hc, Result.andThen_ok]
  exact h
theorem yields_build {S : World → Prop} (hw : Region.wanted o (yielded ops a.tmps) = true) (t : TypeId) (x0 x1 x2 x3 x4 x5 x6 x7 : Operand) (ho : o.op = .build t #[(0, x0), (1, x1), (2, x2), (3, x3), (4, x4), (5, x5), (6, x6), (7, x7)]) (v0 v1 v2 v3 v4 v5 v6 v7 : Value)
    (h0 : a.eval x0 = v0) (h1 : a.eval x1 = v1) (h2 : a.eval x2 = v2) (h3 : a.eval x3 = v3) (h4 : a.eval x4 = v4) (h5 : a.eval x5 = v5) (h6 : a.eval x6 = v6) (h7 : a.eval x7 = v7) (v : Value)
    (hrun : ∀ w, (Instr.build t #[(0, v0), (1, v1), (2, v2), (3, v3), (4, v4), (5, v5), (6, v6), (7, v7)]).run Try.prog w = .ok v w) : YieldsIf Try.prog ops S o v a :=
  .inl ⟨hw, fun w _ => by
    have e : (#[((0 : Nat), x0), ((1 : Nat), x1), ((2 : Nat), x2), ((3 : Nat), x3), ((4 : Nat), x4), ((5 : Nat), x5), ((6 : Nat), x6), ((7 : Nat), x7)].map fun (p : Nat × Operand) => (p.1, a.eval p.2)) = #[(0, v0), (1, v1), (2, v2), (3, v3), (4, v4), (5, v5), (6, v6), (7, v7)] := by simp [h0, h1, h2, h3, h4, h5, h6, h7]
    unfold execOp
    simp only [ho, Sem.run_bind]
    rw [show (#[((0 : Nat), x0), ((1 : Nat), x1), ((2 : Nat), x2), ((3 : Nat), x3), ((4 : Nat), x4), ((5 : Nat), x5), ((6 : Nat), x6), ((7 : Nat), x7)].map fun ((i, x) : Nat × Operand) => (i, a.eval x)) = #[(0, v0), (1, v1), (2, v2), (3, v3), (4, v4), (5, v5), (6, v6), (7, v7)] from e, hrun]
    simp only [Result.andThen_ok, Sem.run_pure]⟩
end
theorem ownN.other {w w' : World} {base g : Nat} {t t' : TypeId} {v : Value} {L : List Nd} {cs : List Value} (h : ownN w base t v L) (hb : blockIs w g cs t') (ht : t ≠ t') (hg : w.grownBy w' v.ownBlock) : blockIs w' g cs t' := by
  obtain ⟨Q, -, h1, -⟩ := h
  unfold blockIs at hb ⊢
  rw [hg.block g (Array.getElem?_eq_some_iff.1 hb).1 (fun e => ?_)]
  · exact hb
  · rcases h1.2 with ⟨rfl, h0⟩ | ⟨g', cap, cur, rfl, hba, hh, -⟩
    · cases e
    · cases e
      rw [hb] at hh
      cases hh
      exact ht rfl
set_option maxRecDepth 100000 in
set_option maxHeartbeats 4000000 in
theorem to_any (a : Option Addr) (c : Nat) (L : List Nd) (w : World) (hl : L.length ≤ 100000) (hp : ∀ n ∈ L, n.parts.length * 32 ≤ 140737488355328) (h : rowN w a L) :
    Calls Try.prog 10 #[.slice a L.length c] w fun e w' => (∃ v, e = .returned v ∧ ownN w' w.heap.size 33 v L) ∧ Below w.heap.size w w' := by
  have H := Lib.hid h
  have HPB := Lib.hid hp
  clear h hp
  go_enter Try.func10, Try.ntmps10
  go_wp2_with fail
  go_loopw [4, 3] (fun i v wr => ∃ j : Nat, j ≤ L.length ∧ i = .int .i64 j ∧ Hid (ownN wr w.heap.size 33 v (L.take j)) ∧ Hid (Below w.heap.size w wr)) (fun i _ _ => L.length - (intOf i).toNat)
  case atStart => exact ⟨0, Nat.zero_le _, rfl, Lib.hid (ownN.nil _ _ _), Lib.hid (Below.refl _ _)⟩
  case round =>
    obtain ⟨j, hj, rfl, OR, BR⟩ := hrel
    have p0 : 0 ≤ (j : Int) := by omega
    by_cases hlt : j < L.length
    · have q0 : (j : Int) < (L.length : Int) := by omega
      obtain ⟨b, o, rfl, hn⟩ := H.out.at j hlt
      have HTK : Hid (L.take (j + 1) = L.take j ++ [L[j]]) := Lib.hid (List.take_succ_eq_append_getElem hlt)
      have HTL : Hid ((L.take j).length ≤ 1000000) := Lib.hid (by rw [List.length_take]; omega)
      have HPN := Lib.hid (HPB.out _ (List.getElem_mem hlt))
      generalize L[j] = n at *
      obtain ⟨pa, pc, wf, hid, hr⟩ := hn.form
      have HID : Hid (∀ w', Below w.heap.size w w' → idsIn w' (.slice pa n.parts.length pc) n.parts) := Lib.hid (fun w' hb => hid.below hb (Nat.le_refl _))
      have R1 := Lib.hid (range_below hr BR.out (Nat.le_refl _))
      have WF := Lib.hid wf
      clear hn wf hid hr
      have HCL := Lib.hid (n.cells_length (.slice pa n.parts.length pc) WF.out.tree)
      have HC1 := Lib.hid (cells_one n (.slice pa n.parts.length pc) rfl)
      have HZ := Lib.hid (zeroNd.cells_length (.slice none 0 0) rfl)
      have hz := zero_rn
      have HTL2 : Hid ((bvals n.tree).length = 32) := Lib.hid (by rw [bvals_length, WF.out.tree])
      generalize hcs : n.cells (.slice pa n.parts.length pc) = cs at *
      have HCS := Lib.hid hcs
      clear hcs
      generalize zeroNd.cells (.slice none 0 0) = zs at *
      go_wp2_with (first | (refine load_rn (by rfl) _ rfl b (o + j * 39) rfl cs R1.out HCL.out ?_) | (refine store_new 26 info_rn rfl _ _ rfl cs zs rfl rfl HCL.out HZ.out HC1.out ?_))
      intro w5 h1 h2
      have O5 := Lib.hid (OR.out.below h2.out)
      have B5 := Lib.hid (BR.out.trans (h2.out.mono BR.out.size))
      have hbk := h1.out
      rw [← HCS.out] at hbk
      have CL : Hid (∀ x, Below w.heap.size w x ∧ blockIs x wr.heap.size (n.cells (.slice pa n.parts.length pc)) 26 → x.cell? ⟨wr.heap.size, 0, none⟩ = some (.string (str n.name)) ∧ x.cell? ⟨wr.heap.size, 1, none⟩ = some (.int .i64 n.kind) ∧ x.cell? ⟨wr.heap.size, 2, none⟩ = some (.int .i64 n.mode) ∧ x.cell? ⟨wr.heap.size, 3, none⟩ = some (.int .i64 n.time) ∧ x.cell? ⟨wr.heap.size, 4, none⟩ = some (.int .i64 n.size) ∧ x.cell? ⟨wr.heap.size, 5, none⟩ = some (.string (str n.target)) ∧ x.cell? ⟨wr.heap.size, 6, none⟩ = some (.slice pa n.parts.length pc) ∧ x.rangeAt wr.heap.size 7 (bvals n.tree)) := Lib.hid (fun x hb => by
        have hb2 := hb.2
        obtain ⟨c0, c1, c2, c3, c4, c5, c6⟩ := nd_block hb2
        exact ⟨c0, c1, c2, c3, c4, c5, c6, nd_tree hb2⟩)
      have HBK := Lib.hid hbk
      clear h1 h2 hz R1 OR BR HC1 HZ HCL hbk
      generalize wr.heap.size = g at *
      go_upto_region 6 with fail
      have hB := below_drewN (Below.refl w5.heap.size w5) 1
      refine wp_region_noPanic ?_
      refine wp_region_held_drew (S := fun x => Below w.heap.size w x ∧ blockIs x g (n.cells (.slice pa n.parts.length pc)) 26) (by kernel_rfl) ⟨below_drewN B5.out 1, HBK.out⟩ (fun hH => ?_)
      change Below w5.heap.size w5 w5.drew at hB
      generalize w5.drew = y0 at *
      refine wpAnyH_take (i := 0) (oi := { dst := some 16, op := Op.move (Operand.tmp 3), type := 27, pos := "law.go:15", after := #[], guard := none }) (v := u3) rfl (by kernel_rfl) (by kernel_rfl) (by kernel_rfl) (fun _ _ _ h => h) (Or.inl ⟨by rfl, fun wx hS => ?_⟩) hH ?_
      · go_simp
      simp only [Act.put, List.setIfInBounds_toArray, List.set_cons_zero, List.set_cons_succ]
      refine wpAnyH_take (i := 1) (oi := { dst := some 17, op := Op.fieldAddr 26 (Operand.tmp 5) 0, type := 0, pos := "law.go:15", after := #[], guard := none }) (v := .pointer (some ⟨g, 0, none⟩)) rfl (by kernel_rfl) (by kernel_rfl) (by kernel_rfl) (fun _ _ _ h => h) (Or.inl ⟨by rfl, fun wx hS => ?_⟩) hH ?_
      · go_simp
      simp only [Act.put, List.setIfInBounds_toArray, List.set_cons_zero, List.set_cons_succ]
      refine wpAnyH_take (i := 2) (oi := { dst := some 18, op := Op.load 9 (Operand.tmp 17), type := 9, pos := "law.go:15", after := #[{ on := 1, ground := Ground.data }], guard := none }) (v := .string (str n.name)) rfl (by kernel_rfl) (by kernel_rfl) (by kernel_rfl) (fun _ _ _ h => h) (Or.inl ⟨by rfl, fun wx hS => ?_⟩) hH ?_
      · have c := (CL.out wx hS).1; go_simp
      simp only [Act.put, List.setIfInBounds_toArray, List.set_cons_zero, List.set_cons_succ]
      refine wpAnyH_take (i := 3) (oi := { dst := some 19, op := Op.fieldAddr 26 (Operand.tmp 5) 1, type := 0, pos := "law.go:15", after := #[], guard := none }) (v := .pointer (some ⟨g, 1, none⟩)) rfl (by kernel_rfl) (by kernel_rfl) (by kernel_rfl) (fun _ _ _ h => h) (Or.inl ⟨by rfl, fun wx hS => ?_⟩) hH ?_
      · go_simp
      simp only [Act.put, List.setIfInBounds_toArray, List.set_cons_zero, List.set_cons_succ]
      refine wpAnyH_take (i := 4) (oi := { dst := some 20, op := Op.load 3 (Operand.tmp 19), type := 3, pos := "law.go:15", after := #[{ on := 3, ground := Ground.data }], guard := none }) (v := .int .i64 n.kind) rfl (by kernel_rfl) (by kernel_rfl) (by kernel_rfl) (fun _ _ _ h => h) (Or.inl ⟨by rfl, fun wx hS => ?_⟩) hH ?_
      · have c := (CL.out wx hS).2.1; go_simp
      simp only [Act.put, List.setIfInBounds_toArray, List.set_cons_zero, List.set_cons_succ]
      refine wpAnyH_take (i := 5) (oi := { dst := some 21, op := Op.fieldAddr 26 (Operand.tmp 5) 2, type := 0, pos := "law.go:15", after := #[], guard := none }) (v := .pointer (some ⟨g, 2, none⟩)) rfl (by kernel_rfl) (by kernel_rfl) (by kernel_rfl) (fun _ _ _ h => h) (Or.inl ⟨by rfl, fun wx hS => ?_⟩) hH ?_
      · go_simp
      simp only [Act.put, List.setIfInBounds_toArray, List.set_cons_zero, List.set_cons_succ]
      refine wpAnyH_take (i := 6) (oi := { dst := some 22, op := Op.load 3 (Operand.tmp 21), type := 3, pos := "law.go:15", after := #[{ on := 5, ground := Ground.data }], guard := none }) (v := .int .i64 n.mode) rfl (by kernel_rfl) (by kernel_rfl) (by kernel_rfl) (fun _ _ _ h => h) (Or.inl ⟨by rfl, fun wx hS => ?_⟩) hH ?_
      · have c := (CL.out wx hS).2.2.1; go_simp
      simp only [Act.put, List.setIfInBounds_toArray, List.set_cons_zero, List.set_cons_succ]
      refine wpAnyH_take (i := 7) (oi := { dst := some 23, op := Op.fieldAddr 26 (Operand.tmp 5) 3, type := 0, pos := "law.go:15", after := #[], guard := none }) (v := .pointer (some ⟨g, 3, none⟩)) rfl (by kernel_rfl) (by kernel_rfl) (by kernel_rfl) (fun _ _ _ h => h) (Or.inl ⟨by rfl, fun wx hS => ?_⟩) hH ?_
      · go_simp
      simp only [Act.put, List.setIfInBounds_toArray, List.set_cons_zero, List.set_cons_succ]
      refine wpAnyH_take (i := 8) (oi := { dst := some 24, op := Op.load 3 (Operand.tmp 23), type := 3, pos := "law.go:15", after := #[{ on := 7, ground := Ground.data }], guard := none }) (v := .int .i64 n.time) rfl (by kernel_rfl) (by kernel_rfl) (by kernel_rfl) (fun _ _ _ h => h) (Or.inl ⟨by rfl, fun wx hS => ?_⟩) hH ?_
      · have c := (CL.out wx hS).2.2.2.1; go_simp
      simp only [Act.put, List.setIfInBounds_toArray, List.set_cons_zero, List.set_cons_succ]
      refine wpAnyH_take (i := 9) (oi := { dst := some 25, op := Op.fieldAddr 26 (Operand.tmp 5) 4, type := 0, pos := "law.go:15", after := #[], guard := none }) (v := .pointer (some ⟨g, 4, none⟩)) rfl (by kernel_rfl) (by kernel_rfl) (by kernel_rfl) (fun _ _ _ h => h) (Or.inl ⟨by rfl, fun wx hS => ?_⟩) hH ?_
      · go_simp
      simp only [Act.put, List.setIfInBounds_toArray, List.set_cons_zero, List.set_cons_succ]
      refine wpAnyH_take (i := 10) (oi := { dst := some 26, op := Op.load 3 (Operand.tmp 25), type := 3, pos := "law.go:15", after := #[{ on := 9, ground := Ground.data }], guard := none }) (v := .int .i64 n.size) rfl (by kernel_rfl) (by kernel_rfl) (by kernel_rfl) (fun _ _ _ h => h) (Or.inl ⟨by rfl, fun wx hS => ?_⟩) hH ?_
      · have c := (CL.out wx hS).2.2.2.2.1; go_simp
      simp only [Act.put, List.setIfInBounds_toArray, List.set_cons_zero, List.set_cons_succ]
      refine wpAnyH_take (i := 11) (oi := { dst := some 27, op := Op.fieldAddr 26 (Operand.tmp 5) 5, type := 0, pos := "law.go:15", after := #[], guard := none }) (v := .pointer (some ⟨g, 5, none⟩)) rfl (by kernel_rfl) (by kernel_rfl) (by kernel_rfl) (fun _ _ _ h => h) (Or.inl ⟨by rfl, fun wx hS => ?_⟩) hH ?_
      · go_simp
      simp only [Act.put, List.setIfInBounds_toArray, List.set_cons_zero, List.set_cons_succ]
      refine wpAnyH_take (i := 12) (oi := { dst := some 28, op := Op.load 9 (Operand.tmp 27), type := 9, pos := "law.go:15", after := #[{ on := 11, ground := Ground.data }], guard := none }) (v := .string (str n.target)) rfl (by kernel_rfl) (by kernel_rfl) (by kernel_rfl) (fun _ _ _ h => h) (Or.inl ⟨by rfl, fun wx hS => ?_⟩) hH ?_
      · have c := (CL.out wx hS).2.2.2.2.2.1; go_simp
      simp only [Act.put, List.setIfInBounds_toArray, List.set_cons_zero, List.set_cons_succ]
      refine wpAnyH_take (i := 14) (oi := { dst := some 30, op := Op.fieldAddr 26 (Operand.tmp 5) 6, type := 0, pos := "law.go:15", after := #[], guard := none }) (v := .pointer (some ⟨g, 6, none⟩)) rfl (by kernel_rfl) (by kernel_rfl) (by kernel_rfl) (fun _ _ _ h => h) (Or.inl ⟨by rfl, fun wx hS => ?_⟩) hH ?_
      · go_simp
      simp only [Act.put, List.setIfInBounds_toArray, List.set_cons_zero, List.set_cons_succ]
      refine wpAnyH_take (i := 15) (oi := { dst := some 31, op := Op.load 22 (Operand.tmp 30), type := 22, pos := "law.go:15", after := #[{ on := 14, ground := Ground.data }], guard := none }) (v := .slice pa n.parts.length pc) rfl (by kernel_rfl) (by kernel_rfl) (by kernel_rfl) (fun _ _ _ h => h) (Or.inl ⟨by rfl, fun wx hS => ?_⟩) hH ?_
      · have c := (CL.out wx hS).2.2.2.2.2.2.1; go_simp
      simp only [Act.put, List.setIfInBounds_toArray, List.set_cons_zero, List.set_cons_succ]
      refine wpAnyH_take (i := 17) (oi := { dst := some 33, op := Op.fieldAddr 26 (Operand.tmp 5) 7, type := 0, pos := "law.go:15", after := #[], guard := none }) (v := .pointer (some ⟨g, 7, none⟩)) rfl (by kernel_rfl) (by kernel_rfl) (by kernel_rfl) (fun _ _ _ h => h) (Or.inl ⟨by rfl, fun wx hS => ?_⟩) hH ?_
      · go_simp
      simp only [Act.put, List.setIfInBounds_toArray, List.set_cons_zero, List.set_cons_succ]
      refine wpAnyH_take (i := 18) (oi := { dst := some 34, op := Op.load 24 (Operand.tmp 33), type := 24, pos := "law.go:15", after := #[{ on := 17, ground := Ground.data }], guard := none }) (v := .agg (bvals n.tree).toArray) rfl (by kernel_rfl) (by kernel_rfl) (by kernel_rfl) (fun _ _ _ h => h) (yieldsIf_load_mid (by rfl) 24 _ rfl (g) 7 rfl (bvals n.tree) _ (fun wx hS => (CL.out wx hS).2.2.2.2.2.2.2) Try.underlying24 rfl (by rw [HTL2.out]; kernel_rfl)) hH ?_
      simp only [Act.put, List.setIfInBounds_toArray, List.set_cons_zero, List.set_cons_succ]
      refine wpAnyH_ready (rs := [13]) (by kernel_rfl) (by simp) ?_
      refine AllReadyH.cons (o := { dst := some 29, op := Op.buildSlice 22 0 #[], type := 22, pos := "law.go:15", after := #[], guard := none }) rfl (fun KK hKK => ?_) AllReadyH.nil
      have kb := alloc_below y0 (.cells #[] 24 (0, 0))
      have q_ga : (y0.alloc (.cells #[] 24 (0, 0))).ownsRow w5.heap.size 24 32 (.slice (some ⟨y0.heap.size, 0, none⟩) 0 0) ([] : List (List UInt8)).length (idcells []) := World.ownsRow_lit y0 #[] 0 hB.size (by decide) (by simp)
      have hN := And.intro (hH.1.trans (kb.mono hH.1.size)) (hH.2.below kb hH.2.lt)
      replace hB := hB.trans (kb.mono hB.size)
      clear hH kb
      go_simp
      refine hKK.out _ _ hN (fun hH => ?_)
      clear hKK KK hN
      try simp only [Act.put, List.setIfInBounds_toArray, List.set_cons_zero, List.set_cons_succ]
      generalize y0.alloc (.cells #[] 24 (0, 0)) = y1 at *
      generalize y0.heap.size = ga at *
      refine wpAnyH_ready (rs := [16]) (by kernel_rfl) (by simp) ?_
      refine AllReadyH.cons (o := { dst := some 32, op := Op.call { callee := Callee.builtin Builtin.append, args := #[Operand.tmp 29, Operand.tmp 31], argTypes := #[22, 22] }, type := 22, pos := "law.go:15", after := #[{ on := 13, ground := Ground.data }, { on := 15, ground := Ground.data }], guard := none }) rfl (fun KK hKK => ?_) AllReadyH.nil
      refine step_append_ids (by rfl) _ _ rfl w5.heap.size (.slice (some ⟨ga, 0, none⟩) 0 0) [] n.parts rfl q_ga (by simp) (.slice pa n.parts.length pc) rfl (HID.out y1 hH.1) (by have := HPN.out; simp; omega) hB.size ?_
      intro v1 y2 r1 _ b2
      have r1 := r1.out
      rw [List.nil_append] at r1
      obtain ⟨i1, i2, i3⟩ := own_ids r1 WF.out.part w.heap.size
      obtain ⟨a1, c1, rfl⟩ := i1.form
      have hN := And.intro (hH.1.trans (b2.out.mono B5.out.size)) (hH.2.below (b2.out.mono (by omega)) HBK.out.lt)
      replace hB := hB.trans b2.out
      clear hH b2 q_ga
      refine hKK.out _ _ hN (fun hH => ?_)
      clear hKK KK hN
      try simp only [Act.put, List.setIfInBounds_toArray, List.set_cons_zero, List.set_cons_succ]
      have BN := build_N n (.slice a1 n.parts.length c1) rfl WF.out.tree
      have HCL2 := Lib.hid (n.cells_length (.slice a1 n.parts.length c1) WF.out.tree)
      refine wpAnyH_take (i := 19) (oi := { dst := some 35, op := Op.build 33 #[(0, Operand.tmp 18), (1, Operand.tmp 20), (2, Operand.tmp 22), (3, Operand.tmp 24), (4, Operand.tmp 26), (5, Operand.tmp 28), (6, Operand.tmp 32), (7, Operand.tmp 34)], type := 33, pos := "law.go:15", after := #[{ on := 2, ground := Ground.data }, { on := 4, ground := Ground.data }, { on := 6, ground := Ground.data }, { on := 8, ground := Ground.data }, { on := 10, ground := Ground.data }, { on := 12, ground := Ground.data }, { on := 16, ground := Ground.data }, { on := 18, ground := Ground.data }], guard := none }) (v := .agg (n.cells (.slice a1 n.parts.length c1)).toArray) rfl (by kernel_rfl) (by kernel_rfl) (by kernel_rfl) (fun _ _ _ h => h) (yields_build (by rfl) 33 _ _ _ _ _ _ _ _ rfl (.string (str n.name)) (.int .i64 n.kind) (.int .i64 n.mode) (.int .i64 n.time) (.int .i64 n.size) (.string (str n.target)) (.slice a1 n.parts.length c1) (.agg (bvals n.tree).toArray) rfl rfl rfl rfl rfl rfl rfl rfl _ BN) hH ?_
      simp only [Act.put, List.setIfInBounds_toArray, List.set_cons_zero, List.set_cons_succ]
      refine wpAnyH_ready (rs := [20]) (by kernel_rfl) (by simp) ?_
      refine AllReadyH.cons (o := { dst := some 36, op := Op.buildSlice 27 1 #[(0, Operand.tmp 35)], type := 27, pos := "law.go:15", after := #[{ on := 19, ground := Ground.data }], guard := none }) rfl (fun KK hKK => ?_) AllReadyH.nil
      have kb := alloc_below y2 (.cells (n.cells (.slice a1 n.parts.length c1)).toArray 33 (0, 0))
      have q_gb := blockIs.new y2 (n.cells (.slice a1 n.parts.length c1)) 33
      refine step_build_one (by rfl) 33 27 ntN _ rfl (n.cells (.slice a1 n.parts.length c1)) HCL2.out rfl ?_
      replace i1 := i1.below kb (Nat.le_refl _)
      replace i2 := i2.below kb
      have hN := And.intro (hH.1.trans (kb.mono hH.1.size)) (hH.2.below kb hH.2.lt)
      replace hB := hB.trans (kb.mono hB.size)
      clear hH kb
      refine hKK.out _ _ hN (fun hH => ?_)
      clear hKK KK hN
      try simp only [Act.put, List.setIfInBounds_toArray, List.set_cons_zero, List.set_cons_succ]
      change blockIs (y2.alloc (.cells (n.cells (.slice a1 n.parts.length c1)).toArray 33 (0, 0))) _ _ _ at q_gb
      generalize y2.alloc (.cells (n.cells (.slice a1 n.parts.length c1)).toArray 33 (0, 0)) = y3 at *
      generalize y2.heap.size = gb at *
      refine wpAnyH_ready (rs := [21]) (by kernel_rfl) (by simp) ?_
      refine AllReadyH.cons (o := { dst := some 37, op := Op.call { callee := Callee.builtin Builtin.append, args := #[Operand.tmp 16, Operand.tmp 36], argTypes := #[27, 27] }, type := 27, pos := "law.go:15", after := #[{ on := 0, ground := Ground.data }, { on := 20, ground := Ground.data }, { on := 16, ground := Ground.chain }], guard := none }) rfl (fun KK hKK => ?_) AllReadyH.nil
      have O6 := O5.out.below hB
      have B6 := hH.1
      refine step_append_nd (by rfl) 33 27 ntN _ _ rfl w.heap.size u3 (L.take j) rfl O6 gb 1 n (.slice a1 n.parts.length c1) rfl q_gb WF.out i1 i2 rfl HTL.out B6.size ?_
      intro v' w7 o7 g7 b7
      have hN := And.intro (B6.trans (b7.out.mono (Nat.le_refl _))) (O6.other hH.2 (by decide) g7.out)
      have o7 := o7.out
      rw [← HTK.out] at o7
      have O7 := Lib.hid o7
      have B7 := Lib.hid (B6.trans (b7.out.mono (Nat.le_refl _)))
      clear o7 b7 O6 B6 q_gb i1 i2 i3 r1 hH g7
      refine hKK.out _ _ hN (fun hH => ?_)
      clear hKK KK hN
      try simp only [Act.put, List.setIfInBounds_toArray, List.set_cons_zero, List.set_cons_succ]
      refine wpAnyH_take (i := 22) (oi := { dst := some 3, op := Op.assign (Operand.tmp 37), type := 27, pos := "law.go:15", after := #[{ on := 21, ground := Ground.data }, { on := 21, ground := Ground.chain }, { on := 0, ground := Ground.phase }, { on := 1, ground := Ground.phase }, { on := 2, ground := Ground.phase }, { on := 3, ground := Ground.phase }, { on := 4, ground := Ground.phase }, { on := 5, ground := Ground.phase }, { on := 6, ground := Ground.phase }, { on := 7, ground := Ground.phase }, { on := 8, ground := Ground.phase }, { on := 9, ground := Ground.phase }, { on := 10, ground := Ground.phase }, { on := 11, ground := Ground.phase }, { on := 12, ground := Ground.phase }, { on := 13, ground := Ground.phase }, { on := 14, ground := Ground.phase }, { on := 15, ground := Ground.phase }, { on := 16, ground := Ground.phase }, { on := 17, ground := Ground.phase }, { on := 18, ground := Ground.phase }, { on := 19, ground := Ground.phase }, { on := 20, ground := Ground.phase }, { on := 21, ground := Ground.phase }], guard := none }) (v := v') rfl (by kernel_rfl) (by kernel_rfl) (by kernel_rfl) (fun _ _ _ h => h) (Or.inl ⟨by rfl, fun wx hS => ?_⟩) hH ?_
      · go_simp
      simp only [Act.put, List.setIfInBounds_toArray, List.set_cons_zero, List.set_cons_succ]
      refine wpAnyH_done (by kernel_rfl) ?_ _
      refine NoPanic.normal ?_
      clear BN HCL2 hH CL HBK O5 B5 HID hB
      go_wp2_with fail
      go_roundw
      case rel => exact ⟨j + 1, by omega, by go_num, O7, B7⟩
      case measure => simp [intOf]; omega
    · obtain rfl : j = L.length := by omega
      rw [List.take_length] at OR
      have q0 : ¬ ((L.length : Int) < (L.length : Int)) := by omega
      go_wp2_with fail
      go_ret
      exact ⟨⟨_, rfl, OR.out⟩, BR.out⟩
def linkL : Nd := ⟨[108], 2, 1, 2, 0, [116], [], noughts⟩
theorem link_wf : linkL.Wf := ⟨rfl, by decide, by decide, by decide, by decide, by decide, by decide, fun p hp => absurd hp List.not_mem_nil⟩
theorem link_bytes : encBytes [linkL] = [72, 89, 110, 1, 1, 108, 2, 1, 2, 1, 116] := by
  have e1 : numBytes 1 = [1] := numBytes_small (by decide)
  have e2 : numBytes 2 = [2] := numBytes_small (by decide)
  simp [encBytes, ndBytes, linkL, e1, e2]
theorem link_check : checkL [linkL] = 0 := by decide
theorem link_build (w : World) : (Instr.build 33 #[(0, .string ⟨#[108]⟩), (1, .int .i64 2), (2, .int .i64 1), (3, .int .i64 2), (5, .string ⟨#[116]⟩)]).run Try.prog w = .ok (.agg (linkL.cells (.slice none 0 0)).toArray) w := by kernel_rfl
theorem build_5 {w : World} {ops : Array Oper} {rest : List Oper} {o : Oper} {a : Act} {Q : Exit → Act → World → Prop} (hw : Region.wanted o (yielded ops a.tmps) = true) (ho : o.op = .build 33 #[(0, .const (.string ⟨#[108]⟩)), (1, .const (.int .i64 2)), (2, .const (.int .i64 1)), (3, .const (.int .i64 2)), (5, .const (.string ⟨#[116]⟩))])
    (h : wpList Try.prog ops Q rest (a.put o.dst (.agg (linkL.cells (.slice none 0 0)).toArray)) w) : wpList Try.prog ops Q (o :: rest) a w := by
  refine BigFrame.wpList_want hw fun K hK => ?_
  unfold Oper.wp execOp
  simp only [ho, Sem.run_bind]
  rw [show (#[((0 : Nat), Operand.const (.string ⟨#[108]⟩)), ((1 : Nat), Operand.const (.int .i64 2)), ((2 : Nat), Operand.const (.int .i64 1)), ((3 : Nat), Operand.const (.int .i64 2)), ((5 : Nat), Operand.const (.string ⟨#[116]⟩))].map fun ((i, x) : Nat × Operand) => (i, a.eval x)) = #[(0, .string ⟨#[108]⟩), (1, .int .i64 2), (2, .int .i64 1), (3, .int .i64 2), (5, .string ⟨#[116]⟩)] by simp [Act.eval], link_build w]
  simp only [Result.andThen_ok, Sem.run_pure]
  exact hK _ _ h
set_option maxRecDepth 100000 in
set_option maxHeartbeats 4000000 in
theorem nodes_any (w : World) : Calls Try.prog 11 #[] w fun e w' => e = .returned (.bool true) ∧ Below w.heap.size w w' := by
  have HCL := Lib.hid (linkL.cells_length (.slice none 0 0) rfl)
  have A6 := Lib.hid (alloc_below w (.cells (linkL.cells (.slice none 0 0)).toArray 33 (0, 0)))
  have HB := blockIs.new w (linkL.cells (.slice none 0 0)) 33
  have HR : Hid (rowN (w.alloc (.cells (linkL.cells (.slice none 0 0)).toArray 33 (0, 0))) (some ⟨w.heap.size, 0, none⟩) [linkL]) := Lib.hid (Or.inr ⟨w.heap.size, 0, rfl, fun i hi => by
    obtain rfl : i = 0 := by simp at hi; exact hi
    exact ⟨link_wf, .slice none 0 0, ⟨none, 0, rfl, Nat.le_refl _, by decide, fun _ => rfl, fun p hp => absurd hp List.not_mem_nil, Or.inl rfl⟩, nd_all HB⟩⟩)
  clear HB
  have EN := Lib.hid (encode_any (some ⟨w.heap.size, 0, none⟩) 1 [linkL] (w.alloc (.cells (linkL.cells (.slice none 0 0)).toArray 33 (0, 0))) (by decide) (by decide) HR.out)
  rw [link_check, link_bytes, show [linkL].length = 1 from rfl] at EN
  go_enter Try.func11, Try.ntmps11
  go_wp2_with (first | (refine build_5 (by rfl) rfl ?_) | (refine build_one (by rfl) 33 27 ntN _ rfl (linkL.cells (.slice none 0 0)) HCL.out rfl ?_; refine Hid.out ?_))
  refine Lib.hid ?_
  go_wp2_with fail
  with_reducible refine EN.out.mono ?_
  rintro e w2 ⟨he, b2⟩
  have B2 := Lib.hid (A6.out.trans (b2.mono A6.out.size))
  obtain ⟨-, v, rfl, hr⟩ := he.resolve_right (fun h => h.1 rfl)
  obtain ⟨a, c, rfl, -, hin, -⟩ := hr.bytes
  have cv : (convert 40 9 (.slice a 11 c)).run Try.prog w2 = .ok (.string (str [72, 89, 110, 1, 1, 108, 2, 1, 2, 1, 116])) w2 := conv_string w2 a [72, 89, 110, 1, 1, 108, 2, 1, 2, 1, 116] c hin
  have hq : ((str [72, 89, 110, 1, 1, 108, 2, 1, 2, 1, 116]).toList == [72, 89, 110, 1, 1, 108, 2, 1, 2, 1, 116]) = true := by rw [str_is]; rfl
  clear hr hin he b2 EN A6 HR
  go_wp2_with fail
  go_ret
  exact ⟨rfl, B2.out⟩
end Go.Proofs.Ytjgmhaajcglpmaa
