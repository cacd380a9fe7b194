/- The document's Same: of one list twice. -/
import Derived.Test.YtjgmhaajcglpmaaNc
namespace Go.Proofs.Ytjgmhaajcglpmaa
open Go.RowKit

section
variable {w : World} {ops : Array Oper} {rest : List Oper} {o : Oper} {a : Act} {K : Act → World → Prop} {Q : Exit → Act → World → Prop} {E : Prop}
theorem step_store (hw : Region.wanted o (yielded ops a.tmps) = true) (t : TypeId) (x y : Operand) (ho : o.op = .store t x y) (g : Nat) (cs zs : List Value) (hx : a.eval x = .pointer (some ⟨g, 0, none⟩)) (hy : a.eval y = .agg cs.toArray)
    (hg : blockIs w g zs t) (hi : (Try.prog.info? t).map (·.size) = some 39) (hc : cs.length = 39) (hz : zs.length = 39) (h1 : ∀ v ∈ cs, v.oneCell' = true)
    (h : ∀ w', blockIs w' g cs t → But g w w' → w'.heap.size = w.heap.size → K (a.put o.dst undef) w') : if Region.wanted o (yielded ops a.tmps) = true then Oper.wp Try.prog o a w K Q else E := by
  rw [if_pos hw]
  unfold Oper.wp execOp
  simp only [ho, hx, hy, Instr.storeAt, Instr.sureAddr, Sem.run_bind, Sem.run_pure, Result.andThen_ok, run_storeVar_block w g 0 t zs cs t hg (by rw [hc]; exact hi) (by omega) h1]
  have e : blockIs (w.setRow g (splice zs 0 cs).toArray) g (splice zs 0 cs) t := show _ = _ by simpa using setRow_heap w g _ _ t _ hg
  have es := splice_all zs cs (by omega)
  rw [es] at e ⊢
  exact h _ e ⟨rfl, rfl, rfl, by simp [World.setRow], fun k _ hk => setRow_other w g k _ hk⟩ (by
      show (w.setRow g _).heap.size = _
      simp)
theorem neq_ids (l m : List UInt8) (hl : l.length = 32) (hm : m.length = 32) (w : World) : (binOp .neq 24 (.agg (bvals l).toArray) (.agg (bvals m).toArray)).run Try.prog w = .ok (.bool (!(l == m))) w := by
  rw [run_neq_struct, eq_ids l m hl hm]
  rfl
theorem neq_id_op (hw : Region.wanted o (yielded ops a.tmps) = true) (x y : Operand) (ho : o.op = .binOp .neq 24 x y 24)
    (l m : List UInt8) (hl : l.length = 32) (hm : m.length = 32) (hx : a.eval x = .agg (bvals l).toArray) (hy : a.eval y = .agg (bvals m).toArray)
    (h : wpList Try.prog ops Q rest (a.put o.dst (.bool (!(l == m)))) w) : wpList Try.prog ops Q (o :: rest) a w := by
  refine BigFrame.wpList_want hw fun K hK => ?_
  unfold Oper.wp execOp
  simp only [ho, hx, hy, Sem.run_bind, neq_ids l m hl hm, run_eqGuard_agg _ _ _ _ _ _ _ egt_id, Result.andThen_ok, Sem.run_pure]
  exact hK _ _ h
theorem yields_neq {S : World → Prop} (hw : Region.wanted o (yielded ops a.tmps) = true) (x y : Operand) (ho : o.op = .binOp .neq 24 x y 24)
    (l m : List UInt8) (hl : l.length = 32) (hm : m.length = 32) (hx : a.eval x = .agg (bvals l).toArray) (hy : a.eval y = .agg (bvals m).toArray) : YieldsIf Try.prog ops S o (.bool (!(l == m))) a :=
  .inl ⟨hw, fun w _ => by
    unfold execOp
    simp only [ho, hx, hy, Sem.run_bind, neq_ids l m hl hm, run_eqGuard_agg _ _ _ _ _ _ _ egt_id, Result.andThen_ok, Sem.run_pure]⟩
theorem yields_same {S : World → Prop} (hw : Region.wanted o (yielded ops a.tmps) = true) (x y : Operand) (ho : o.op = .binOp .neq 24 x y 24)
    (l : List UInt8) (hl : l.length = 32) (hx : a.eval x = .agg (bvals l).toArray) (hy : a.eval y = .agg (bvals l).toArray) : YieldsIf Try.prog ops S o (.bool false) a := by
  have := yields_neq (S := S) hw x y ho l l hl hl hx hy
  rwa [show (!(l == l)) = false by simp] at this
end
set_option maxRecDepth 100000 in
set_option maxHeartbeats 4000000 in
theorem same_any (a a2 : Option Addr) (c c2 : Nat) (L : List Nd) (w : World) (hl : L.length ≤ 9223372036854775807) (h : rowN w a L) (h2 : rowN w a2 L) :
    Calls Try.prog 19 #[.slice a L.length c, .slice a2 L.length c2] w fun e w' => e = .returned (.bool true) ∧ Below w.heap.size w w' := by
  have H := Lib.hid h
  have H2 := Lib.hid h2
  clear h h2
  go_enter Try.func19, Try.ntmps19
  go_wp2_with fail
  go_loopw [5] (fun i wr => ∃ j : Nat, j ≤ L.length ∧ i = .int .i64 j ∧ Hid (Below w.heap.size w wr)) (fun i _ => L.length - (intOf i).toNat)
  case atStart => exact ⟨0, Nat.zero_le _, rfl, Lib.hid (Below.refl _ _)⟩
  case round =>
    obtain ⟨j, hj, rfl, BR⟩ := hrel
    have p0 : 0 ≤ (j : Int) := by omega
    by_cases hlt : j < L.length
    · have q0 : (j : Int) < (L.length : Int) := by omega
      obtain ⟨b, o, rfl, hn⟩ := (H.out.below BR.out (Nat.le_refl _)).at j hlt
      obtain ⟨b2, o2, rfl, hn2⟩ := (H2.out.below BR.out (Nat.le_refl _)).at j hlt
      generalize L[j] = n at *
      obtain ⟨pa, pc, wf, hid, hr⟩ := hn.form
      obtain ⟨pa2, pc2, -, hid2, hr2⟩ := hn2.form
      have WF := Lib.hid wf
      have R1 := Lib.hid hr
      have R2 := Lib.hid hr2
      have I1 := Lib.hid hid
      have I2 := Lib.hid hid2
      clear hn hn2 wf hid hr hid2 hr2
      have L1 := Lib.hid (n.cells_length (.slice pa n.parts.length pc) WF.out.tree)
      have L2 := Lib.hid (n.cells_length (.slice pa2 n.parts.length pc2) WF.out.tree)
      have O1 := Lib.hid (cells_one n (.slice pa n.parts.length pc) rfl)
      have O2 := Lib.hid (cells_one n (.slice pa2 n.parts.length pc2) rfl)
      have HZ := Lib.hid (zeroNd.cells_length (.slice none 0 0) rfl)
      have hz := zero_rn
      generalize hc1 : n.cells (.slice pa n.parts.length pc) = cs1 at *
      generalize hc2 : n.cells (.slice pa2 n.parts.length pc2) = cs2 at *
      have HC1 := Lib.hid hc1
      have HC2 := Lib.hid hc2
      clear hc1 hc2
      generalize zeroNd.cells (.slice none 0 0) = zs at *
      go_upto_region 6 with fail
      refine wp_region_noPanic ?_
      refine wp_region_held_drew (S := fun x => Below wr.heap.size wr x) (by kernel_rfl) (below_drewN (Below.refl wr.heap.size wr) 1) (fun hH => ?_)
      generalize wr.drew = y0 at *
      refine wpAnyH_take (i := 0) (oi := { dst := some 20, op := Op.move (Operand.tmp 0), type := 29, pos := "ref.go:152", after := #[], guard := none }) (v := .slice (some ⟨b, o, none⟩) L.length c) rfl (by kernel_rfl) (by kernel_rfl) (by kernel_rfl) (fun _ _ _ h => h) (Or.inl ⟨by rfl, fun wx hS => ?_⟩) hH ?_
      · go_simp
      simp only [Act.put, List.setIfInBounds_toArray, List.set_cons_zero, List.set_cons_succ]
      refine wpAnyH_take (i := 1) (oi := { dst := some 21, op := Op.move (Operand.tmp 5), type := 3, pos := "ref.go:152", after := #[], guard := none }) (v := .int .i64 (j : Int)) rfl (by kernel_rfl) (by kernel_rfl) (by kernel_rfl) (fun _ _ _ h => h) (Or.inl ⟨by rfl, fun wx hS => ?_⟩) hH ?_
      · go_simp
      simp only [Act.put, List.setIfInBounds_toArray, List.set_cons_zero, List.set_cons_succ]
      refine wpAnyH_take (i := 2) (oi := { dst := some 22, op := Op.indexAddr 29 (Operand.tmp 20) (Operand.tmp 21), type := 0, pos := "ref.go:152", after := #[{ on := 0, ground := Ground.data }, { on := 1, ground := Ground.data }], guard := none }) (v := .pointer (some ⟨b, o + j * 39, none⟩)) rfl (by kernel_rfl) (by kernel_rfl) (by kernel_rfl) (fun _ _ _ h => h) (Or.inl ⟨by rfl, fun wx hS => ?_⟩) hH ?_
      · go_simp
      simp only [Act.put, List.setIfInBounds_toArray, List.set_cons_zero, List.set_cons_succ]
      refine wpAnyH_take (i := 3) (oi := { dst := some 23, op := Op.load 26 (Operand.tmp 22), type := 26, pos := "ref.go:152", after := #[{ on := 2, ground := Ground.data }], guard := none }) (v := .agg cs1.toArray) rfl (by kernel_rfl) (by kernel_rfl) (by kernel_rfl) (fun _ _ _ h => h) (yieldsIf_load_mid (by rfl) 26 _ rfl (b) (o + j * 39) rfl cs1 _ (fun wx hS => range_below R1.out hS (Nat.le_refl _)) Try.underlying26 rfl (by rw [L1.out]; kernel_rfl)) hH ?_
      simp only [Act.put, List.setIfInBounds_toArray, List.set_cons_zero, List.set_cons_succ]
      refine wpAnyH_take (i := 4) (oi := { dst := some 24, op := Op.move (Operand.tmp 1), type := 29, pos := "ref.go:152", after := #[{ on := 10, ground := Ground.gcOnly Departure.lateStores }], guard := none }) (v := .slice (some ⟨b2, o2, none⟩) L.length c2) rfl (by kernel_rfl) (by kernel_rfl) (by kernel_rfl) (fun _ _ _ h => h) (Or.inl ⟨by rfl, fun wx hS => ?_⟩) hH ?_
      · go_simp
      simp only [Act.put, List.setIfInBounds_toArray, List.set_cons_zero, List.set_cons_succ]
      refine wpAnyH_take (i := 5) (oi := { dst := some 25, op := Op.move (Operand.tmp 5), type := 3, pos := "ref.go:152", after := #[{ on := 10, ground := Ground.gcOnly Departure.lateStores }], guard := none }) (v := .int .i64 (j : Int)) rfl (by kernel_rfl) (by kernel_rfl) (by kernel_rfl) (fun _ _ _ h => h) (Or.inl ⟨by rfl, fun wx hS => ?_⟩) hH ?_
      · go_simp
      simp only [Act.put, List.setIfInBounds_toArray, List.set_cons_zero, List.set_cons_succ]
      refine wpAnyH_take (i := 6) (oi := { dst := some 26, op := Op.indexAddr 29 (Operand.tmp 24) (Operand.tmp 25), type := 0, pos := "ref.go:152", after := #[{ on := 4, ground := Ground.data }, { on := 5, ground := Ground.data }, { on := 10, ground := Ground.gcOnly Departure.lateStores }], guard := none }) (v := .pointer (some ⟨b2, o2 + j * 39, none⟩)) rfl (by kernel_rfl) (by kernel_rfl) (by kernel_rfl) (fun _ _ _ h => h) (Or.inl ⟨by rfl, fun wx hS => ?_⟩) hH ?_
      · go_simp
      simp only [Act.put, List.setIfInBounds_toArray, List.set_cons_zero, List.set_cons_succ]
      refine wpAnyH_take (i := 7) (oi := { dst := some 27, op := Op.load 26 (Operand.tmp 26), type := 26, pos := "ref.go:152", after := #[{ on := 6, ground := Ground.data }, { on := 10, ground := Ground.gcOnly Departure.lateStores }], guard := none }) (v := .agg cs2.toArray) rfl (by kernel_rfl) (by kernel_rfl) (by kernel_rfl) (fun _ _ _ h => h) (yieldsIf_load_mid (by rfl) 26 _ rfl (b2) (o2 + j * 39) rfl cs2 _ (fun wx hS => range_below R2.out hS (Nat.le_refl _)) Try.underlying26 rfl (by rw [L2.out]; kernel_rfl)) hH ?_
      simp only [Act.put, List.setIfInBounds_toArray, List.set_cons_zero, List.set_cons_succ]
      revert hH
      refine join2 (Q := ?Q6) (H := fun (ga gb : Nat) (x : World) => Below wr.heap.size wr x ∧ blockIs x ga cs1 26 ∧ blockIs x gb cs2 26 ∧ wr.heap.size ≤ ga ∧ wr.heap.size ≤ gb) (fun REST => ?main6) ?rest6
      case main6 =>
        intro hH
        refine wpAnyH_ready (rs := [8, 9]) (by kernel_rfl) (by simp) ?_
        refine AllReadyH.cons (o := { dst := some 6, op := Op.alloc 26, type := 0, pos := "ref.go:152", after := #[], guard := none }) rfl (fun KK hKK => ?_) (AllReadyH.cons (o := { dst := some 7, op := Op.alloc 26, type := 0, pos := "ref.go:152", after := #[], guard := none }) rfl (fun KK hKK => ?_) AllReadyH.nil)
        · have kb := alloc_below y0 (.cells zs.toArray 26 (0, 0))
          have q_ga := And.intro (blockIs.new y0 zs 26) hH.size
          have hN := hH.trans (kb.mono hH.size)
          clear hH kb
          go_simp
          refine hKK.out _ _ hN (fun hH => ?_)
          clear hKK KK hN
          try simp only [Act.put, List.setIfInBounds_toArray, List.set_cons_zero, List.set_cons_succ]
          generalize y0.alloc (.cells zs.toArray 26 (0, 0)) = y1 at *
          generalize hq : y0.heap.size = ga at *
          clear hq
          have lt_ga := q_ga.1.lt
          refine wpAnyH_ready (rs := [9]) (by kernel_rfl) (by simp) ?_
          refine AllReadyH.cons (o := { dst := some 7, op := Op.alloc 26, type := 0, pos := "ref.go:152", after := #[], guard := none }) rfl (fun KK hKK => ?_) AllReadyH.nil
          have hne : ga ≠ y1.heap.size := Nat.ne_of_lt lt_ga
          have kb := alloc_below y1 (.cells zs.toArray 26 (0, 0))
          have q_gb := And.intro (blockIs.new y1 zs 26) hH.size
          replace q_ga := And.intro (q_ga.1.alloc (.cells zs.toArray 26 (0, 0))) q_ga.2
          have hN := hH.trans (kb.mono hH.size)
          clear hH kb
          go_simp
          refine hKK.out _ _ hN (fun hH => ?_)
          clear hKK KK hN
          try simp only [Act.put, List.setIfInBounds_toArray, List.set_cons_zero, List.set_cons_succ]
          generalize y1.alloc (.cells zs.toArray 26 (0, 0)) = y2 at *
          generalize hq : y1.heap.size = gb at *
          clear hq
          refine wpAnyH_ready (rs := [10]) (by kernel_rfl) (by simp) ?_
          refine AllReadyH.cons (o := { dst := none, op := Op.store 26 (Operand.tmp 6) (Operand.tmp 23), type := 0, pos := "ref.go:152", after := #[{ on := 8, ground := Ground.data }, { on := 3, ground := Ground.data }, { on := 0, ground := Ground.phase }, { on := 1, ground := Ground.phase }, { on := 2, ground := Ground.phase }, { on := 3, ground := Ground.phase }, { on := 4, ground := Ground.textOnly Departure.lateStores }, { on := 5, ground := Ground.textOnly Departure.lateStores }, { on := 6, ground := Ground.textOnly Departure.lateStores }, { on := 7, ground := Ground.textOnly Departure.lateStores }, { on := 8, ground := Ground.phase }, { on := 9, ground := Ground.phase }], guard := none }) rfl (fun KK hKK => ?_) AllReadyH.nil
          refine step_store (by rfl) 26 _ _ rfl ga cs1 zs rfl rfl q_ga.1 info_rn L1.out HZ.out O1.out ?_
          intro y3 k1 k2 k3
          have hN := hH.trans (k2.below (B := wr.heap.size) q_ga.2 hH.size)
          replace q_ga := And.intro k1 q_ga.2
          replace q_gb := And.intro (blockIs.but k2 q_gb.1 (Ne.symm hne)) q_gb.2
          clear hH k1 k2 k3
          refine hKK.out _ _ hN (fun hH => ?_)
          clear hKK KK hN
          try simp only [Act.put, List.setIfInBounds_toArray, List.set_cons_zero, List.set_cons_succ]
          refine wpAnyH_ready (rs := [11]) (by kernel_rfl) (by simp) ?_
          refine AllReadyH.cons (o := { dst := none, op := Op.store 26 (Operand.tmp 7) (Operand.tmp 27), type := 0, pos := "ref.go:152", after := #[{ on := 9, ground := Ground.data }, { on := 7, ground := Ground.data }, { on := 10, ground := Ground.chain }, { on := 0, ground := Ground.phase }, { on := 1, ground := Ground.phase }, { on := 2, ground := Ground.phase }, { on := 3, ground := Ground.phase }, { on := 4, ground := Ground.phase }, { on := 5, ground := Ground.phase }, { on := 6, ground := Ground.phase }, { on := 7, ground := Ground.phase }, { on := 8, ground := Ground.phase }, { on := 9, ground := Ground.phase }, { on := 10, ground := Ground.phase }], guard := none }) rfl (fun KK hKK => ?_) AllReadyH.nil
          refine step_store (by rfl) 26 _ _ rfl gb cs2 zs rfl rfl q_gb.1 info_rn L2.out HZ.out O2.out ?_
          intro y4 k1 k2 k3
          have hN := hH.trans (k2.below (B := wr.heap.size) q_gb.2 hH.size)
          replace q_gb := And.intro k1 q_gb.2
          replace q_ga := And.intro (blockIs.but k2 q_ga.1 hne) q_ga.2
          clear hH k1 k2 k3
          refine hKK.out _ _ hN (fun hH => ?_)
          clear hKK KK hN
          try simp only [Act.put, List.setIfInBounds_toArray, List.set_cons_zero, List.set_cons_succ]
          refine wpAnyH_listed (L2 := #[true, true, true, true, true, true, true, true, true, true, true, true]) (by kernel_rfl) ?_
          exact REST ga gb y4 ⟨hH, q_ga.1, q_gb.1, q_ga.2, q_gb.2⟩
        · have kb := alloc_below y0 (.cells zs.toArray 26 (0, 0))
          have q_gb := And.intro (blockIs.new y0 zs 26) hH.size
          have hN := hH.trans (kb.mono hH.size)
          clear hH kb
          go_simp
          refine hKK.out _ _ hN (fun hH => ?_)
          clear hKK KK hN
          try simp only [Act.put, List.setIfInBounds_toArray, List.set_cons_zero, List.set_cons_succ]
          generalize y0.alloc (.cells zs.toArray 26 (0, 0)) = y1 at *
          generalize hq : y0.heap.size = gb at *
          clear hq
          refine wpAnyH_ready (rs := [8]) (by kernel_rfl) (by simp) ?_
          refine AllReadyH.cons (o := { dst := some 6, op := Op.alloc 26, type := 0, pos := "ref.go:152", after := #[], guard := none }) rfl (fun KK hKK => ?_) AllReadyH.nil
          have hne : gb ≠ y1.heap.size := Nat.ne_of_lt q_gb.1.lt
          have kb := alloc_below y1 (.cells zs.toArray 26 (0, 0))
          have q_ga := And.intro (blockIs.new y1 zs 26) hH.size
          replace q_gb := And.intro (q_gb.1.alloc (.cells zs.toArray 26 (0, 0))) q_gb.2
          have hN := hH.trans (kb.mono hH.size)
          clear hH kb
          go_simp
          refine hKK.out _ _ hN (fun hH => ?_)
          clear hKK KK hN
          try simp only [Act.put, List.setIfInBounds_toArray, List.set_cons_zero, List.set_cons_succ]
          generalize y1.alloc (.cells zs.toArray 26 (0, 0)) = y2 at *
          generalize hq : y1.heap.size = ga at *
          clear hq
          refine wpAnyH_ready (rs := [10]) (by kernel_rfl) (by simp) ?_
          refine AllReadyH.cons (o := { dst := none, op := Op.store 26 (Operand.tmp 6) (Operand.tmp 23), type := 0, pos := "ref.go:152", after := #[{ on := 8, ground := Ground.data }, { on := 3, ground := Ground.data }, { on := 0, ground := Ground.phase }, { on := 1, ground := Ground.phase }, { on := 2, ground := Ground.phase }, { on := 3, ground := Ground.phase }, { on := 4, ground := Ground.textOnly Departure.lateStores }, { on := 5, ground := Ground.textOnly Departure.lateStores }, { on := 6, ground := Ground.textOnly Departure.lateStores }, { on := 7, ground := Ground.textOnly Departure.lateStores }, { on := 8, ground := Ground.phase }, { on := 9, ground := Ground.phase }], guard := none }) rfl (fun KK hKK => ?_) AllReadyH.nil
          refine step_store (by rfl) 26 _ _ rfl ga cs1 zs rfl rfl q_ga.1 info_rn L1.out HZ.out O1.out ?_
          intro y3 k1 k2 k3
          have hN := hH.trans (k2.below (B := wr.heap.size) q_ga.2 hH.size)
          replace q_ga := And.intro k1 q_ga.2
          replace q_gb := And.intro (blockIs.but k2 q_gb.1 hne) q_gb.2
          clear hH k1 k2 k3
          refine hKK.out _ _ hN (fun hH => ?_)
          clear hKK KK hN
          try simp only [Act.put, List.setIfInBounds_toArray, List.set_cons_zero, List.set_cons_succ]
          refine wpAnyH_ready (rs := [11]) (by kernel_rfl) (by simp) ?_
          refine AllReadyH.cons (o := { dst := none, op := Op.store 26 (Operand.tmp 7) (Operand.tmp 27), type := 0, pos := "ref.go:152", after := #[{ on := 9, ground := Ground.data }, { on := 7, ground := Ground.data }, { on := 10, ground := Ground.chain }, { on := 0, ground := Ground.phase }, { on := 1, ground := Ground.phase }, { on := 2, ground := Ground.phase }, { on := 3, ground := Ground.phase }, { on := 4, ground := Ground.phase }, { on := 5, ground := Ground.phase }, { on := 6, ground := Ground.phase }, { on := 7, ground := Ground.phase }, { on := 8, ground := Ground.phase }, { on := 9, ground := Ground.phase }, { on := 10, ground := Ground.phase }], guard := none }) rfl (fun KK hKK => ?_) AllReadyH.nil
          refine step_store (by rfl) 26 _ _ rfl gb cs2 zs rfl rfl q_gb.1 info_rn L2.out HZ.out O2.out ?_
          intro y4 k1 k2 k3
          have hN := hH.trans (k2.below (B := wr.heap.size) q_gb.2 hH.size)
          replace q_gb := And.intro k1 q_gb.2
          replace q_ga := And.intro (blockIs.but k2 q_ga.1 (Ne.symm hne)) q_ga.2
          clear hH k1 k2 k3
          refine hKK.out _ _ hN (fun hH => ?_)
          clear hKK KK hN
          try simp only [Act.put, List.setIfInBounds_toArray, List.set_cons_zero, List.set_cons_succ]
          refine wpAnyH_listed (L2 := #[true, true, true, true, true, true, true, true, true, true, true, true]) (by kernel_rfl) ?_
          exact REST ga gb y4 ⟨hH, q_ga.1, q_gb.1, q_ga.2, q_gb.2⟩
      case rest6 =>
        rintro ga gb x1 ⟨hH, qa, qb, ha, hb⟩
        refine wpAnyH_done (by kernel_rfl) ?_ _
        refine NoPanic.normal ?_
        have X1 := Lib.hid (BR.out.trans (hH.mono BR.out.size))
        have QA := Lib.hid qa
        have QB := Lib.hid qb
        have J1 := Lib.hid (I1.out.below hH (Nat.le_refl _))
        have J2 := Lib.hid (I2.out.below hH (Nat.le_refl _))
        rw [← HC1.out] at qa
        rw [← HC2.out] at qb
        have T1 := Lib.hid (nd_tree qa)
        have T2 := Lib.hid (nd_tree qb)
        have HT := Lib.hid WF.out.tree
        have HTL : Hid ((bvals n.tree).length = 32) := Lib.hid (by rw [bvals_length, WF.out.tree])
        obtain ⟨ca0, ca1, ca2, ca3, ca4, ca5, ca6⟩ := nd_block qa
        obtain ⟨cb0, cb1, cb2, cb3, cb4, cb5, cb6⟩ := nd_block qb
        clear hH qa qb ha hb R1 R2 BR hz I1 I2
        go_wp2_with (first | (refine load_id (by rfl) _ rfl ga 7 rfl (bvals n.tree) T1.out HTL.out ?_) | (refine load_id (by rfl) _ rfl gb 7 rfl (bvals n.tree) T2.out HTL.out ?_) | (refine neq_id_op (by rfl) _ _ rfl n.tree n.tree HT.out HT.out rfl rfl ?_; refine Hid.out ?_))
        refine Lib.hid ?_
        have hself : (n.tree == n.tree) = true := by simp
        go_wp2_with fail
        clear hself ca0 ca1 ca2 ca3 ca4 ca5 cb0 cb1 cb2 cb3 cb4 cb5 T1 T2 HT HTL
        have hpl : n.parts.length ≤ 9223372036854775807 := by
          obtain ⟨_, _, _, g1, g2, -⟩ := J1.out
          omega
        have HQA : Hid (ga < x1.heap.size ∧ gb < x1.heap.size) := Lib.hid ⟨QA.out.lt, QB.out.lt⟩
        go_loopw [8] (fun i wx => ∃ k : Nat, k ≤ n.parts.length ∧ i = .int .i64 k ∧ Hid (Below x1.heap.size x1 wx)) (fun i _ => n.parts.length - (intOf i).toNat)
        case atStart => exact ⟨0, Nat.zero_le _, rfl, Lib.hid (Below.refl _ _)⟩
        case round =>
          rename World => wx
          obtain ⟨k, hk, rfl, BX⟩ := hrel
          have p1 : 0 ≤ (k : Int) := by omega
          have da : wx.cell? ⟨ga, 6, none⟩ = some (.slice pa n.parts.length pc) := (BX.out.cell (p := ⟨ga, 6, none⟩) HQA.out.1).trans ca6
          have db : wx.cell? ⟨gb, 6, none⟩ = some (.slice pa2 n.parts.length pc2) := (BX.out.cell (p := ⟨gb, 6, none⟩) HQA.out.2).trans cb6
          by_cases hkl : k < n.parts.length
          · have q1 : (k : Int) < (n.parts.length : Int) := by omega
            obtain ⟨aa, cc, ee, -, -, -, h32, hv⟩ := J1.out.below BX.out (Nat.le_refl _)
            injection ee with e1 e2 e3
            subst e1 e3
            obtain ⟨aa2, cc2, ee2, -, -, -, -, hv2⟩ := J2.out.below BX.out (Nat.le_refl _)
            injection ee2 with e1 e2 e3
            subst e1 e3
            obtain ⟨sb, so, rfl, hs1⟩ := ids_at hv h32 k hkl
            obtain ⟨tb, tq, rfl, ht1⟩ := ids_at hv2 h32 k hkl
            have S1 := Lib.hid hs1
            have S2 := Lib.hid ht1
            have HP : Hid (n.parts[k].length = 32) := Lib.hid (h32 _ (List.getElem_mem hkl))
            have HPL : Hid ((bvals n.parts[k]).length = 32) := Lib.hid (by rw [bvals_length, HP.out])
            clear hv hv2 hs1 ht1 h32
            generalize n.parts[k] = p at *
            go_upto_region 12 with fail
            have hD := below_drewN (Below.refl wx.heap.size wx) 1
            refine wp_region_noPanic ?_
            refine wp_region_held_drew (S := fun x => Below wx.heap.size wx x) (by kernel_rfl) hD (fun hH => ?_)
            generalize wx.drew = z0 at *
            refine wpAnyH_take (i := 0) (oi := { dst := some 91, op := Op.fieldAddr 26 (Operand.tmp 6) 6, type := 0, pos := "ref.go:157", after := #[], guard := none }) (v := .pointer (some ⟨ga, 6, none⟩)) rfl (by kernel_rfl) (by kernel_rfl) (by kernel_rfl) (fun _ _ _ h => h) (Or.inl ⟨by rfl, fun wx hS => ?_⟩) hH ?_
            · go_simp
            simp only [Act.put, List.setIfInBounds_toArray, List.set_cons_zero, List.set_cons_succ]
            refine wpAnyH_take (i := 1) (oi := { dst := some 92, op := Op.load 22 (Operand.tmp 91), type := 22, pos := "ref.go:157", after := #[{ on := 0, ground := Ground.data }], guard := none }) (v := .slice (some ⟨sb, so, none⟩) n.parts.length pc) rfl (by kernel_rfl) (by kernel_rfl) (by kernel_rfl) (fun _ _ _ h => h) (Or.inl ⟨by rfl, fun wx hS => ?_⟩) hH ?_
            · have c := (hS.cell (p := ⟨ga, 6, none⟩) (block_lt_of_cell da)).trans da; go_simp
            simp only [Act.put, List.setIfInBounds_toArray, List.set_cons_zero, List.set_cons_succ]
            refine wpAnyH_take (i := 2) (oi := { dst := some 93, op := Op.move (Operand.tmp 8), type := 3, pos := "ref.go:157", after := #[], guard := none }) (v := .int .i64 (k : Int)) rfl (by kernel_rfl) (by kernel_rfl) (by kernel_rfl) (fun _ _ _ h => h) (Or.inl ⟨by rfl, fun wx hS => ?_⟩) hH ?_
            · go_simp
            simp only [Act.put, List.setIfInBounds_toArray, List.set_cons_zero, List.set_cons_succ]
            refine wpAnyH_take (i := 3) (oi := { dst := some 94, op := Op.indexAddr 22 (Operand.tmp 92) (Operand.tmp 93), type := 0, pos := "ref.go:157", after := #[{ on := 1, ground := Ground.data }, { on := 2, ground := Ground.data }], guard := none }) (v := .pointer (some ⟨sb, so + k * 32, none⟩)) rfl (by kernel_rfl) (by kernel_rfl) (by kernel_rfl) (fun _ _ _ h => h) (Or.inl ⟨by rfl, fun wx hS => ?_⟩) hH ?_
            · go_simp
            simp only [Act.put, List.setIfInBounds_toArray, List.set_cons_zero, List.set_cons_succ]
            refine wpAnyH_take (i := 4) (oi := { dst := some 95, op := Op.load 24 (Operand.tmp 94), type := 24, pos := "ref.go:157", after := #[{ on := 3, ground := Ground.data }], guard := none }) (v := .agg (bvals p).toArray) rfl (by kernel_rfl) (by kernel_rfl) (by kernel_rfl) (fun _ _ _ h => h) (yieldsIf_load_mid (by rfl) 24 _ rfl (sb) (so + k * 32) rfl (bvals p) _ (fun wx hS => range_below S1.out hS (Nat.le_refl _)) Try.underlying24 rfl (by rw [HPL.out]; kernel_rfl)) hH ?_
            simp only [Act.put, List.setIfInBounds_toArray, List.set_cons_zero, List.set_cons_succ]
            refine wpAnyH_take (i := 5) (oi := { dst := some 96, op := Op.fieldAddr 26 (Operand.tmp 7) 6, type := 0, pos := "ref.go:157", after := #[], guard := none }) (v := .pointer (some ⟨gb, 6, none⟩)) rfl (by kernel_rfl) (by kernel_rfl) (by kernel_rfl) (fun _ _ _ h => h) (Or.inl ⟨by rfl, fun wx hS => ?_⟩) hH ?_
            · go_simp
            simp only [Act.put, List.setIfInBounds_toArray, List.set_cons_zero, List.set_cons_succ]
            refine wpAnyH_take (i := 6) (oi := { dst := some 97, op := Op.load 22 (Operand.tmp 96), type := 22, pos := "ref.go:157", after := #[{ on := 5, ground := Ground.data }], guard := none }) (v := .slice (some ⟨tb, tq, none⟩) n.parts.length pc2) rfl (by kernel_rfl) (by kernel_rfl) (by kernel_rfl) (fun _ _ _ h => h) (Or.inl ⟨by rfl, fun wx hS => ?_⟩) hH ?_
            · have c := (hS.cell (p := ⟨gb, 6, none⟩) (block_lt_of_cell db)).trans db; go_simp
            simp only [Act.put, List.setIfInBounds_toArray, List.set_cons_zero, List.set_cons_succ]
            refine wpAnyH_take (i := 7) (oi := { dst := some 98, op := Op.move (Operand.tmp 8), type := 3, pos := "ref.go:157", after := #[], guard := none }) (v := .int .i64 (k : Int)) rfl (by kernel_rfl) (by kernel_rfl) (by kernel_rfl) (fun _ _ _ h => h) (Or.inl ⟨by rfl, fun wx hS => ?_⟩) hH ?_
            · go_simp
            simp only [Act.put, List.setIfInBounds_toArray, List.set_cons_zero, List.set_cons_succ]
            refine wpAnyH_take (i := 8) (oi := { dst := some 99, op := Op.indexAddr 22 (Operand.tmp 97) (Operand.tmp 98), type := 0, pos := "ref.go:157", after := #[{ on := 6, ground := Ground.data }, { on := 7, ground := Ground.data }], guard := none }) (v := .pointer (some ⟨tb, tq + k * 32, none⟩)) rfl (by kernel_rfl) (by kernel_rfl) (by kernel_rfl) (fun _ _ _ h => h) (Or.inl ⟨by rfl, fun wx hS => ?_⟩) hH ?_
            · go_simp
            simp only [Act.put, List.setIfInBounds_toArray, List.set_cons_zero, List.set_cons_succ]
            refine wpAnyH_take (i := 9) (oi := { dst := some 100, op := Op.load 24 (Operand.tmp 99), type := 24, pos := "ref.go:157", after := #[{ on := 8, ground := Ground.data }], guard := none }) (v := .agg (bvals p).toArray) rfl (by kernel_rfl) (by kernel_rfl) (by kernel_rfl) (fun _ _ _ h => h) (yieldsIf_load_mid (by rfl) 24 _ rfl (tb) (tq + k * 32) rfl (bvals p) _ (fun wx hS => range_below S2.out hS (Nat.le_refl _)) Try.underlying24 rfl (by rw [HPL.out]; kernel_rfl)) hH ?_
            simp only [Act.put, List.setIfInBounds_toArray, List.set_cons_zero, List.set_cons_succ]
            refine wpAnyH_take (i := 10) (oi := { dst := some 101, op := Op.binOp BinOp.neq 24 (Operand.tmp 95) (Operand.tmp 100) 24, type := 4, pos := "ref.go:157", after := #[{ on := 4, ground := Ground.data }, { on := 9, ground := Ground.data }], guard := none }) (v := .bool false) rfl (by kernel_rfl) (by kernel_rfl) (by kernel_rfl) (fun _ _ _ h => h) (yields_same (by rfl) _ _ rfl p HP.out rfl rfl) hH ?_
            simp only [Act.put, List.setIfInBounds_toArray, List.set_cons_zero, List.set_cons_succ]
            refine wpAnyH_done (by kernel_rfl) ?_ _
            refine NoPanic.normal ?_
            have BZ := Lib.hid (BX.out.trans (hH.mono BX.out.size))
            clear hD hH da db
            go_wp2_with fail
            go_roundw
            case rel => exact ⟨k + 1, by omega, by go_num, BZ⟩
            case measure => simp [intOf]; omega
          · obtain rfl : k = n.parts.length := by omega
            have q1 : ¬ ((n.parts.length : Int) < (n.parts.length : Int)) := by omega
            have BZ := Lib.hid (X1.out.trans (BX.out.mono X1.out.size))
            go_wp2_with fail
            go_roundw
            case rel => exact ⟨j + 1, by omega, by go_num, BZ⟩
            case measure => simp [intOf]; omega
    · obtain rfl : j = L.length := by omega
      have q0 : ¬ ((L.length : Int) < (L.length : Int)) := by omega
      go_wp2_with fail
      go_ret
      exact ⟨rfl, BR.out⟩
end Go.Proofs.Ytjgmhaajcglpmaa
