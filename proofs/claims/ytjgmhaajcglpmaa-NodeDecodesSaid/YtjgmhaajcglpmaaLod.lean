/- The law NodeOrders: its walk. -/
import Derived.Test.YtjgmhaajcglpmaaNso
namespace Go.Proofs.Ytjgmhaajcglpmaa
open Go.RowKit

theorem rises_drop : ∀ (S : List Nd) (k : Nat), risesN S = true → risesN (S.drop k) = true
  | S, 0, h => by simpa using h
  | [], k + 1, _ => by simp [risesN]
  | [x], k + 1, _ => by simp [risesN]
  | x :: y :: S, k + 1, h => by
    have h : (!leN x y && risesN (y :: S)) = true := h
    simp only [Bool.and_eq_true] at h
    exact rises_drop (y :: S) k h.2
theorem inOrder.pair {L S : List Nd} (h : inOrder L S) (k k1 : Nat) (hk1 : k1 = k + 1) (hk : k1 < S.length) : checkL [S[k], S[k1]] = 0 ∧ checkL [S[k1], S[k]] = 2 ∧ checkL [S[k], S[k]] = 2 ∧ checkL [S[k]] = 0 := by
  subst hk1
  have c0 := (h.1 S[k] (List.getElem_mem _)).2
  have c1 := (h.1 S[k + 1] (List.getElem_mem _)).2
  have r := rises_drop S k h.2
  rw [risesN_drop S k hk] at r
  simp only [Bool.and_eq_true, Bool.not_eq_true'] at r
  have r1 := r.1
  have r2 := leN_back r1
  have r3 := leN_self S[k]
  generalize S[k] = n at *
  generalize S[k + 1] = m at *
  have z : ∀ x y : Nd, x.check = 0 → y.check = 0 → checkL [x, y] = if leN x y = true then 2 else 0 := fun x y hx hy => by
    have e1 : firstE [x, y] = 0 := by simp [firstE, hx, hy]
    have e2 : risesN [x, y] = !leN x y := by show (!leN x y && true) = _; simp
    unfold checkL
    rw [if_neg (by simp), e1, if_neg (by simp), e2]
    cases leN x y <;> simp
  refine ⟨by rw [z _ _ c0 c1, r1]; rfl, by rw [z _ _ c1 c0, r2]; rfl, by rw [z _ _ c0 c0, r3]; rfl, ?_⟩
  have e1 : firstE [n] = 0 := by simp [firstE, c0]
  unfold checkL
  rw [if_neg (by simp), e1, if_neg (by simp)]
  rfl
theorem fill_two (t ts : TypeId) (nt : NT t ts) (cs ds : List Value) (hc : cs.length = 39) (hd : ds.length = 39) (w : World) : (Instr.buildSlice ts 2 #[(0, .agg cs.toArray), (1, .agg ds.toArray)]).run Try.prog w = .ok (.slice (some ⟨w.heap.size, 0, none⟩) 2 2) (w.alloc (.cells (cs ++ ds).toArray t)) := by
  obtain ⟨i0, hi, hz0, hz1, hz2⟩ := info_parts nt.info
  have hzl := zeroNd.cells_length (.slice none 0 0) rfl
  generalize zeroNd.cells (.slice none 0 0) = zs at *
  have h := Great.fill_whole (s := 39) (by decide) [.agg cs.toArray, .agg ds.toArray] ((Array.range (2 * 39)).map ((Value.agg zs.toArray).cells[· % (Value.agg zs.toArray).cells.size]!)) (fun v hv => by
    rcases List.mem_cons.1 hv with rfl | hv
    · simp [Value.cells, hc]
    · rw [List.mem_singleton.1 hv]; simp [Value.cells, hd]) (by simp)
  have e : (List.flatMap (fun v => v.cells.toList) [Value.agg cs.toArray, Value.agg ds.toArray]).toArray = (cs ++ ds).toArray := by simp [Value.cells]
  refine run_buildSlice w _ _ 2 _ _ i0 _ nt.und hi hz0 (by rw [hz1]; decide) (by rw [hz1]; decide) ?_
  rw [hz1]
  rw [e] at h
  exact h
theorem step_build_two {w : World} {ops : Array Oper} {o : Oper} {a : Act} {K : Act → World → Prop} {Q : Exit → Act → World → Prop} {E : Prop} (hw : Region.wanted o (yielded ops a.tmps) = true) (t ts : TypeId) (nt : NT t ts) (x y : Operand) (ho : o.op = .buildSlice ts 2 #[(0, x), (1, y)]) (cs ds : List Value) (hc : cs.length = 39) (hd : ds.length = 39) (hx : a.eval x = .agg cs.toArray) (hy : a.eval y = .agg ds.toArray)
    (h : K (a.put o.dst (.slice (some ⟨w.heap.size, 0, none⟩) 2 2)) (w.alloc (.cells (cs ++ ds).toArray t))) : if Region.wanted o (yielded ops a.tmps) = true then Oper.wp Try.prog o a w K Q else E := by
  rw [if_pos hw]
  have e : (#[((0 : Nat), x), ((1 : Nat), y)].map fun (i, x) => (i, a.eval x)) = #[(0, .agg cs.toArray), (1, .agg ds.toArray)] := by simp [hx, hy]
  unfold Oper.wp execOp
  simp only [ho, Sem.run_bind, e, fill_two t ts nt cs ds hc hd, Result.andThen_ok]
  exact h
theorem two_row {w : World} {g : Nat} {n m : Nd} {pv qv : Value} {t : TypeId} (hb : blockIs w g (n.cells pv ++ m.cells qv) t) (hn : n.Wf) (hm : m.Wf) (h1 : idsIn w pv n.parts) (h2 : idsIn w qv m.parts) : rowN w (some ⟨g, 0, none⟩) [n, m] := by
  have hl := n.cells_length pv hn.tree
  refine Or.inr ⟨g, 0, rfl, fun i hi => ?_⟩
  match i, hi with
  | 0, _ =>
    refine ⟨hn, pv, h1, fun j u hu => ?_⟩
    have hu : (n.cells pv)[j]? = some u := hu
    rw [show 0 + 0 * 39 + j = j by omega, hb.cell, List.getElem?_append_left (List.getElem?_eq_some_iff.1 hu).1]
    exact hu
  | 1, _ =>
    refine ⟨hm, qv, h2, fun j u hu => ?_⟩
    have hu : (m.cells qv)[j]? = some u := hu
    rw [show 0 + 1 * 39 + j = 39 + j by omega, hb.cell, List.getElem?_append_right (by omega), hl, Nat.add_sub_cancel_left]
    exact hu
theorem one_row {w : World} {g : Nat} {n : Nd} {pv : Value} {t : TypeId} (hb : blockIs w g (n.cells pv) t) (hn : n.Wf) (h1 : idsIn w pv n.parts) : rowN w (some ⟨g, 0, none⟩) [n] := by
  refine Or.inr ⟨g, 0, rfl, fun i hi => ?_⟩
  obtain rfl : i = 0 := by simp at hi; exact hi
  refine ⟨hn, pv, h1, fun j u hu => ?_⟩
  rw [show 0 + 0 * 39 + j = j by omega, hb.cell]
  exact hu
/-- Encode's error. -/
theorem encode_code (a : Option Addr) (c : Nat) (L : List Nd) (w : World) (l : Nat) (hll : L.length = l) (hl : L.length ≤ 2000) (hw : weight L ≤ 20000) (h : rowN w a L) (C : Int) (hC : checkL L = C) :
    Calls Try.prog 18 #[.slice a l c] w fun e w' => (∃ v, e = .returned (.tuple #[v, .int .i64 C])) ∧ Below w.heap.size w w' := by
  subst hll
  refine (encode_any a c L w (by omega) hw h).mono ?_
  rintro e w' ⟨he, hb⟩
  refine ⟨?_, hb⟩
  subst hC
  rcases he with ⟨h0, v, rfl, -⟩ | ⟨-, rfl⟩
  · exact ⟨v, by rw [h0]⟩
  · exact ⟨_, rfl⟩
theorem few_len2 (L : List Nd) : (fewL L).length ≤ 60 := Nat.le_trans (List.length_filter_le _ _) (by rw [List.length_take]; omega)
theorem few_mem2 {L : List Nd} {n : Nd} (h : n ∈ fewL L) : n.parts.length ≤ 300 := by
  have := (List.mem_filter.1 h).2
  simp [fewOk] at this
  exact this.1
theorem weight_le2 : ∀ L : List Nd, (∀ n ∈ L, n.parts.length ≤ 300) → weight L ≤ 300 * L.length
  | [], _ => by simp [weight]
  | n :: L, h => by
    have h1 := weight_le2 L (fun m hm => h m (List.mem_cons_of_mem _ hm))
    have h2 := h n List.mem_cons_self
    simp only [weight, List.map_cons, List.sum_cons, List.length_cons, Nat.mul_succ] at *
    omega
set_option maxRecDepth 100000 in
set_option maxHeartbeats 4000000 in
theorem law_nodeOrders (a : Option Addr) (c : Nat) (L : List Nd) (w : World) (hlc : L.length ≤ c) (hc : c ≤ 9223372036854775807) (h : rowN w a L) :
    Calls Try.prog 9 #[.slice a L.length c] w fun e w' => e = .returned (.bool true) ∧ Below w.heap.size w w' := by
  have PF := Lib.hid (few_any a c L w (by omega) h)
  have HFL := few_len2 L
  have HFM : Hid (∀ n ∈ fewL L, n.parts.length ≤ 300) := Lib.hid (fun n hn => few_mem2 hn)
  clear h
  go_enter Try.func9, Try.ntmps9
  go_wp2_with fail
  with_reducible refine PF.out.mono ?_
  rintro e w1 ⟨⟨v1, rfl, hv1⟩, b1⟩
  have B1 := Lib.hid b1
  clear b1 PF
  generalize fewL L = M at *
  obtain ⟨a1, c1, rfl, hlc1, hcc1, hz1, hr1⟩ := hv1.row
  have PS := Lib.hid (sorted_any a1 c1 M w1 (by omega) hr1)
  clear hv1 hr1
  go_wp2_with fail
  with_reducible refine PS.out.mono ?_
  rintro e w2 ⟨⟨v2, rfl, S, hSM, io, hv2⟩, b2⟩
  have B2 := Lib.hid (B1.out.trans (b2.mono B1.out.size))
  have IO := Lib.hid io
  have HSP : Hid (∀ n ∈ S, n.parts.length ≤ 300) := Lib.hid (fun n hn => HFM.out n (io.1 n hn).1)
  have HSL : S.length ≤ 60 := by omega
  have HWT : Hid (weight S ≤ 20000) := Lib.hid (by have := weight_le2 S HSP.out; omega)
  obtain ⟨a2, c2, rfl, hlc2, hcc2, hz2, hr2⟩ := hv2.row
  have PT := Lib.hid (to_any a2 c2 S w2 (by omega) (fun n hn => by have := HSP.out n hn; omega) hr2)
  clear b2 PS B1 io hv2 hr2 HFM hSM HFL
  go_wp2_with fail
  with_reducible refine PT.out.mono ?_
  rintro e w3 ⟨⟨v3, rfl, hv3⟩, b3⟩
  have B3 := Lib.hid (B2.out.trans (b3.mono B2.out.size))
  obtain ⟨a3, c3, rfl, hlc3, hcc3, hz3, hr3⟩ := hv3.row
  have R3 := Lib.hid hr3
  clear b3 PT B2 hv3 hr3
  go_wp2_with fail
  go_loopw [4] (fun i wx => ∃ k : Nat, k ≤ S.length ∧ i = .int .i64 k ∧ Hid (Below w3.heap.size w3 wx)) (fun i _ => S.length - (intOf i).toNat)
  case atStart => exact ⟨0, Nat.zero_le _, rfl, Lib.hid (Below.refl _ _)⟩
  case round =>
    obtain ⟨k, hk, rfl, HB⟩ := hrel
    have p0 : 0 ≤ (k : Int) := by omega
    obtain ⟨k1, hk1⟩ : ∃ k1, k1 = k + 1 := ⟨_, rfl⟩
    have ew : IntKind.i64.wrap ((k : Int) + 1) = (k1 : Int) := by rw [IntWalk.i64_in _ (by omega)]; omega
    by_cases hlt : k1 < S.length
    · have q0 : (k1 : Int) < (S.length : Int) := by omega
      have q1 : (k : Int) < (S.length : Int) := by omega
      have p1 : 0 ≤ (k1 : Int) := by omega
      have PR := Lib.hid (IO.out.pair k k1 hk1 hlt)
      obtain ⟨b, o, rfl, hn⟩ := R3.out.at k (by omega)
      obtain ⟨b', o', e', hm⟩ := R3.out.at k1 hlt
      cases e'
      have HN3 := Lib.hid (HSP.out _ (List.getElem_mem (show k < S.length by omega)))
      have HM3 := Lib.hid (HSP.out _ (List.getElem_mem hlt))
      generalize S[k] = n at *
      generalize S[k1] = m at *
      have HK1 := Lib.hid hk1
      clear hk1
      obtain ⟨pa, pc, wfn, idn, rn⟩ := hn.form
      obtain ⟨qa, qc, wfm, idm, rm⟩ := hm.form
      have WN := Lib.hid wfn
      have WM := Lib.hid wfm
      have IN := Lib.hid idn
      have IM := Lib.hid idm
      have RN := Lib.hid rn
      have RM := Lib.hid rm
      clear hn hm wfn wfm idn idm rn rm
      have HCN := Lib.hid (n.cells_length (.slice pa n.parts.length pc) WN.out.tree)
      have HCM := Lib.hid (m.cells_length (.slice qa m.parts.length qc) WM.out.tree)
      have W2 : Hid (weight [n, m] ≤ 20000 ∧ weight [m, n] ≤ 20000 ∧ weight [n, n] ≤ 20000 ∧ weight [n] ≤ 20000) := Lib.hid (by
        have := HN3.out
        have := HM3.out
        simp [weight]
        omega)
      obtain ⟨cs, hcs⟩ : ∃ cs, cs = n.cells (.slice pa n.parts.length pc) := ⟨_, rfl⟩
      rw [← hcs] at RN HCN
      have HCS := Lib.hid hcs
      obtain ⟨ds, hds⟩ : ∃ ds, ds = m.cells (.slice qa m.parts.length qc) := ⟨_, rfl⟩
      rw [← hds] at RM HCM
      have HDS := Lib.hid hds
      clear hcs hds HN3 HM3
      go_wp2_with fail
      go_upto_region 6 with fail
      refine wp_region_noPanic ?_
      refine wp_region_held_drew (S := fun x => Below w3.heap.size w3 x) (by kernel_rfl) (below_drewN HB.out 1) (fun hH => ?_)
      generalize wr.drew = y06 at *
      refine wpAnyH_take (i := 0) (oi := { dst := some 28, op := Op.move (Operand.tmp 3), type := 27, pos := "more.go:14", after := #[], guard := none }) (v := .slice (some ⟨b, o, none⟩) S.length c3) rfl (by kernel_rfl) (by kernel_rfl) (by kernel_rfl) (fun _ _ _ h => h) (Or.inl ⟨by rfl, fun wx hS => ?_⟩) hH ?_
      · go_simp
      simp only [Act.put, List.setIfInBounds_toArray, List.set_cons_zero, List.set_cons_succ]
      refine wpAnyH_take (i := 1) (oi := { dst := some 29, op := Op.move (Operand.tmp 4), type := 3, pos := "more.go:14", after := #[], guard := none }) (v := .int .i64 (k : Int)) rfl (by kernel_rfl) (by kernel_rfl) (by kernel_rfl) (fun _ _ _ h => h) (Or.inl ⟨by rfl, fun wx hS => ?_⟩) hH ?_
      · go_simp
      simp only [Act.put, List.setIfInBounds_toArray, List.set_cons_zero, List.set_cons_succ]
      refine wpAnyH_take (i := 2) (oi := { dst := some 30, op := Op.indexAddr 27 (Operand.tmp 28) (Operand.tmp 29), type := 0, pos := "more.go:14", after := #[{ on := 0, ground := Ground.data }, { on := 1, ground := Ground.data }], guard := none }) (v := .pointer (some ⟨b, (o + k * 39), none⟩)) rfl (by kernel_rfl) (by kernel_rfl) (by kernel_rfl) (fun _ _ _ h => h) (Or.inl ⟨by rfl, fun wx hS => ?_⟩) hH ?_
      · go_simp
      simp only [Act.put, List.setIfInBounds_toArray, List.set_cons_zero, List.set_cons_succ]
      refine wpAnyH_take (i := 3) (oi := { dst := some 31, op := Op.load 33 (Operand.tmp 30), type := 33, pos := "more.go:14", after := #[{ on := 2, ground := Ground.data }], guard := none }) (v := .agg (cs).toArray) rfl (by kernel_rfl) (by kernel_rfl) (by kernel_rfl) (fun _ _ _ h => h) (yieldsIf_load_mid (by rfl) 33 _ rfl (b) (o + k * 39) rfl (cs) _ (fun wx hS => range_below RN.out hS (Nat.le_refl _)) Try.underlying33 rfl (by rw [HCN.out]; kernel_rfl)) hH ?_
      simp only [Act.put, List.setIfInBounds_toArray, List.set_cons_zero, List.set_cons_succ]
      refine wpAnyH_take (i := 4) (oi := { dst := some 32, op := Op.move (Operand.tmp 3), type := 27, pos := "more.go:14", after := #[], guard := none }) (v := .slice (some ⟨b, o, none⟩) S.length c3) rfl (by kernel_rfl) (by kernel_rfl) (by kernel_rfl) (fun _ _ _ h => h) (Or.inl ⟨by rfl, fun wx hS => ?_⟩) hH ?_
      · go_simp
      simp only [Act.put, List.setIfInBounds_toArray, List.set_cons_zero, List.set_cons_succ]
      refine wpAnyH_take (i := 5) (oi := { dst := some 33, op := Op.move (Operand.tmp 4), type := 3, pos := "more.go:14", after := #[], guard := none }) (v := .int .i64 (k : Int)) rfl (by kernel_rfl) (by kernel_rfl) (by kernel_rfl) (fun _ _ _ h => h) (Or.inl ⟨by rfl, fun wx hS => ?_⟩) hH ?_
      · go_simp
      simp only [Act.put, List.setIfInBounds_toArray, List.set_cons_zero, List.set_cons_succ]
      refine wpAnyH_take (i := 6) (oi := { dst := some 34, op := Op.binOp BinOp.add 3 (Operand.tmp 33) (Operand.const (Value.int IntKind.i64 1)) 3, type := 3, pos := "more.go:14", after := #[{ on := 5, ground := Ground.data }], guard := none }) (v := .int .i64 (k1 : Int)) rfl (by kernel_rfl) (by kernel_rfl) (by kernel_rfl) (fun _ _ _ h => h) (Or.inl ⟨by rfl, fun wx hS => ?_⟩) hH ?_
      · have e1 := ew; go_simp
      simp only [Act.put, List.setIfInBounds_toArray, List.set_cons_zero, List.set_cons_succ]
      refine wpAnyH_take (i := 7) (oi := { dst := some 35, op := Op.indexAddr 27 (Operand.tmp 32) (Operand.tmp 34), type := 0, pos := "more.go:14", after := #[{ on := 4, ground := Ground.data }, { on := 6, ground := Ground.data }], guard := none }) (v := .pointer (some ⟨b, (o + k1 * 39), none⟩)) rfl (by kernel_rfl) (by kernel_rfl) (by kernel_rfl) (fun _ _ _ h => h) (Or.inl ⟨by rfl, fun wx hS => ?_⟩) hH ?_
      · go_simp
      simp only [Act.put, List.setIfInBounds_toArray, List.set_cons_zero, List.set_cons_succ]
      refine wpAnyH_take (i := 8) (oi := { dst := some 36, op := Op.load 33 (Operand.tmp 35), type := 33, pos := "more.go:14", after := #[{ on := 7, ground := Ground.data }], guard := none }) (v := .agg (ds).toArray) rfl (by kernel_rfl) (by kernel_rfl) (by kernel_rfl) (fun _ _ _ h => h) (yieldsIf_load_mid (by rfl) 33 _ rfl (b) (o + k1 * 39) rfl (ds) _ (fun wx hS => range_below RM.out hS (Nat.le_refl _)) Try.underlying33 rfl (by rw [HCM.out]; kernel_rfl)) hH ?_
      simp only [Act.put, List.setIfInBounds_toArray, List.set_cons_zero, List.set_cons_succ]
      refine wpAnyH_ready (rs := [9]) (by kernel_rfl) (by simp) ?_
      refine AllReadyH.cons (o := { dst := some 37, op := Op.buildSlice 27 2 #[(0, Operand.tmp 31), (1, Operand.tmp 36)], type := 27, pos := "more.go:14", after := #[{ on := 3, ground := Ground.data }, { on := 8, ground := Ground.data }], guard := none }) rfl (fun KK hKK => ?_) AllReadyH.nil
      have kb := alloc_below y06 (.cells (cs ++ ds).toArray 33 (0, 0))
      have qb := blockIs.new y06 (cs ++ ds) 33
      refine step_build_two (by rfl) 33 27 ntN _ _ rfl cs ds HCN.out HCM.out rfl rfl ?_
      have hN := hH.trans (kb.mono hH.size)
      clear hH kb
      refine hKK.out _ _ hN (fun hH => ?_)
      clear hKK KK hN
      try simp only [Act.put, List.setIfInBounds_toArray, List.set_cons_zero, List.set_cons_succ]
      change blockIs (y06.alloc (.cells (cs ++ ds).toArray 33 (0, 0))) _ _ _ at qb
      generalize y06.alloc (.cells (cs ++ ds).toArray 33 (0, 0)) = y16 at *
      generalize y06.heap.size = g6 at *
      rw [HCS.out, HDS.out] at qb
      have EC := encode_code (some ⟨g6, 0, none⟩) 2 [n, m] y16 2 rfl (by simp) W2.out.1 (two_row qb WN.out WM.out (IN.out.below hH (Nat.le_refl _)) (IM.out.below hH (Nat.le_refl _))) 0 PR.out.1
      refine wpAnyH_ready (rs := [10]) (by kernel_rfl) (by simp) ?_
      refine AllReadyH.cons (o := { dst := some 38, op := Op.call { callee := Callee.value (Operand.func 18), args := #[Operand.tmp 37], argTypes := #[27] }, type := 41, pos := "more.go:14", after := #[{ on := 9, ground := Ground.data }], guard := none }) rfl (fun KK hKK => ?_) AllReadyH.nil
      go_simp
      with_reducible refine EC.mono ?_
      rintro e y26 ⟨⟨v, rfl⟩, kb⟩
      have hN := hH.trans (kb.mono hH.size)
      clear hH kb EC qb
      refine hKK.out _ _ hN (fun hH => ?_)
      clear hKK KK hN
      try simp only [Act.put, List.setIfInBounds_toArray, List.set_cons_zero, List.set_cons_succ]
      refine wpAnyH_take (i := 11) (oi := { dst := some 27, op := Op.move (Operand.tmp 38), type := 41, pos := "more.go:14", after := #[{ on := 10, ground := Ground.data }], guard := none }) (v := .tuple #[v, .int .i64 0]) rfl (by kernel_rfl) (by kernel_rfl) (by kernel_rfl) (fun _ _ _ h => h) (Or.inl ⟨by rfl, fun wx hS => ?_⟩) hH ?_
      · go_simp
      simp only [Act.put, List.setIfInBounds_toArray, List.set_cons_zero, List.set_cons_succ]
      refine wpAnyH_take (i := 12) (oi := { dst := some 39, op := Op.extract (Operand.tmp 27) 0, type := 40, pos := "more.go:14", after := #[{ on := 11, ground := Ground.data }], guard := none }) (v := v) rfl (by kernel_rfl) (by kernel_rfl) (by kernel_rfl) (fun _ _ _ h => h) (Or.inl ⟨by rfl, fun wx hS => ?_⟩) hH ?_
      · go_simp
      simp only [Act.put, List.setIfInBounds_toArray, List.set_cons_zero, List.set_cons_succ]
      refine wpAnyH_take (i := 13) (oi := { dst := some 40, op := Op.extract (Operand.tmp 27) 1, type := 31, pos := "more.go:14", after := #[{ on := 11, ground := Ground.data }, { on := 14, ground := Ground.gcOnly Departure.lateStores }], guard := none }) (v := .int .i64 0) rfl (by kernel_rfl) (by kernel_rfl) (by kernel_rfl) (fun _ _ _ h => h) (Or.inl ⟨by rfl, fun wx hS => ?_⟩) hH ?_
      · go_simp
      simp only [Act.put, List.setIfInBounds_toArray, List.set_cons_zero, List.set_cons_succ]
      refine wpAnyH_take (i := 14) (oi := { dst := some 5, op := Op.assign (Operand.tmp 39), type := 40, pos := "more.go:14", after := #[{ on := 12, ground := Ground.data }, { on := 10, ground := Ground.chain }, { on := 0, ground := Ground.phase }, { on := 1, ground := Ground.phase }, { on := 2, ground := Ground.phase }, { on := 3, ground := Ground.phase }, { on := 4, ground := Ground.phase }, { on := 5, ground := Ground.phase }, { on := 6, ground := Ground.phase }, { on := 7, ground := Ground.phase }, { on := 8, ground := Ground.phase }, { on := 9, ground := Ground.phase }, { on := 10, ground := Ground.phase }, { on := 11, ground := Ground.phase }, { on := 12, ground := Ground.phase }, { on := 13, ground := Ground.textOnly Departure.lateStores }], guard := none }) (v := v) rfl (by kernel_rfl) (by kernel_rfl) (by kernel_rfl) (fun _ _ _ h => h) (Or.inl ⟨by rfl, fun wx hS => ?_⟩) hH ?_
      · go_simp
      simp only [Act.put, List.setIfInBounds_toArray, List.set_cons_zero, List.set_cons_succ]
      refine wpAnyH_take (i := 15) (oi := { dst := some 6, op := Op.assign (Operand.tmp 40), type := 31, pos := "more.go:14", after := #[{ on := 13, ground := Ground.data }, { on := 14, ground := Ground.chain }, { on := 0, ground := Ground.phase }, { on := 1, ground := Ground.phase }, { on := 2, ground := Ground.phase }, { on := 3, ground := Ground.phase }, { on := 4, ground := Ground.phase }, { on := 5, ground := Ground.phase }, { on := 6, ground := Ground.phase }, { on := 7, ground := Ground.phase }, { on := 8, ground := Ground.phase }, { on := 9, ground := Ground.phase }, { on := 10, ground := Ground.phase }, { on := 11, ground := Ground.phase }, { on := 12, ground := Ground.phase }, { on := 13, ground := Ground.phase }, { on := 14, ground := Ground.phase }], guard := none }) (v := .int .i64 0) rfl (by kernel_rfl) (by kernel_rfl) (by kernel_rfl) (fun _ _ _ h => h) (Or.inl ⟨by rfl, fun wx hS => ?_⟩) hH ?_
      · go_simp
      simp only [Act.put, List.setIfInBounds_toArray, List.set_cons_zero, List.set_cons_succ]
      refine wpAnyH_done (by kernel_rfl) ?_ _
      refine NoPanic.normal ?_
      replace HB := Lib.hid hH
      clear hH
      generalize v = v6 at *
      go_upto_region 7 with fail
      refine wp_region_noPanic ?_
      refine wp_region_held_drew (S := fun x => Below w3.heap.size w3 x) (by kernel_rfl) (below_drewN HB.out 1) (fun hH => ?_)
      generalize y26.drew = y07 at *
      refine wpAnyH_take (i := 0) (oi := { dst := some 42, op := Op.move (Operand.tmp 3), type := 27, pos := "more.go:15", after := #[], guard := none }) (v := .slice (some ⟨b, o, none⟩) S.length c3) rfl (by kernel_rfl) (by kernel_rfl) (by kernel_rfl) (fun _ _ _ h => h) (Or.inl ⟨by rfl, fun wx hS => ?_⟩) hH ?_
      · go_simp
      simp only [Act.put, List.setIfInBounds_toArray, List.set_cons_zero, List.set_cons_succ]
      refine wpAnyH_take (i := 1) (oi := { dst := some 43, op := Op.move (Operand.tmp 4), type := 3, pos := "more.go:15", after := #[], guard := none }) (v := .int .i64 (k : Int)) rfl (by kernel_rfl) (by kernel_rfl) (by kernel_rfl) (fun _ _ _ h => h) (Or.inl ⟨by rfl, fun wx hS => ?_⟩) hH ?_
      · go_simp
      simp only [Act.put, List.setIfInBounds_toArray, List.set_cons_zero, List.set_cons_succ]
      refine wpAnyH_take (i := 2) (oi := { dst := some 44, op := Op.binOp BinOp.add 3 (Operand.tmp 43) (Operand.const (Value.int IntKind.i64 1)) 3, type := 3, pos := "more.go:15", after := #[{ on := 1, ground := Ground.data }], guard := none }) (v := .int .i64 (k1 : Int)) rfl (by kernel_rfl) (by kernel_rfl) (by kernel_rfl) (fun _ _ _ h => h) (Or.inl ⟨by rfl, fun wx hS => ?_⟩) hH ?_
      · have e1 := ew; go_simp
      simp only [Act.put, List.setIfInBounds_toArray, List.set_cons_zero, List.set_cons_succ]
      refine wpAnyH_take (i := 3) (oi := { dst := some 45, op := Op.indexAddr 27 (Operand.tmp 42) (Operand.tmp 44), type := 0, pos := "more.go:15", after := #[{ on := 0, ground := Ground.data }, { on := 2, ground := Ground.data }], guard := none }) (v := .pointer (some ⟨b, (o + k1 * 39), none⟩)) rfl (by kernel_rfl) (by kernel_rfl) (by kernel_rfl) (fun _ _ _ h => h) (Or.inl ⟨by rfl, fun wx hS => ?_⟩) hH ?_
      · go_simp
      simp only [Act.put, List.setIfInBounds_toArray, List.set_cons_zero, List.set_cons_succ]
      refine wpAnyH_take (i := 4) (oi := { dst := some 46, op := Op.load 33 (Operand.tmp 45), type := 33, pos := "more.go:15", after := #[{ on := 3, ground := Ground.data }], guard := none }) (v := .agg (ds).toArray) rfl (by kernel_rfl) (by kernel_rfl) (by kernel_rfl) (fun _ _ _ h => h) (yieldsIf_load_mid (by rfl) 33 _ rfl (b) (o + k1 * 39) rfl (ds) _ (fun wx hS => range_below RM.out hS (Nat.le_refl _)) Try.underlying33 rfl (by rw [HCM.out]; kernel_rfl)) hH ?_
      simp only [Act.put, List.setIfInBounds_toArray, List.set_cons_zero, List.set_cons_succ]
      refine wpAnyH_take (i := 5) (oi := { dst := some 47, op := Op.move (Operand.tmp 3), type := 27, pos := "more.go:15", after := #[], guard := none }) (v := .slice (some ⟨b, o, none⟩) S.length c3) rfl (by kernel_rfl) (by kernel_rfl) (by kernel_rfl) (fun _ _ _ h => h) (Or.inl ⟨by rfl, fun wx hS => ?_⟩) hH ?_
      · go_simp
      simp only [Act.put, List.setIfInBounds_toArray, List.set_cons_zero, List.set_cons_succ]
      refine wpAnyH_take (i := 6) (oi := { dst := some 48, op := Op.move (Operand.tmp 4), type := 3, pos := "more.go:15", after := #[], guard := none }) (v := .int .i64 (k : Int)) rfl (by kernel_rfl) (by kernel_rfl) (by kernel_rfl) (fun _ _ _ h => h) (Or.inl ⟨by rfl, fun wx hS => ?_⟩) hH ?_
      · go_simp
      simp only [Act.put, List.setIfInBounds_toArray, List.set_cons_zero, List.set_cons_succ]
      refine wpAnyH_take (i := 7) (oi := { dst := some 49, op := Op.indexAddr 27 (Operand.tmp 47) (Operand.tmp 48), type := 0, pos := "more.go:15", after := #[{ on := 5, ground := Ground.data }, { on := 6, ground := Ground.data }], guard := none }) (v := .pointer (some ⟨b, (o + k * 39), none⟩)) rfl (by kernel_rfl) (by kernel_rfl) (by kernel_rfl) (fun _ _ _ h => h) (Or.inl ⟨by rfl, fun wx hS => ?_⟩) hH ?_
      · go_simp
      simp only [Act.put, List.setIfInBounds_toArray, List.set_cons_zero, List.set_cons_succ]
      refine wpAnyH_take (i := 8) (oi := { dst := some 50, op := Op.load 33 (Operand.tmp 49), type := 33, pos := "more.go:15", after := #[{ on := 7, ground := Ground.data }], guard := none }) (v := .agg (cs).toArray) rfl (by kernel_rfl) (by kernel_rfl) (by kernel_rfl) (fun _ _ _ h => h) (yieldsIf_load_mid (by rfl) 33 _ rfl (b) (o + k * 39) rfl (cs) _ (fun wx hS => range_below RN.out hS (Nat.le_refl _)) Try.underlying33 rfl (by rw [HCN.out]; kernel_rfl)) hH ?_
      simp only [Act.put, List.setIfInBounds_toArray, List.set_cons_zero, List.set_cons_succ]
      refine wpAnyH_ready (rs := [9]) (by kernel_rfl) (by simp) ?_
      refine AllReadyH.cons (o := { dst := some 51, op := Op.buildSlice 27 2 #[(0, Operand.tmp 46), (1, Operand.tmp 50)], type := 27, pos := "more.go:15", after := #[{ on := 4, ground := Ground.data }, { on := 8, ground := Ground.data }], guard := none }) rfl (fun KK hKK => ?_) AllReadyH.nil
      have kb := alloc_below y07 (.cells (ds ++ cs).toArray 33 (0, 0))
      have qb := blockIs.new y07 (ds ++ cs) 33
      refine step_build_two (by rfl) 33 27 ntN _ _ rfl ds cs HCM.out HCN.out rfl rfl ?_
      have hN := hH.trans (kb.mono hH.size)
      clear hH kb
      refine hKK.out _ _ hN (fun hH => ?_)
      clear hKK KK hN
      try simp only [Act.put, List.setIfInBounds_toArray, List.set_cons_zero, List.set_cons_succ]
      change blockIs (y07.alloc (.cells (ds ++ cs).toArray 33 (0, 0))) _ _ _ at qb
      generalize y07.alloc (.cells (ds ++ cs).toArray 33 (0, 0)) = y17 at *
      generalize y07.heap.size = g7 at *
      rw [HCS.out, HDS.out] at qb
      have EC := encode_code (some ⟨g7, 0, none⟩) 2 [m, n] y17 2 rfl (by simp) W2.out.2.1 (two_row qb WM.out WN.out (IM.out.below hH (Nat.le_refl _)) (IN.out.below hH (Nat.le_refl _))) 2 PR.out.2.1
      refine wpAnyH_ready (rs := [10]) (by kernel_rfl) (by simp) ?_
      refine AllReadyH.cons (o := { dst := some 52, op := Op.call { callee := Callee.value (Operand.func 18), args := #[Operand.tmp 51], argTypes := #[27] }, type := 41, pos := "more.go:15", after := #[{ on := 9, ground := Ground.data }], guard := none }) rfl (fun KK hKK => ?_) AllReadyH.nil
      go_simp
      with_reducible refine EC.mono ?_
      rintro e y27 ⟨⟨v, rfl⟩, kb⟩
      have hN := hH.trans (kb.mono hH.size)
      clear hH kb EC qb
      refine hKK.out _ _ hN (fun hH => ?_)
      clear hKK KK hN
      try simp only [Act.put, List.setIfInBounds_toArray, List.set_cons_zero, List.set_cons_succ]
      refine wpAnyH_take (i := 11) (oi := { dst := some 41, op := Op.move (Operand.tmp 52), type := 41, pos := "more.go:15", after := #[{ on := 10, ground := Ground.data }], guard := none }) (v := .tuple #[v, .int .i64 2]) rfl (by kernel_rfl) (by kernel_rfl) (by kernel_rfl) (fun _ _ _ h => h) (Or.inl ⟨by rfl, fun wx hS => ?_⟩) hH ?_
      · go_simp
      simp only [Act.put, List.setIfInBounds_toArray, List.set_cons_zero, List.set_cons_succ]
      refine wpAnyH_take (i := 12) (oi := { dst := some 53, op := Op.extract (Operand.tmp 41) 0, type := 40, pos := "more.go:15", after := #[{ on := 11, ground := Ground.data }], guard := none }) (v := v) rfl (by kernel_rfl) (by kernel_rfl) (by kernel_rfl) (fun _ _ _ h => h) (Or.inl ⟨by rfl, fun wx hS => ?_⟩) hH ?_
      · go_simp
      simp only [Act.put, List.setIfInBounds_toArray, List.set_cons_zero, List.set_cons_succ]
      refine wpAnyH_take (i := 13) (oi := { dst := some 54, op := Op.extract (Operand.tmp 41) 1, type := 31, pos := "more.go:15", after := #[{ on := 11, ground := Ground.data }, { on := 14, ground := Ground.gcOnly Departure.lateStores }], guard := none }) (v := .int .i64 2) rfl (by kernel_rfl) (by kernel_rfl) (by kernel_rfl) (fun _ _ _ h => h) (Or.inl ⟨by rfl, fun wx hS => ?_⟩) hH ?_
      · go_simp
      simp only [Act.put, List.setIfInBounds_toArray, List.set_cons_zero, List.set_cons_succ]
      refine wpAnyH_take (i := 14) (oi := { dst := some 7, op := Op.assign (Operand.tmp 53), type := 40, pos := "more.go:15", after := #[{ on := 12, ground := Ground.data }, { on := 10, ground := Ground.chain }, { on := 0, ground := Ground.phase }, { on := 1, ground := Ground.phase }, { on := 2, ground := Ground.phase }, { on := 3, ground := Ground.phase }, { on := 4, ground := Ground.phase }, { on := 5, ground := Ground.phase }, { on := 6, ground := Ground.phase }, { on := 7, ground := Ground.phase }, { on := 8, ground := Ground.phase }, { on := 9, ground := Ground.phase }, { on := 10, ground := Ground.phase }, { on := 11, ground := Ground.phase }, { on := 12, ground := Ground.phase }, { on := 13, ground := Ground.textOnly Departure.lateStores }], guard := none }) (v := v) rfl (by kernel_rfl) (by kernel_rfl) (by kernel_rfl) (fun _ _ _ h => h) (Or.inl ⟨by rfl, fun wx hS => ?_⟩) hH ?_
      · go_simp
      simp only [Act.put, List.setIfInBounds_toArray, List.set_cons_zero, List.set_cons_succ]
      refine wpAnyH_take (i := 15) (oi := { dst := some 8, op := Op.assign (Operand.tmp 54), type := 31, pos := "more.go:15", after := #[{ on := 13, ground := Ground.data }, { on := 14, ground := Ground.chain }, { on := 0, ground := Ground.phase }, { on := 1, ground := Ground.phase }, { on := 2, ground := Ground.phase }, { on := 3, ground := Ground.phase }, { on := 4, ground := Ground.phase }, { on := 5, ground := Ground.phase }, { on := 6, ground := Ground.phase }, { on := 7, ground := Ground.phase }, { on := 8, ground := Ground.phase }, { on := 9, ground := Ground.phase }, { on := 10, ground := Ground.phase }, { on := 11, ground := Ground.phase }, { on := 12, ground := Ground.phase }, { on := 13, ground := Ground.phase }, { on := 14, ground := Ground.phase }], guard := none }) (v := .int .i64 2) rfl (by kernel_rfl) (by kernel_rfl) (by kernel_rfl) (fun _ _ _ h => h) (Or.inl ⟨by rfl, fun wx hS => ?_⟩) hH ?_
      · go_simp
      simp only [Act.put, List.setIfInBounds_toArray, List.set_cons_zero, List.set_cons_succ]
      refine wpAnyH_done (by kernel_rfl) ?_ _
      refine NoPanic.normal ?_
      replace HB := Lib.hid hH
      clear hH
      generalize v = v7 at *
      go_upto_region 8 with fail
      refine wp_region_noPanic ?_
      refine wp_region_held_drew (S := fun x => Below w3.heap.size w3 x) (by kernel_rfl) (below_drewN HB.out 1) (fun hH => ?_)
      generalize y27.drew = y08 at *
      refine wpAnyH_take (i := 0) (oi := { dst := some 56, op := Op.move (Operand.tmp 3), type := 27, pos := "more.go:16", after := #[], guard := none }) (v := .slice (some ⟨b, o, none⟩) S.length c3) rfl (by kernel_rfl) (by kernel_rfl) (by kernel_rfl) (fun _ _ _ h => h) (Or.inl ⟨by rfl, fun wx hS => ?_⟩) hH ?_
      · go_simp
      simp only [Act.put, List.setIfInBounds_toArray, List.set_cons_zero, List.set_cons_succ]
      refine wpAnyH_take (i := 1) (oi := { dst := some 57, op := Op.move (Operand.tmp 4), type := 3, pos := "more.go:16", after := #[], guard := none }) (v := .int .i64 (k : Int)) rfl (by kernel_rfl) (by kernel_rfl) (by kernel_rfl) (fun _ _ _ h => h) (Or.inl ⟨by rfl, fun wx hS => ?_⟩) hH ?_
      · go_simp
      simp only [Act.put, List.setIfInBounds_toArray, List.set_cons_zero, List.set_cons_succ]
      refine wpAnyH_take (i := 2) (oi := { dst := some 58, op := Op.indexAddr 27 (Operand.tmp 56) (Operand.tmp 57), type := 0, pos := "more.go:16", after := #[{ on := 0, ground := Ground.data }, { on := 1, ground := Ground.data }], guard := none }) (v := .pointer (some ⟨b, (o + k * 39), none⟩)) rfl (by kernel_rfl) (by kernel_rfl) (by kernel_rfl) (fun _ _ _ h => h) (Or.inl ⟨by rfl, fun wx hS => ?_⟩) hH ?_
      · go_simp
      simp only [Act.put, List.setIfInBounds_toArray, List.set_cons_zero, List.set_cons_succ]
      refine wpAnyH_take (i := 3) (oi := { dst := some 59, op := Op.load 33 (Operand.tmp 58), type := 33, pos := "more.go:16", after := #[{ on := 2, ground := Ground.data }], guard := none }) (v := .agg (cs).toArray) rfl (by kernel_rfl) (by kernel_rfl) (by kernel_rfl) (fun _ _ _ h => h) (yieldsIf_load_mid (by rfl) 33 _ rfl (b) (o + k * 39) rfl (cs) _ (fun wx hS => range_below RN.out hS (Nat.le_refl _)) Try.underlying33 rfl (by rw [HCN.out]; kernel_rfl)) hH ?_
      simp only [Act.put, List.setIfInBounds_toArray, List.set_cons_zero, List.set_cons_succ]
      refine wpAnyH_take (i := 4) (oi := { dst := some 60, op := Op.move (Operand.tmp 3), type := 27, pos := "more.go:16", after := #[], guard := none }) (v := .slice (some ⟨b, o, none⟩) S.length c3) rfl (by kernel_rfl) (by kernel_rfl) (by kernel_rfl) (fun _ _ _ h => h) (Or.inl ⟨by rfl, fun wx hS => ?_⟩) hH ?_
      · go_simp
      simp only [Act.put, List.setIfInBounds_toArray, List.set_cons_zero, List.set_cons_succ]
      refine wpAnyH_take (i := 5) (oi := { dst := some 61, op := Op.move (Operand.tmp 4), type := 3, pos := "more.go:16", after := #[], guard := none }) (v := .int .i64 (k : Int)) rfl (by kernel_rfl) (by kernel_rfl) (by kernel_rfl) (fun _ _ _ h => h) (Or.inl ⟨by rfl, fun wx hS => ?_⟩) hH ?_
      · go_simp
      simp only [Act.put, List.setIfInBounds_toArray, List.set_cons_zero, List.set_cons_succ]
      refine wpAnyH_take (i := 6) (oi := { dst := some 62, op := Op.indexAddr 27 (Operand.tmp 60) (Operand.tmp 61), type := 0, pos := "more.go:16", after := #[{ on := 4, ground := Ground.data }, { on := 5, ground := Ground.data }], guard := none }) (v := .pointer (some ⟨b, (o + k * 39), none⟩)) rfl (by kernel_rfl) (by kernel_rfl) (by kernel_rfl) (fun _ _ _ h => h) (Or.inl ⟨by rfl, fun wx hS => ?_⟩) hH ?_
      · go_simp
      simp only [Act.put, List.setIfInBounds_toArray, List.set_cons_zero, List.set_cons_succ]
      refine wpAnyH_take (i := 7) (oi := { dst := some 63, op := Op.load 33 (Operand.tmp 62), type := 33, pos := "more.go:16", after := #[{ on := 6, ground := Ground.data }], guard := none }) (v := .agg (cs).toArray) rfl (by kernel_rfl) (by kernel_rfl) (by kernel_rfl) (fun _ _ _ h => h) (yieldsIf_load_mid (by rfl) 33 _ rfl (b) (o + k * 39) rfl (cs) _ (fun wx hS => range_below RN.out hS (Nat.le_refl _)) Try.underlying33 rfl (by rw [HCN.out]; kernel_rfl)) hH ?_
      simp only [Act.put, List.setIfInBounds_toArray, List.set_cons_zero, List.set_cons_succ]
      refine wpAnyH_ready (rs := [8]) (by kernel_rfl) (by simp) ?_
      refine AllReadyH.cons (o := { dst := some 64, op := Op.buildSlice 27 2 #[(0, Operand.tmp 59), (1, Operand.tmp 63)], type := 27, pos := "more.go:16", after := #[{ on := 3, ground := Ground.data }, { on := 7, ground := Ground.data }], guard := none }) rfl (fun KK hKK => ?_) AllReadyH.nil
      have kb := alloc_below y08 (.cells (cs ++ cs).toArray 33 (0, 0))
      have qb := blockIs.new y08 (cs ++ cs) 33
      refine step_build_two (by rfl) 33 27 ntN _ _ rfl cs cs HCN.out HCN.out rfl rfl ?_
      have hN := hH.trans (kb.mono hH.size)
      clear hH kb
      refine hKK.out _ _ hN (fun hH => ?_)
      clear hKK KK hN
      try simp only [Act.put, List.setIfInBounds_toArray, List.set_cons_zero, List.set_cons_succ]
      change blockIs (y08.alloc (.cells (cs ++ cs).toArray 33 (0, 0))) _ _ _ at qb
      generalize y08.alloc (.cells (cs ++ cs).toArray 33 (0, 0)) = y18 at *
      generalize y08.heap.size = g8 at *
      rw [HCS.out] at qb
      have EC := encode_code (some ⟨g8, 0, none⟩) 2 [n, n] y18 2 rfl (by simp) W2.out.2.2.1 (two_row qb WN.out WN.out (IN.out.below hH (Nat.le_refl _)) (IN.out.below hH (Nat.le_refl _))) 2 PR.out.2.2.1
      refine wpAnyH_ready (rs := [9]) (by kernel_rfl) (by simp) ?_
      refine AllReadyH.cons (o := { dst := some 65, op := Op.call { callee := Callee.value (Operand.func 18), args := #[Operand.tmp 64], argTypes := #[27] }, type := 41, pos := "more.go:16", after := #[{ on := 8, ground := Ground.data }], guard := none }) rfl (fun KK hKK => ?_) AllReadyH.nil
      go_simp
      with_reducible refine EC.mono ?_
      rintro e y28 ⟨⟨v, rfl⟩, kb⟩
      have hN := hH.trans (kb.mono hH.size)
      clear hH kb EC qb
      refine hKK.out _ _ hN (fun hH => ?_)
      clear hKK KK hN
      try simp only [Act.put, List.setIfInBounds_toArray, List.set_cons_zero, List.set_cons_succ]
      refine wpAnyH_take (i := 10) (oi := { dst := some 55, op := Op.move (Operand.tmp 65), type := 41, pos := "more.go:16", after := #[{ on := 9, ground := Ground.data }], guard := none }) (v := .tuple #[v, .int .i64 2]) rfl (by kernel_rfl) (by kernel_rfl) (by kernel_rfl) (fun _ _ _ h => h) (Or.inl ⟨by rfl, fun wx hS => ?_⟩) hH ?_
      · go_simp
      simp only [Act.put, List.setIfInBounds_toArray, List.set_cons_zero, List.set_cons_succ]
      refine wpAnyH_take (i := 11) (oi := { dst := some 66, op := Op.extract (Operand.tmp 55) 0, type := 40, pos := "more.go:16", after := #[{ on := 10, ground := Ground.data }], guard := none }) (v := v) rfl (by kernel_rfl) (by kernel_rfl) (by kernel_rfl) (fun _ _ _ h => h) (Or.inl ⟨by rfl, fun wx hS => ?_⟩) hH ?_
      · go_simp
      simp only [Act.put, List.setIfInBounds_toArray, List.set_cons_zero, List.set_cons_succ]
      refine wpAnyH_take (i := 12) (oi := { dst := some 67, op := Op.extract (Operand.tmp 55) 1, type := 31, pos := "more.go:16", after := #[{ on := 10, ground := Ground.data }, { on := 13, ground := Ground.gcOnly Departure.lateStores }], guard := none }) (v := .int .i64 2) rfl (by kernel_rfl) (by kernel_rfl) (by kernel_rfl) (fun _ _ _ h => h) (Or.inl ⟨by rfl, fun wx hS => ?_⟩) hH ?_
      · go_simp
      simp only [Act.put, List.setIfInBounds_toArray, List.set_cons_zero, List.set_cons_succ]
      refine wpAnyH_take (i := 13) (oi := { dst := some 9, op := Op.assign (Operand.tmp 66), type := 40, pos := "more.go:16", after := #[{ on := 11, ground := Ground.data }, { on := 9, ground := Ground.chain }, { on := 0, ground := Ground.phase }, { on := 1, ground := Ground.phase }, { on := 2, ground := Ground.phase }, { on := 3, ground := Ground.phase }, { on := 4, ground := Ground.phase }, { on := 5, ground := Ground.phase }, { on := 6, ground := Ground.phase }, { on := 7, ground := Ground.phase }, { on := 8, ground := Ground.phase }, { on := 9, ground := Ground.phase }, { on := 10, ground := Ground.phase }, { on := 11, ground := Ground.phase }, { on := 12, ground := Ground.textOnly Departure.lateStores }], guard := none }) (v := v) rfl (by kernel_rfl) (by kernel_rfl) (by kernel_rfl) (fun _ _ _ h => h) (Or.inl ⟨by rfl, fun wx hS => ?_⟩) hH ?_
      · go_simp
      simp only [Act.put, List.setIfInBounds_toArray, List.set_cons_zero, List.set_cons_succ]
      refine wpAnyH_take (i := 14) (oi := { dst := some 10, op := Op.assign (Operand.tmp 67), type := 31, pos := "more.go:16", after := #[{ on := 12, ground := Ground.data }, { on := 13, ground := Ground.chain }, { on := 0, ground := Ground.phase }, { on := 1, ground := Ground.phase }, { on := 2, ground := Ground.phase }, { on := 3, ground := Ground.phase }, { on := 4, ground := Ground.phase }, { on := 5, ground := Ground.phase }, { on := 6, ground := Ground.phase }, { on := 7, ground := Ground.phase }, { on := 8, ground := Ground.phase }, { on := 9, ground := Ground.phase }, { on := 10, ground := Ground.phase }, { on := 11, ground := Ground.phase }, { on := 12, ground := Ground.phase }, { on := 13, ground := Ground.phase }], guard := none }) (v := .int .i64 2) rfl (by kernel_rfl) (by kernel_rfl) (by kernel_rfl) (fun _ _ _ h => h) (Or.inl ⟨by rfl, fun wx hS => ?_⟩) hH ?_
      · go_simp
      simp only [Act.put, List.setIfInBounds_toArray, List.set_cons_zero, List.set_cons_succ]
      refine wpAnyH_done (by kernel_rfl) ?_ _
      refine NoPanic.normal ?_
      replace HB := Lib.hid hH
      clear hH
      generalize v = v8 at *
      have RN9 := Lib.hid (range_below RN.out HB.out (Nat.le_refl _))
      have A9 := Lib.hid (alloc_below y28 (.cells cs.toArray 33 (0, 0)))
      have HB9 := Lib.hid (HB.out.trans (A9.out.mono HB.out.size))
      have qb := blockIs.new y28 cs 33
      have EC : Hid _ := Lib.hid (encode_code (some ⟨y28.heap.size, 0, none⟩) 1 [n] (y28.alloc (.cells cs.toArray 33 (0, 0))) 1 rfl (by simp) W2.out.2.2.2 (by
        rw [HCS.out] at HB9 qb ⊢
        exact one_row qb WN.out (IN.out.below HB9.out (Nat.le_refl _))) 0 PR.out.2.2.2)
      clear qb A9
      go_wp2_with (first | (refine load_nd (by rfl) _ rfl b (o + k * 39) rfl cs RN9.out HCN.out ?_) | (refine build_one (by rfl) 33 27 ntN _ rfl cs HCN.out rfl ?_; refine Hid.out ?_))
      refine Lib.hid ?_
      go_wp2_with fail
      with_reducible refine EC.out.mono ?_
      rintro e w9 ⟨⟨v9, rfl⟩, b9⟩
      have HB10 := Lib.hid (HB9.out.trans (b9.mono HB9.out.size))
      clear b9 EC HB9 HB RN9
      go_wp2_with fail
      go_roundw
      case rel => exact ⟨k1, by omega, by go_num, HB10⟩
      case measure => have := HK1.out; simp [intOf]; omega
    · have q0 : ¬ (k1 : Int) < (S.length : Int) := by omega
      have EC := Lib.hid (encode_code a3 c3 S wr S.length rfl (by omega) HWT.out (R3.out.below HB.out (Nat.le_refl _)) 0 (IO.out.okL (by omega)))
      go_wp2_with fail
      with_reducible refine EC.out.mono ?_
      rintro e w4 ⟨⟨v4, rfl⟩, b4⟩
      have B4 := Lib.hid (B3.out.trans ((HB.out.trans (b4.mono HB.out.size)).mono B3.out.size))
      clear b4 EC HB
      go_wp2_with fail
      with_reducible refine (nodes_any w4).mono ?_
      rintro e w5 ⟨rfl, b5⟩
      have B5 := Lib.hid (B4.out.trans (b5.mono B4.out.size))
      clear b5
      go_wp2_with fail
      go_ret
      exact ⟨rfl, B5.out⟩
end Go.Proofs.Ytjgmhaajcglpmaa
