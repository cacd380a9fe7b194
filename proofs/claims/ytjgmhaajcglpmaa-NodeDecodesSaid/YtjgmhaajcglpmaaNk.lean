/- Nodes: what their kinds have; names; Check. -/
import Derived.Test.YtjgmhaajcglpmaaNd
namespace Go.Proofs.Ytjgmhaajcglpmaa
open Go.RowKit

theorem str_empty (l : List UInt8) : (str l).toList.isEmpty = decide (l = []) := by
  rw [Lib.toList_data]
  cases l <;> simp [str]
/-- Has it what its kind has? -/
def Nd.kindOk (n : Nd) : Bool :=
  if n.kind = 0 then decide (n.target = []) && ((n.tree == noughts) && decide n.partsOk)
  else if n.kind = 1 then decide (n.target = []) && decide (n.size = 0 ∧ n.parts.length = 0)
  else if n.kind = 2 then !decide (n.target = []) && (decide (n.target.length ≤ 4095) && ((n.tree == noughts) && decide (n.size = 0 ∧ n.parts.length = 0)))
  else false
theorem load_many {P : Program} {ops : Array Oper} {rest : List Oper} {op : Oper} {a : Act} {w : World} {Q : Exit → Act → World → Prop} (hw : Region.wanted op (yielded ops a.tmps) = true) (ty : TypeId) (x : Operand) (ho : op.op = .load ty x)
    (b o : Nat) (hx : a.eval x = .pointer (some ⟨b, o, none⟩)) (cs : List Value) (d : TypeDesc) (hc : w.rangeAt b o cs)
    (hu : P.underlying ty = some d) (hd : d.isRow = true) (hi : (P.info? ty).map (·.size) = some cs.length)
    (h : wpList P ops Q rest (a.put op.dst (.agg cs.toArray)) w) : wpList P ops Q (op :: rest) a w :=
  BigFrame.wpList_want hw fun _ hK => wp_load_mid ty x ho b o hx cs d hc hu hd hi (hK _ _ h)
section
variable {ops : Array Oper} {rest : List Oper} {op : Oper} {a : Act} {w : World} {Q : Exit → Act → World → Prop}
theorem load_id (hw : Region.wanted op (yielded ops a.tmps) = true) (x : Operand) (ho : op.op = .load 24 x) (b o : Nat) (hx : a.eval x = .pointer (some ⟨b, o, none⟩)) (cs : List Value) (hc : w.rangeAt b o cs) (hl : cs.length = 32)
    (h : wpList Try.prog ops Q rest (a.put op.dst (.agg cs.toArray)) w) : wpList Try.prog ops Q (op :: rest) a w :=
  load_many hw 24 x ho b o hx cs _ hc Try.underlying24 rfl (by rw [hl]; kernel_rfl) h
theorem load_nd (hw : Region.wanted op (yielded ops a.tmps) = true) (x : Operand) (ho : op.op = .load 33 x) (b o : Nat) (hx : a.eval x = .pointer (some ⟨b, o, none⟩)) (cs : List Value) (hc : w.rangeAt b o cs) (hl : cs.length = 39)
    (h : wpList Try.prog ops Q rest (a.put op.dst (.agg cs.toArray)) w) : wpList Try.prog ops Q (op :: rest) a w :=
  load_many hw 33 x ho b o hx cs _ hc Try.underlying33 rfl (by rw [hl]; kernel_rfl) h
theorem load_rn (hw : Region.wanted op (yielded ops a.tmps) = true) (x : Operand) (ho : op.op = .load 26 x) (b o : Nat) (hx : a.eval x = .pointer (some ⟨b, o, none⟩)) (cs : List Value) (hc : w.rangeAt b o cs) (hl : cs.length = 39)
    (h : wpList Try.prog ops Q rest (a.put op.dst (.agg cs.toArray)) w) : wpList Try.prog ops Q (op :: rest) a w :=
  load_many hw 26 x ho b o hx cs _ hc Try.underlying26 rfl (by rw [hl]; kernel_rfl) h
theorem build_id (hw : Region.wanted op (yielded ops a.tmps) = true) (ho : op.op = .build 24 #[])
    (h : wpList Try.prog ops Q rest (a.put op.dst (.agg (bvals noughts).toArray)) w) : wpList Try.prog ops Q (op :: rest) a w := by
  refine BigFrame.wpList_want hw fun K hK => ?_
  have hrun : (Instr.build 24 #[]).run Try.prog w = .ok (.agg (bvals noughts).toArray) w := by kernel_rfl
  unfold Oper.wp execOp
  simp only [ho, Sem.run_bind, List.map_toArray, List.map_nil, hrun, Result.andThen_ok, Sem.run_pure]
  exact hK _ _ h
end
set_option maxRecDepth 100000 in
set_option maxHeartbeats 2000000 in
theorem fitsKind_any (n : Nd) (a : Option Addr) (c : Nat) (w : World) (ht : n.tree.length = 32) :
    Calls Try.prog 27 #[.agg (n.cells (.slice a n.parts.length c)).toArray] w fun e w' => e = .returned (.bool n.kindOk) ∧ Below w.heap.size w w' := by
  have B1 := Lib.hid ((Below.refl w.heap.size w).alloc (Nat.le_refl _) (.cells (n.cells (.slice a n.parts.length c)).toArray 33 (0, 0)))
  have HB := blockIs.new w (n.cells (.slice a n.parts.length c)) 33
  obtain ⟨-, c1, -, -, -, c5, -⟩ := nd_block HB
  have R1 := Lib.hid (nd_tree HB)
  have R2 := Lib.hid (nd_all HB)
  have H2 := Lib.hid (n.cells_length (.slice a n.parts.length c) ht)
  have H1 : Hid ((bvals n.tree).length = 32) := Lib.hid (by rw [bvals_length, ht])
  have FP := fun w => Lib.hid (fitsParts_any n a c w)
  have EM := fun w => Lib.hid (isEmpty_any n a c w ht)
  have EQ := fun w => eql_ids n.tree noughts ht rfl w
  have hg := egt_id
  have hem := str_empty n.target
  have hts := str_size n.target
  clear HB
  generalize n.cells (.slice a n.parts.length c) = cs at *
  unfold Nd.kindOk
  generalize decide (n.size = 0 ∧ n.parts.length = 0) = em at *
  generalize decide n.partsOk = po at *
  by_cases k0 : n.kind = 0
  · rw [if_pos k0]
    rw [k0] at c1
    clear k0
    cases q1 : decide (n.target = []) with
    | false =>
      rw [q1] at hem
      go_enter Try.func27, Try.ntmps27
      go_wp2_with fail
      go_ret
      exact ⟨rfl, B1.out⟩
    | true =>
      rw [q1] at hem
      cases q2 : (n.tree == noughts) with
      | false =>
        rw [q2] at EQ
        generalize bvals n.tree = tb at *
        go_enter Try.func27, Try.ntmps27
        go_wp2_with (first | (refine load_id (by rfl) _ rfl w.heap.size 7 rfl tb R1.out H1.out ?_) | (refine build_id (by rfl) rfl ?_) | (refine load_nd (by rfl) _ rfl w.heap.size 0 rfl cs R2.out H2.out ?_))
        go_ret
        exact ⟨rfl, B1.out⟩
      | true =>
        rw [q2] at EQ
        generalize bvals n.tree = tb at *
        go_enter Try.func27, Try.ntmps27
        go_wp2_with (first | (refine load_id (by rfl) _ rfl w.heap.size 7 rfl tb R1.out H1.out ?_) | (refine build_id (by rfl) rfl ?_) | (refine load_nd (by rfl) _ rfl w.heap.size 0 rfl cs R2.out H2.out ?_))
        with_reducible refine (FP _).out.mono ?_
        rintro e w' ⟨rfl, b2⟩
        have B2 := Lib.hid (B1.out.trans (b2.mono B1.out.size))
        clear b2
        go_wp2_with fail
        go_ret
        exact ⟨rfl, B2.out⟩
  · rw [if_neg k0]
    by_cases k1 : n.kind = 1
    · rw [if_pos k1]
      rw [k1] at c1
      clear k0 k1
      cases q1 : decide (n.target = []) with
      | false =>
        rw [q1] at hem
        go_enter Try.func27, Try.ntmps27
        go_wp2_with fail
        go_ret
        exact ⟨rfl, B1.out⟩
      | true =>
        rw [q1] at hem
        go_enter Try.func27, Try.ntmps27
        go_wp2_with (refine load_nd (by rfl) _ rfl w.heap.size 0 rfl cs R2.out H2.out ?_)
        with_reducible refine (EM _).out.mono ?_
        rintro e w' ⟨rfl, b2⟩
        have B2 := Lib.hid (B1.out.trans (b2.mono B1.out.size))
        clear b2
        go_wp2_with fail
        go_ret
        exact ⟨rfl, B2.out⟩
    · rw [if_neg k1]
      by_cases k2 : n.kind = 2
      · rw [if_pos k2]
        rw [k2] at c1
        clear k0 k1 k2
        cases q1 : decide (n.target = []) with
        | true =>
          rw [q1] at hem
          go_enter Try.func27, Try.ntmps27
          go_wp2_with fail
          go_ret
          exact ⟨rfl, B1.out⟩
        | false =>
          rw [q1] at hem
          by_cases q3 : n.target.length ≤ 4095
          · rw [decide_eq_true q3]
            have q3i : (n.target.length : Int) ≤ 4095 := by omega
            cases q2 : (n.tree == noughts) with
            | false =>
              rw [q2] at EQ
              generalize bvals n.tree = tb at *
              go_enter Try.func27, Try.ntmps27
              go_wp2_with (first | (refine load_id (by rfl) _ rfl w.heap.size 7 rfl tb R1.out H1.out ?_) | (refine build_id (by rfl) rfl ?_) | (refine load_nd (by rfl) _ rfl w.heap.size 0 rfl cs R2.out H2.out ?_))
              go_ret
              exact ⟨rfl, B1.out⟩
            | true =>
              rw [q2] at EQ
              generalize bvals n.tree = tb at *
              go_enter Try.func27, Try.ntmps27
              go_wp2_with (first | (refine load_id (by rfl) _ rfl w.heap.size 7 rfl tb R1.out H1.out ?_) | (refine build_id (by rfl) rfl ?_) | (refine load_nd (by rfl) _ rfl w.heap.size 0 rfl cs R2.out H2.out ?_))
              with_reducible refine (EM _).out.mono ?_
              rintro e w' ⟨rfl, b2⟩
              have B2 := Lib.hid (B1.out.trans (b2.mono B1.out.size))
              clear b2
              go_wp2_with fail
              go_ret
              exact ⟨rfl, B2.out⟩
          · rw [decide_eq_false q3]
            have q3i : ¬ (n.target.length : Int) ≤ 4095 := by omega
            go_enter Try.func27, Try.ntmps27
            go_wp2_with fail
            go_ret
            exact ⟨rfl, B1.out⟩
      · rw [if_neg k2]
        have e0 : (n.kind == 0) = false := by simpa using k0
        have e1 : (n.kind == 1) = false := by simpa using k1
        have e2 : (n.kind == 2) = false := by simpa using k2
        clear k0 k1 k2
        go_enter Try.func27, Try.ntmps27
        go_wp2_with fail
        go_ret
        exact ⟨rfl, B1.out⟩
/-- May an item be called so? -/
def nameOk (l : List UInt8) : Bool := !decide (l = []) && (decide (l.length ≤ 255) && (!hasSep l && (!decide (l = [46]) && !decide (l = [46, 46]))))
theorem str_is (l m : List UInt8) : ((str l).toList == m) = decide (l = m) := by
  rw [Lib.toList_data]
  show (l == m) = _
  rw [Bool.eq_iff_iff, beq_iff_eq, decide_eq_true_eq]
set_option maxRecDepth 100000 in
set_option maxHeartbeats 2000000 in
theorem isName_any (l : List UInt8) (w : World) :
    Calls Try.prog 14 #[.string (str l)] w fun e w' => e = .returned (.bool (nameOk l)) ∧ Below w.heap.size w w' := by
  have hs := str_size l
  have hem := str_empty l
  unfold nameOk
  cases q1 : decide (l = []) with
  | true =>
    rw [q1] at hem
    go_enter Try.func14, Try.ntmps14
    go_wp2_with fail
    go_ret
    exact ⟨rfl, Below.refl _ _⟩
  | false =>
    rw [q1] at hem
    by_cases q2 : l.length ≤ 255
    · rw [decide_eq_true q2]
      have q2i : (l.length : Int) ≤ 255 := by omega
      have CA := Lib.hid (contains_any l (by omega) w)
      have e1 : ((str l).toList == [46]) = decide (l = [46]) := str_is l [46]
      have e2 : ((str l).toList == [46, 46]) = decide (l = [46, 46]) := str_is l [46, 46]
      have hsep : (⟨#[47, 0]⟩ : ByteArray) = sep := rfl
      generalize hasSep l = hb at *
      generalize decide (l = [46]) = d1 at *
      generalize decide (l = [46, 46]) = d2 at *
      clear q2
      go_enter Try.func14, Try.ntmps14
      go_wp2_with fail
      with_reducible refine CA.out.mono ?_
      rintro e w' ⟨rfl, b2⟩
      have B2 := Lib.hid b2
      clear b2 CA
      cases hb with
      | true =>
        go_wp2_with fail
        go_ret
        exact ⟨rfl, B2.out⟩
      | false =>
        cases d1 with
        | true =>
          go_wp2_with fail
          go_ret
          exact ⟨rfl, B2.out⟩
        | false =>
          go_wp2_with fail
          go_ret
          exact ⟨rfl, B2.out⟩
    · rw [decide_eq_false q2]
      have q2i : ¬ (l.length : Int) ≤ 255 := by omega
      go_enter Try.func14, Try.ntmps14
      go_wp2_with fail
      go_ret
      exact ⟨rfl, Below.refl _ _⟩
/-- What Check tells. -/
def Nd.check (n : Nd) : Int :=
  if nameOk n.name = true then (if (0 ≤ n.mode ∧ n.mode ≤ 4095) ∧ (0 ≤ n.time ∧ n.time ≤ 1099511627776) ∧ n.kindOk = true then 0 else 2) else 5
set_option maxRecDepth 100000 in
set_option maxHeartbeats 2000000 in
theorem check_any (n : Nd) (a : Option Addr) (c : Nat) (w : World) (ht : n.tree.length = 32) :
    Calls Try.prog 12 #[.agg (n.cells (.slice a n.parts.length c)).toArray] w fun e w' => e = .returned (.int .i64 n.check) ∧ Below w.heap.size w w' := by
  have B1 := Lib.hid ((Below.refl w.heap.size w).alloc (Nat.le_refl _) (.cells (n.cells (.slice a n.parts.length c)).toArray 33 (0, 0)))
  have HB := Lib.hid (blockIs.new w (n.cells (.slice a n.parts.length c)) 33)
  obtain ⟨c0, -⟩ := nd_block HB.out
  have H2 := Lib.hid (n.cells_length (.slice a n.parts.length c) ht)
  have FK := fun w => Lib.hid (fitsKind_any n a c w ht)
  have IN := fun w => Lib.hid (isName_any n.name w)
  have WM := fun w => Lib.hid (within_any n.mode 4095 w)
  have WT := fun w => Lib.hid (within_any n.time 1099511627776 w)
  generalize hcs : n.cells (.slice a n.parts.length c) = cs at *
  have HCS := Lib.hid hcs
  clear hcs
  unfold Nd.check
  cases q0 : nameOk n.name with
  | false =>
    rw [q0] at IN
    rw [if_neg (by decide)]
    go_enter Try.func12, Try.ntmps12
    go_wp2_with fail
    with_reducible refine (IN _).out.mono ?_
    rintro e w' ⟨rfl, b2⟩
    have B2 := Lib.hid (B1.out.trans (b2.mono B1.out.size))
    clear b2
    go_wp2_with fail
    go_ret
    exact ⟨rfl, B2.out⟩
  | true =>
    rw [q0] at IN
    rw [if_pos rfl]
    by_cases q1 : 0 ≤ n.mode ∧ n.mode ≤ 4095
    · by_cases q2 : 0 ≤ n.time ∧ n.time ≤ 1099511627776
      · rw [show ((if (0 ≤ n.mode ∧ n.mode ≤ 4095) ∧ (0 ≤ n.time ∧ n.time ≤ 1099511627776) ∧ n.kindOk = true then 0 else 2) : Int) = if n.kindOk = true then 0 else 2 by simp only [q1, q2, true_and, and_self]]
        rw [decide_eq_true q1] at WM
        rw [decide_eq_true q2] at WT
        clear q1 q2
        generalize n.kindOk = ok at *
        go_enter Try.func12, Try.ntmps12
        go_wp2_with fail
        with_reducible refine (IN _).out.mono ?_
        rintro e w' ⟨rfl, b2⟩
        have B2 := Lib.hid (B1.out.trans (b2.mono B1.out.size))
        have HB2 := Lib.hid (HB.out.below b2 HB.out.lt)
        clear b2
        rw [← HCS.out] at HB2
        obtain ⟨-, -, c2, c3, -, -, -⟩ := nd_block HB2.out
        have R2 := Lib.hid (nd_all HB2.out)
        rw [HCS.out] at R2
        go_wp2_with fail
        with_reducible refine (WM _).out.mono ?_
        rintro e w2 ⟨rfl, rfl⟩
        go_wp2_with fail
        with_reducible refine (WT _).out.mono ?_
        rintro e w2 ⟨rfl, rfl⟩
        go_wp2_with (refine load_nd (by rfl) _ rfl w.heap.size 0 rfl cs R2.out H2.out ?_)
        with_reducible refine (FK _).out.mono ?_
        rintro e w2 ⟨rfl, b3⟩
        have B3 := Lib.hid (B2.out.trans (b3.mono B2.out.size))
        clear b3
        cases ok with
        | true =>
          go_wp2_with fail
          go_ret
          exact ⟨rfl, B3.out⟩
        | false =>
          go_wp2_with fail
          go_ret
          exact ⟨rfl, B3.out⟩
      · rw [if_neg (fun h => q2 h.2.1)]
        rw [decide_eq_true q1] at WM
        rw [decide_eq_false q2] at WT
        clear q1 q2
        go_enter Try.func12, Try.ntmps12
        go_wp2_with fail
        with_reducible refine (IN _).out.mono ?_
        rintro e w' ⟨rfl, b2⟩
        have B2 := Lib.hid (B1.out.trans (b2.mono B1.out.size))
        have HB2 := Lib.hid (HB.out.below b2 HB.out.lt)
        clear b2
        rw [← HCS.out] at HB2
        obtain ⟨-, -, c2, c3, -, -, -⟩ := nd_block HB2.out
        go_wp2_with fail
        with_reducible refine (WM _).out.mono ?_
        rintro e w2 ⟨rfl, rfl⟩
        go_wp2_with fail
        with_reducible refine (WT _).out.mono ?_
        rintro e w2 ⟨rfl, rfl⟩
        go_wp2_with fail
        go_ret
        exact ⟨rfl, B2.out⟩
    · rw [if_neg (fun h => q1 h.1)]
      rw [decide_eq_false q1] at WM
      clear q1
      go_enter Try.func12, Try.ntmps12
      go_wp2_with fail
      with_reducible refine (IN _).out.mono ?_
      rintro e w' ⟨rfl, b2⟩
      have B2 := Lib.hid (B1.out.trans (b2.mono B1.out.size))
      have HB2 := Lib.hid (HB.out.below b2 HB.out.lt)
      clear b2
      rw [← HCS.out] at HB2
      obtain ⟨-, -, c2, c3, -, -, -⟩ := nd_block HB2.out
      go_wp2_with fail
      with_reducible refine (WM _).out.mono ?_
      rintro e w2 ⟨rfl, rfl⟩
      go_wp2_with fail
      go_ret
      exact ⟨rfl, B2.out⟩
end Go.Proofs.Ytjgmhaajcglpmaa
