/- Names in their order; nodes put behind one another, many at a time. -/
import Derived.Test.YtjgmhaajcglpmaaNs
import Derived.Test.YtjgmhaajcglpmaaNt
namespace Go.Proofs.Ytjgmhaajcglpmaa
open Go.RowKit

theorem less_irr : ∀ x : List UInt8, Op.bytesLess x x = false
  | [] => rfl
  | a :: x => by
    rw [Op.bytesLess, less_irr x]
    simp
theorem less_asymm : ∀ x y : List UInt8, Op.bytesLess x y = true → Op.bytesLess y x = false
  | _, [], h => by simp [Op.bytesLess] at h
  | [], _ :: _, _ => rfl
  | a :: x, b :: y, h => by
    simp only [Op.bytesLess, Bool.or_eq_true, Bool.and_eq_true, decide_eq_true_eq, beq_iff_eq] at h
    simp only [Op.bytesLess, Bool.or_eq_false_iff, Bool.and_eq_false_iff, decide_eq_false_iff_not, beq_eq_false_iff_ne]
    rcases h with h | ⟨rfl, h⟩
    · have h' : a.toNat < b.toNat := UInt8.lt_iff_toNat_lt.1 h
      exact ⟨fun q => by have := UInt8.lt_iff_toNat_lt.1 q; omega, Or.inl (fun e => by subst e; omega)⟩
    · exact ⟨fun q => by have := UInt8.lt_iff_toNat_lt.1 q; omega, Or.inr (less_asymm x y h)⟩
theorem less_total : ∀ x y : List UInt8, x ≠ y → Op.bytesLess x y = false → Op.bytesLess y x = true
  | [], [], h, _ => absurd rfl h
  | [], _ :: _, _, h => by simp [Op.bytesLess] at h
  | _ :: _, [], _, _ => rfl
  | a :: x, b :: y, h, q => by
    simp only [Op.bytesLess, Bool.or_eq_false_iff, Bool.and_eq_false_iff, decide_eq_false_iff_not, beq_eq_false_iff_ne] at q
    simp only [Op.bytesLess, Bool.or_eq_true, Bool.and_eq_true, decide_eq_true_eq, beq_iff_eq]
    have q1 : ¬ a.toNat < b.toNat := fun e => q.1 (UInt8.lt_iff_toNat_lt.2 e)
    by_cases e : a = b
    · subst e
      exact Or.inr ⟨rfl, less_total x y (fun e => h (by rw [e])) (q.2.resolve_left (fun n => n rfl))⟩
    · refine Or.inl (UInt8.lt_iff_toNat_lt.2 ?_)
      have : a.toNat ≠ b.toNat := fun e2 => e (UInt8.toNat_inj.1 e2)
      omega
theorem leN_of_less {a b : Nd} (h : Op.bytesLess a.name b.name = true) : leN a b = false := by
  unfold leN
  rw [less_asymm _ _ h]
  cases q : b.name == a.name
  · rfl
  · rw [eq_of_beq q, less_irr] at h
    cases h
theorem leN_self (a : Nd) : leN a a = true := by
  unfold leN
  simp
theorem leN_back {a b : Nd} (h : leN a b = false) : leN b a = true := by
  unfold leN at h ⊢
  simp only [Bool.or_eq_false_iff, beq_eq_false_iff_ne] at h
  rw [less_total _ _ h.2 h.1]
  rfl
theorem rises_ins (B : List Nd) (n : Nd) (hB : ∀ y, B.head? = some y → leN n y = false) : ∀ A : List Nd, risesN (A ++ B) = true → (∀ x, A.getLast? = some x → leN x n = false) → risesN (A ++ [n] ++ B) = true
  | [], h, _ => by
    cases B with
    | nil => rfl
    | cons y B =>
      have e := hB y rfl
      have h : risesN (y :: B) = true := h
      show (!leN n y && risesN (y :: B)) = true
      rw [e, h]
      rfl
  | [a], h, hA => by
    have e := hA a rfl
    have h0 : risesN B = true := by
      cases B with
      | nil => rfl
      | cons y B =>
        have h : (!leN a y && risesN (y :: B)) = true := h
        simp only [Bool.and_eq_true] at h
        exact h.2
    have h2 := rises_ins B n hB [] h0 (fun x hx => by cases hx)
    show (!leN a n && risesN ([] ++ [n] ++ B)) = true
    rw [e, h2]
    rfl
  | a :: a' :: A, h, hA => by
    have h : (!leN a a' && risesN ((a' :: A) ++ B)) = true := h
    simp only [Bool.and_eq_true] at h
    have h2 := rises_ins B n hB (a' :: A) h.2 (fun x hx => hA x (by rw [List.getLast?_cons_cons]; exact hx))
    show (!leN a a' && risesN ((a' :: A) ++ [n] ++ B)) = true
    rw [h.1, h2]
    rfl
/-- Nodes in form, by their names, each name once. -/
def inOrder (L S : List Nd) : Prop := (∀ n ∈ S, n ∈ L ∧ n.check = 0) ∧ risesN S = true
theorem inOrder.insert {L S : List Nd} (h : inOrder L S) (n : Nd) (hn : n ∈ L) (hc : n.check = 0) (k : Nat) (hk : k ≤ S.length) (h1 : k = 0 ∨ ∃ hk' : k - 1 < S.length, Op.bytesLess S[k - 1].name n.name = true)
    (h2 : k = S.length ∨ ∃ hk' : k < S.length, Op.bytesLess S[k].name n.name = false ∧ S[k].name ≠ n.name) : inOrder L (S.take k ++ [n] ++ S.drop k) := by
  refine ⟨fun m hm => ?_, ?_⟩
  · rw [List.mem_append, List.mem_append, List.mem_singleton] at hm
    rcases hm with (hm | rfl) | hm
    · exact h.1 m (List.mem_of_mem_take hm)
    · exact ⟨hn, hc⟩
    · exact h.1 m (List.mem_of_mem_drop hm)
  · refine rises_ins _ n (fun y hy => ?_) _ (by rw [List.take_append_drop]; exact h.2) (fun x hx => ?_)
    · rcases h2 with rfl | ⟨hk', e1, e2⟩
      · rw [List.drop_length] at hy
        cases hy
      · rw [List.head?_drop, List.getElem?_eq_getElem hk'] at hy
        cases hy
        unfold leN
        rw [e1]
        simpa using e2
    · rcases h1 with rfl | ⟨hk', e⟩
      · rw [List.take_zero] at hx
        cases hx
      · by_cases h0 : k = 0
        · subst h0
          rw [List.take_zero] at hx
          cases hx
        · rw [List.getLast?_eq_getElem?, List.length_take, Nat.min_eq_left hk, List.getElem?_take, if_pos (by omega), List.getElem?_eq_getElem hk'] at hx
          cases hx
          exact leN_of_less e
theorem firstE_all : ∀ S : List Nd, (∀ n ∈ S, n.check = 0) → firstE S = 0
  | [], _ => rfl
  | n :: S, h => by
    rw [firstE, if_pos (h n List.mem_cons_self)]
    exact firstE_all S fun m hm => h m (List.mem_cons_of_mem _ hm)
theorem inOrder.okL {L S : List Nd} (h : inOrder L S) (hl : S.length ≤ 2000) : checkL S = 0 := by
  have h1 : firstE S = 0 := firstE_all S (fun n hn => (h.1 n hn).2)
  have h2 := h.2
  simp [checkL, h1, h2, Nat.not_lt.2 hl]

/-! Rows of one's own from B on; what they name is older than base, or made of names. -/
def ownR (w : World) (base B : Nat) (t : TypeId) (v : Value) (Q : List (Nd × Value)) : Prop := w.ownsRow B t 39 v Q.length (qcells Q) ∧ ∀ q ∈ Q, q.1.Wf ∧ idsIn w q.2 q.1.parts ∧ safe w base q.2
theorem ids_grown2 {w w' : World} {base B : Nat} {t : TypeId} {u v : Value} {n : Nat} {cs : List Value} {P : List (List UInt8)} (hbB : base ≤ B) (h : idsIn w v P) (hs : safe w base v) (hown : w.ownsRow B t 39 u n cs) (ht : t ≠ 24) (hg : w.grownBy w' u.ownBlock) :
    idsIn w' v P ∧ safe w' base v := by
  have hs2 : safe w B v := fun b o s n c e => by
    rcases hs b o s n c e with h | h | h
    · exact Or.inl h
    · exact Or.inr (Or.inl (Nat.lt_of_lt_of_le h hbB))
    · exact Or.inr (Or.inr h)
  obtain ⟨g1, g2⟩ := ids_grown h hs2 hown ht hg
  refine ⟨g1, fun b o s n c e => ?_⟩
  rcases hs b o s n c e with h | h | ⟨cur, fz, h⟩
  · exact Or.inl h
  · exact Or.inr (Or.inl h)
  · have hl : b < w.heap.size := (Array.getElem?_eq_some_iff.1 h).1
    refine Or.inr (Or.inr ⟨cur, fz, ?_⟩)
    rw [hg.block b hl (fun e2 => own_not hown ht (Or.inr ⟨cur, fz, h⟩) e2.symm)]
    exact h
/-- A row to take nodes from. -/
def srcQ (w : World) (base : Nat) (A : Option Addr) (Q : List (Nd × Value)) : Prop := (∀ q ∈ Q, q.1.Wf ∧ idsIn w q.2 q.1.parts ∧ safe w base q.2) ∧ (Q = [] ∨ ∃ b o, A = some ⟨b, o, none⟩ ∧ w.rangeAt b o (qcells Q))
theorem srcQ.below {w w' : World} {base B : Nat} {A : Option Addr} {Q : List (Nd × Value)} (h : srcQ w base A Q) (hb : Below B w w') (hB : w.heap.size ≤ B) : srcQ w' base A Q := by
  refine ⟨fun q hq => ?_, ?_⟩
  · obtain ⟨h1, h2, h3⟩ := h.1 q hq
    exact ⟨h1, h2.below hb hB, h3.below (hb.mono hB)⟩
  · rcases h.2 with h | ⟨b, o, e, h⟩
    · exact Or.inl h
    · exact Or.inr ⟨b, o, e, range_below h hb hB⟩
theorem ownN.open {w : World} {base : Nat} {t : TypeId} {v : Value} {L : List Nd} (h : ownN w base t v L) : ∃ (A : Option Addr) (c : Nat) (Q : List (Nd × Value)), v = .slice A L.length c ∧ Q.map Prod.fst = L ∧ L.length ≤ c ∧ c ≤ 9223372036854775807 ∧ (A = none → c = 0) ∧ rowN w A L ∧
    (∀ k, k ≤ L.length → srcQ w base A (Q.take k)) ∧ ∀ k, k ≤ L.length → srcQ w base (if c = k then A else A.map (fun x => x.add (k * 39))) (Q.drop k) := by
  obtain ⟨A, c, hv, h1, h2, h3, h4⟩ := h.row
  obtain ⟨Q, rfl, o1, o2⟩ := h
  refine ⟨A, c, Q, hv, rfl, h1, h2, h3, h4, fun k hk => ⟨fun q hq => o2 q (List.mem_of_mem_take hq), ?_⟩, fun k hk => ⟨fun q hq => o2 q (List.mem_of_mem_drop hq), ?_⟩⟩
  all_goals
    rw [List.length_map] at h1 hk hv
    subst hv
    have e0 : qcells Q = qcells (Q.take k) ++ qcells (Q.drop k) := by
      unfold qcells
      rw [← List.flatMap_append, List.take_append_drop]
    have el : (qcells (Q.take k)).length = k * 39 := by
      rw [qcells_length _ (fun q hq => (o2 q (List.mem_of_mem_take hq)).1.tree), List.length_take, Nat.min_eq_left hk]
    rcases o1.2 with ⟨e, h0⟩ | ⟨g, cap, cur, e, -⟩
  · have : Q = [] := List.eq_nil_of_length_eq_zero h0
    subst this
    exact Or.inl (by simp)
  · cases e
    refine Or.inr ⟨g, 0, rfl, fun j u hu => ?_⟩
    have := World.ownsRow.cells o1 (g := g) rfl j u (by rw [e0, List.getElem?_append_left (List.getElem?_eq_some_iff.1 hu).1]; exact hu)
    rw [Addr.add_lit] at this
    exact this
  · have : Q = [] := List.eq_nil_of_length_eq_zero h0
    subst this
    exact Or.inl (by simp)
  · cases e
    by_cases hc : c = k
    · exact Or.inl (List.drop_eq_nil_of_le (by omega))
    · refine Or.inr ⟨g, k * 39, by rw [if_neg hc, Option.map_some, Addr.add_lit, Nat.zero_add], fun j u hu => ?_⟩
      have := World.ownsRow.cells o1 (g := g) rfl (k * 39 + j) u (by rw [e0, List.getElem?_append_right (by omega), el, Nat.add_sub_cancel_left]; exact hu)
      rw [Addr.add_lit, Nat.zero_add] at this
      exact this
theorem srcQ.one {w : World} {base g : Nat} {n : Nd} {pv : Value} {t : TypeId} (hb : blockIs w g (n.cells pv) t) (hwf : n.Wf) (hid : idsIn w pv n.parts) (hs : safe w base pv) : srcQ w base (some ⟨g, 0, none⟩) [(n, pv)] := by
  refine ⟨fun q hq => ?_, Or.inr ⟨g, 0, rfl, fun j u hu => ?_⟩⟩
  · rw [List.mem_singleton.1 hq]
    exact ⟨hwf, hid, hs⟩
  · rw [Nat.zero_add, hb.cell]
    simpa [qcells] using hu
theorem ownR.weak {w : World} {base B : Nat} {t : TypeId} {v : Value} {Q : List (Nd × Value)} (h : ownR w base B t v Q) (hbB : base ≤ B) : ownN w base t v (Q.map Prod.fst) := by
  refine ⟨Q, rfl, ⟨h.1.1, ?_⟩, h.2⟩
  rcases h.1.2 with q | ⟨g, cap, cur, e, hb, rest⟩
  · exact Or.inl q
  · exact Or.inr ⟨g, cap, cur, e, Nat.le_trans hbB hb, rest⟩
theorem ownR.below {w w' : World} {base B : Nat} {t : TypeId} {v : Value} {Q : List (Nd × Value)} (h : ownR w base B t v Q) (hb : Below w.heap.size w w') : ownR w' base B t v Q := by
  have hg : w.grownBy w' none := ⟨hb.os, hb.tape, hb.output, hb.size, fun k hk _ => hb.block k hk⟩
  refine ⟨World.ownsRow.kept h.1 hg ?_, fun q hq => ?_⟩
  · cases v.ownBlock with
    | none => exact Or.inl rfl
    | some g => exact Or.inr (by simp)
  · obtain ⟨q1, q2, q3⟩ := h.2 q hq
    exact ⟨q1, q2.below hb (Nat.le_refl _), q3.below hb⟩
theorem qcells_one (Q : List (Nd × Value)) (h : ∀ q ∈ Q, q.2.oneCell' = true) : ∀ u ∈ qcells Q, u.oneCell' = true := by
  intro u hu
  obtain ⟨q, hq, hu⟩ := List.mem_flatMap.1 hu
  exact cells_one q.1 q.2 (h q hq) u hu
section
variable {w : World} {ops : Array Oper} {rest : List Oper} {o : Oper} {a : Act} {K : Act → World → Prop} {Q : Exit → Act → World → Prop} {E : Prop}
theorem step_append_rows (hw : Region.wanted o (yielded ops a.tmps) = true) (t ts : TypeId) (nt : NT t ts) (s x : Operand) (ho : o.op = .call { callee := .builtin .append, args := #[s, x], argTypes := #[ts, ts] })
    (base B : Nat) (hbB : base ≤ B) (v : Value) (Q0 : List (Nd × Value)) (hs : a.eval s = v) (hown : ownR w base B t v Q0) (A : Option Addr) (m c : Nat) (M : List (Nd × Value)) (hm : M.length = m) (hx : a.eval x = .slice A m c) (hmc : m ≤ c) (hz : A = none → c = 0) (hsrc : srcQ w base A M)
    (hn : Q0.length + M.length ≤ 1000000) (hbase : B ≤ w.heap.size)
    (h : ∀ v' w', Hid (ownR w' base B t v' (Q0 ++ M)) → Hid (w.grownBy w' v.ownBlock) → Hid (Below B w w') → K (a.put o.dst v') w') : if Region.wanted o (yielded ops a.tmps) = true then Oper.wp Try.prog o a w K Q else E := by
  rw [if_pos hw]
  obtain ⟨i0, hi, hz0, hz1, hz2⟩ := info_parts nt.info
  obtain ⟨h1, h2⟩ := hown
  cases A with
  | none =>
    obtain rfl := hz rfl
    obtain rfl : m = 0 := by omega
    obtain rfl : M = [] := List.eq_nil_of_length_eq_zero hm
    have hrun := run_append_owned_none (P := Try.prog) (w := w) B ts o.type t i0 39 nt.und hi v _ _ h1
    have hx' : a.eval x = .slice none 0 0 := hx
    unfold Oper.wp
    simp [execOp, ho, resolve, invoke, builtin, hs, hx', hrun, Result.andThen]
    exact h v w (Lib.hid (by rw [List.append_nil]; exact ⟨h1, h2⟩)) (Lib.hid (World.grownBy.refl w _)) (Lib.hid (Below.refl _ _))
  | some ad =>
    have hl := qcells_length M (fun q hq => (hsrc.1 q hq).1.tree)
    have ec : qcells (Q0 ++ M) = qcells Q0 ++ qcells M := by simp [qcells]
    refine wp_append_own w s x ts ho B t i0 _ 39 120 nt.und hi hz0 hz1 hz2 (by simp [Value.cells, Nd.cells_length zeroNd (.slice none 0 0) rfl]) (by decide) v Q0.length (qcells Q0) hs h1 ad m c (qcells M) hx (by omega) (fun j u hj => ?_) (qcells_one M (fun q hq => ?_)) (by unfold maxLen; omega) (by omega) hbase (fun v' w' r1 r2 _ => h v' w' (Lib.hid ?_) (Lib.hid r2) (Lib.hid (own_grown h1 r2 hbase)))
    · rcases hsrc.2 with e | ⟨b, o', e, hr⟩
      · rw [e] at hj
        simp [qcells] at hj
      · cases e
        rw [Addr.add_lit]
        exact hr j u hj
    · obtain ⟨pa, pc, e⟩ := (hsrc.1 q hq).2.1.form
      rw [e]
      rfl
    · refine ⟨?_, fun p hp => ?_⟩
      · rw [List.length_append, hm, ec]
        exact r1
      · rcases List.mem_append.1 hp with hp | hp
        · obtain ⟨p1, p2, p3⟩ := h2 p hp
          exact ⟨p1, ids_grown2 hbB p2 p3 h1 nt.ne r2⟩
        · obtain ⟨p1, p2, p3⟩ := hsrc.1 p hp
          exact ⟨p1, ids_grown2 hbB p2 p3 h1 nt.ne r2⟩
end
theorem sz_rn : (sizeOf 26).run Try.prog = fun w => .ok 39 w := by kernel_rfl
theorem run_from (a : Option Addr) (n c i : Nat) (hi : i ≤ n) (hc : n ≤ c) (w : World) : (Instr.slice 29 (.slice a n c) (some (.int .i64 (i : Int))) none none).run Try.prog w = .ok (.slice (if c = i then a else a.map (fun x => x.add (i * 39))) (n - i) (c - i)) w := by
  have hu : Try.prog.underlying 29 = some (.slice (Try.prog.elem 29)) := by kernel_rfl
  have he : Try.prog.elem 29 = 26 := by kernel_rfl
  rw [run_slice_l w 29 a n c hu .i64 (i : Int) (by omega) (by omega), he, sz_rn]
  show Result.ok (sliced a (i : Int).toNat n c 39) w = _
  rw [Int.toNat_natCast]
  rfl
theorem run_upto (a : Option Addr) (n c i : Nat) (hi : i ≤ n) (hc : n ≤ c) (w : World) : (Instr.slice 29 (.slice a n c) none (some (.int .i64 (i : Int))) none).run Try.prog w = .ok (.slice a i c) w := by
  have hu : Try.prog.underlying 29 = some (.slice (Try.prog.elem 29)) := by kernel_rfl
  have he : Try.prog.elem 29 = 26 := by kernel_rfl
  rw [run_slice_h w 29 a n c hu .i64 (i : Int) (by omega) (by omega), he, sz_rn]
  show Result.ok (sliced a 0 (i : Int).toNat c 39) w = _
  rw [Int.toNat_natCast]
  unfold sliced
  by_cases h : c = 0
  · rw [if_pos h]
    simp
  · rw [if_neg h]
    cases a with
    | none => simp
    | some ad =>
      simp only [Option.map_some, Nat.zero_mul, Nat.sub_zero]
      congr 2
end Go.Proofs.Ytjgmhaajcglpmaa
