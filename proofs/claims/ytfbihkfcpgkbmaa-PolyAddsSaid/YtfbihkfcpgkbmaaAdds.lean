/- PolyAdds: the rows of the law, its walk. -/
import Derived.Test.YtfbihkfcpgkbmaaGm
import Derived.Deep.AppendLies
namespace Go.Proofs.Ytfbihkfcpgkbmaa
open Go.RowKit

/-- Words as cells. -/
def vals (l : List W) : List Value := l.map fun x => .int .u64 (U x)
theorem vals_snoc (l : List W) (x : W) : vals (l ++ [x]) = vals l ++ [.int .u64 (U x)] := by simp [vals]
theorem vals_append (l m : List W) : vals (l ++ m) = vals l ++ vals m := by simp [vals]
theorem vals_length (l : List W) : (vals l).length = l.length := by simp [vals]
theorem info_poly : (Try.prog.info? 25).map (fun i => (i.zero, i.size, i.bytes)) = some (some (.int .u64 0), 1, 8) := by kernel_rfl
/-- Two rows of the call's own, apart. -/
def Two (w : World) (base : Nat) (v1 v2 : Value) (xs ys : List W) : Prop :=
  w.ownsRow base 25 1 v1 xs.length (vals xs) ∧ w.ownsRow base 25 1 v2 ys.length (vals ys) ∧ ∀ g, v1.ownBlock = some g → v2.ownBlock ≠ some g
theorem Two.left {w w1 : World} {base : Nat} {v1 v2 v1' : Value} {xs ys : List W} {x : W} (h : Two w base v1 v2 xs ys) (hown : w1.ownsRow base 25 1 v1' (xs.length + 1) (vals xs ++ [.int .u64 (U x)])) (hg : w.grownBy w1 v1.ownBlock)
    (hl : v1'.ownBlock = v1.ownBlock ∨ ∀ g, v1'.ownBlock = some g → w.heap.size ≤ g) : Two w1 base v1' v2 (xs ++ [x]) ys := by
  obtain ⟨h1, h2, h3⟩ := h
  refine ⟨?_, ?_, fun g hgg e => ?_⟩
  · rw [vals_snoc, List.length_append]; exact hown
  · refine h2.kept hg ?_
    cases hb : v2.ownBlock with
    | none => exact Or.inl rfl
    | some g => exact Or.inr fun e => h3 g e.symm hb
  · rcases hl with hl | hl
    · exact h3 g (hl ▸ hgg) e
    · have := hl g hgg
      have := (h2.lt g e).2
      omega
theorem Two.right {w w1 : World} {base : Nat} {v1 v2 v2' : Value} {xs ys : List W} {y : W} (h : Two w base v1 v2 xs ys) (hown : w1.ownsRow base 25 1 v2' (ys.length + 1) (vals ys ++ [.int .u64 (U y)])) (hg : w.grownBy w1 v2.ownBlock)
    (hl : v2'.ownBlock = v2.ownBlock ∨ ∀ g, v2'.ownBlock = some g → w.heap.size ≤ g) : Two w1 base v1 v2' xs (ys ++ [y]) := by
  obtain ⟨h1, h2, h3⟩ := h
  refine ⟨?_, ?_, fun g hgg e => ?_⟩
  · refine h1.kept hg ?_
    cases hb : v1.ownBlock with
    | none => exact Or.inl rfl
    | some g => exact Or.inr fun e => h3 g hb e.symm
  · rw [vals_snoc, List.length_append]; exact hown
  · rcases hl with hl | hl
    · exact h3 g hgg (hl ▸ e)
    · have := hl g e
      have := (h1.lt g hgg).2
      omega
theorem Two.alloc {w : World} {base : Nat} {v1 v2 : Value} {xs ys : List W} (h : Two w base v1 v2 xs ys) (o : Obj) : Two (w.alloc o) base v1 v2 xs ys := ⟨h.1.alloc o, h.2.1.alloc o, h.2.2⟩
theorem Two.below {w w1 : World} {base : Nat} {v1 v2 : Value} {xs ys : List W} (h : Two w base v1 v2 xs ys) {B : Nat} (hb : Below B w w1) (hB : w.heap.size ≤ B) : Two w1 base v1 v2 xs ys := by
  have hg : w.grownBy w1 none := ⟨hb.os, hb.tape, hb.output, hb.size, fun k hk _ => hb.block k (by omega)⟩
  refine ⟨h.1.kept hg ?_, h.2.1.kept hg ?_, h.2.2⟩
  · cases v1.ownBlock with
    | none => exact Or.inl rfl
    | some g => exact Or.inr (by simp)
  · cases v2.ownBlock with
    | none => exact Or.inl rfl
    | some g => exact Or.inr (by simp)
theorem own_words {w : World} {base : Nat} {v : Value} {xs : List W} (h : w.ownsRow base 25 1 v xs.length (vals xs)) : ∃ a c, v = .slice a xs.length c ∧ xs.length ≤ c ∧ wordsIn w a xs := by
  rcases h.2 with ⟨rfl, h0⟩ | ⟨g, cap, cur, rfl, hb, hh, hn, hc, hs, ht⟩
  · have : xs = [] := List.eq_nil_of_length_eq_zero h0
    subst this
    exact ⟨none, 0, rfl, Nat.le_refl _, Or.inl rfl⟩
  · refine ⟨some ⟨g, 0, none⟩, cap, rfl, hn, Or.inr ⟨g, 0, rfl, fun j hj => ?_⟩⟩
    rw [Nat.zero_add, h.cellAt j (by omega)]
    simp [vals, hj]
theorem sumAll_append (l m : List W) : sumAll (l ++ m) = sumAll l ^^^ sumAll m := by
  have h : ∀ (m : List W) (s : W), m.foldl (· ^^^ ·) s = s ^^^ m.foldl (· ^^^ ·) 0 := by
    intro m
    induction m with
    | nil => intro s; simp
    | cons a m ih =>
      intro s
      rw [List.foldl_cons, List.foldl_cons, ih, ih (0 ^^^ a)]
      simp [BitVec.xor_assoc]
  unfold sumAll
  rw [List.foldl_append, h]
theorem sumAll_reverse (l : List W) : sumAll l.reverse = sumAll l := by
  induction l with
  | nil => rfl
  | cons a l ih =>
    rw [List.reverse_cons, sumAll_append, ih, show a :: l = [a] ++ l from rfl, sumAll_append, BitVec.xor_comm]
theorem rev_take (l : List W) (k : Nat) (h : k < l.length) : l.reverse.take (k + 1) = l.reverse.take k ++ [l.getD (l.length - 1 - k) 0] := by
  have hk : k < l.reverse.length := by simpa using h
  rw [List.take_succ_eq_append_getElem hk]
  congr 2
  rw [List.getElem_reverse]
  have : l.length - 1 - k < l.length := by omega
  simp [this]
theorem own_take {l : List W} {k : Nat} (h : k ≤ l.length) : (l.take k).length = k := by rw [List.length_take]; omega

theorem lies_of {w : World} {g : Nat} {v : Value} {n cap H : Nat} (hH : w.heap.size = H) (h : v.ownBlock = some g ∨ g = H) : (Value.slice (some ⟨g, 0, none⟩) n cap).ownBlock = v.ownBlock ∨ ∀ g', (Value.slice (some ⟨g, 0, none⟩) n cap).ownBlock = some g' → w.heap.size ≤ g' := by
  rcases h with h | h
  · exact Or.inl h.symm
  · right
    intro g' e
    have : g = g' := by simpa [Value.ownBlock] using e
    omega
/-- One row put behind the other, where a test ahead says so. -/
theorem append_words {w : World} {ops : Array Oper} {rest : List Oper} {o : Oper} {a : Act} {Q : Exit → Act → World → Prop} (hw : Region.wanted o (yielded ops a.tmps) = true) (s x : Operand)
    (ho : o.op = .call { callee := .builtin .append, args := #[s, x], argTypes := #[23, 23] })
    (base : Nat) (v1 v2 : Value) (hs : a.eval s = v1) (hx : a.eval x = v2) (xs ys : List W) (h : Two w base v1 v2 xs ys) (hz : ys.length = 0 → v2 = .slice none 0 0)
    (hn : xs.length + ys.length ≤ 1000) (hbase : base ≤ w.heap.size)
    (hk : ∀ v' w', w'.ownsRow base 25 1 v' (xs ++ ys).length (vals (xs ++ ys)) → w.grownBy w' v1.ownBlock → wpList Try.prog ops Q rest (a.put o.dst v') w') : wpList Try.prog ops Q (o :: rest) a w := by
  obtain ⟨i0, hi, hz0, hz1, hz2⟩ := info_parts info_poly
  obtain ⟨g1, g2, g3⟩ := h
  refine wpList_step fun K hK => ?_
  rw [if_pos hw]
  by_cases h0 : ys.length = 0
  · have hrun := run_append_owned_none (P := Try.prog) (w := w) base 23 o.type 25 i0 1 Try.underlying23 hi v1 _ _ g1
    rw [hz h0] at hx
    have hy : ys = [] := List.eq_nil_of_length_eq_zero h0
    subst hy
    unfold Oper.wp
    simp [execOp, ho, resolve, invoke, builtin, hs, hx, hrun, Result.andThen]
    exact hK _ _ (hk v1 w (by simpa using g1) (World.grownBy.refl w _))
  · obtain ⟨a2, c2, rfl, h1, h2⟩ := own_words g2
    rcases h2 with h2 | ⟨b, o', rfl, hc⟩
    · exact absurd (by rw [h2]; rfl) h0
    refine wp_append_own w s x 23 ho base 25 i0 (.int .u64 0) 1 8 Try.underlying23 hi hz0 hz1 hz2 rfl (by decide) v1 _ _ hs g1 ⟨b, o', none⟩ ys.length c2 (vals ys) hx (by simp [vals]) ?_ ?_ ?_ ?_ hbase ?_
    · intro j u hj
      have hjn : j < ys.length := by
        have := (List.getElem?_eq_some_iff.1 hj).1
        simpa [vals] using this
      rw [Addr.add_lit, hc j hjn, ← hj]
      simp [vals, hjn]
    · intro u hu
      obtain ⟨q, _, rfl⟩ := List.mem_map.1 hu
      rfl
    · unfold maxLen; omega
    · omega
    · intro v' w' h1 h2 _
      refine hK _ _ (hk v' w' ?_ h2)
      rw [List.length_append, vals_append]
      exact h1
attribute [local go_sem] U_xor
set_option maxRecDepth 100000 in
set_option maxHeartbeats 4000000 in
theorem law_polyAdds (a : Option Addr) (c : Nat) (L : List W) (w : World) (hl : L.length ≤ c) (h : wordsIn w a L) :
    Calls Try.prog 3 #[.slice a L.length c] w fun e w' => e = .returned (.bool true) ∧ Below w.heap.size w w' := by
  obtain ⟨i0, hi, hz0, hz1, hz2⟩ := info_parts info_poly
  have H := Lib.hid h
  clear h
  go_enter Try.func3, Try.ntmps3
  go_wp2_with fail
  have e2 : (min (L.length : Int) 40).toNat = (L.take 40).length := by rw [List.length_take]; omega
  have e4 : (L.take 40).length ≤ 40 := by rw [List.length_take]; omega
  have e5 : (L.take 40).length ≤ c := by rw [List.length_take]; omega
  have HT : Hid (wordsIn w a (L.take 40)) := Lib.hid (by
    rcases H.out with h0 | ⟨b, o, h1, h2⟩
    · left; rw [h0]; rfl
    · right
      refine ⟨b, o, h1, fun j hj => ?_⟩
      rw [List.length_take] at hj
      rw [h2 j (by omega), List.getD_eq_getElem?_getD, List.getD_eq_getElem?_getD, List.getElem?_take, if_pos (by omega)])
  rw [e2]
  clear e2 H
  generalize min (L.length : Int) 40 = z at *
  generalize L.take 40 = l at *
  go_loopw [3, 4, 5, 6] (fun v1 v2 s i wr => ∃ k : Nat, k ≤ l.length ∧ i = .int .i64 k ∧ s = .int .u64 (U (sumAll (l.take k))) ∧ Hid (Two wr w.heap.size v1 v2 (l.take k) (l.reverse.take k)) ∧ Hid (Below w.heap.size w wr) ∧ Hid (k = 0 → v2 = .slice none 0 0)) (fun _ _ _ i _ => l.length - (intOf i).toNat)
  case atStart => exact ⟨0, Nat.zero_le _, rfl, rfl, Lib.hid ⟨World.ownsRow_nil _ _ _ _, World.ownsRow_nil _ _ _ _, fun _ h => by cases h⟩, Lib.hid (Below.refl _ _), Lib.hid fun _ => rfl⟩
  case round =>
    obtain ⟨k, hk, rfl, rfl, K1, K2, K3⟩ := hrel
    have p0 : 0 ≤ (k : Int) := by omega
    by_cases hlt : k < l.length
    · have q0 : (k : Int) < (l.length : Int) := by omega
      have HS := Lib.hid (sumAll_take l k hlt)
      have HV := Lib.hid (rev_take l k hlt)
      have HU : Hid (l.take (k + 1) = l.take k ++ [l.getD k 0]) := Lib.hid (by rw [List.take_succ_eq_append_getElem hlt]; simp [hlt])
      have HW := HT.out.below K2.out (Nat.le_refl _)
      rcases HW with h0 | ⟨b, o, rfl, hcell⟩
      · rw [h0] at hlt; simp at hlt
      have hd : b < w.heap.size ∧ w.cell? ⟨b, o + k, none⟩ = some (.int .u64 (U (l.getD k 0))) ∧ w.cell? ⟨b, o + (l.length - 1 - k), none⟩ = some (.int .u64 (U (l.getD (l.length - 1 - k) 0))) := by
        rcases HT.out with h0 | ⟨b', o', e, hc'⟩
        · rw [h0] at hlt; simp at hlt
        · cases e; exact ⟨block_lt_of_cell (hc' 0 (by omega)), hc' k hlt, hc' _ (by omega)⟩
      have d1 := hcell k hlt
      have HD := Lib.hid hd
      clear hcell hd
      generalize l.getD k 0 = x at *
      generalize l.getD (l.length - 1 - k) 0 = y at *
      have e6 : ((l.length : Int) - 1 - (k : Int)).toNat = l.length - 1 - k := by omega
      have p1 : 0 ≤ (l.length : Int) - 1 - (k : Int) := by omega
      have p2 : (l.length : Int) - 1 - (k : Int) < (l.length : Int) := by omega
      have HX := Lib.hid (own_take hk)
      have HY := Lib.hid (own_take (l := l.reverse) (k := k) (by simp; omega))
      generalize l.take k = xs at *
      generalize l.reverse.take k = ys at *
      go_wp2_with (at_builtin; refine wpList_append_lies _ rfl _ _ 23 rfl w.heap.size 25 i0 (.int .u64 0) 1 8 Try.underlying23 hi hz0 hz1 hz2 rfl (by decide) _ _ _ rfl (K1.out.alloc _).1 ⟨wr.heap.size, 0, none⟩ 1 1 [.int .u64 (U x)] rfl rfl ?c1 ?c2 (by decide) ?c3 ?c4 ?c5 (wr.heap.size + 1) (by simp) ?_)
      case c1 =>
        intro j u hj
        match j, hj with
        | 0, hj => simp at hj; subst hj; simp [Addr.add]
      case c2 => intro u hu; simp at hu; subst hu; rfl
      case c3 => have := HX.out; unfold maxLen; omega
      case c4 => have := HX.out; omega
      case c5 => have := K2.out.size; simp; omega
      intro g1 cap1 w1 hown hgrow hlies _
      have HB1 := Lib.hid (own_below (K2.out.alloc K2.out.size _) (K1.out.alloc _).1 hgrow (by have := K2.out.size; simp; omega))
      have T1 := Lib.hid ((K1.out.alloc _).left hown hgrow (lies_of (by simp) hlies))
      clear hown hgrow hlies d1 K1 K2
      have d2 : w1.cell? ⟨b, o + (l.length - 1 - k), none⟩ = some (.int .u64 (U y)) := (HB1.out.cell (p := ⟨b, o + (l.length - 1 - k), none⟩) HD.out.1).trans HD.out.2.2
      go_wp2_with (at_builtin; refine wpList_append_lies _ rfl _ _ 23 rfl w.heap.size 25 i0 (.int .u64 0) 1 8 Try.underlying23 hi hz0 hz1 hz2 rfl (by decide) _ _ _ rfl (T1.out.alloc _).2.1 ⟨w1.heap.size, 0, none⟩ 1 1 [.int .u64 (U y)] rfl rfl ?c6 ?c7 (by decide) ?c8 ?c9 ?c10 (w1.heap.size + 1) (by simp) ?_)
      case c6 =>
        intro j u hj
        match j, hj with
        | 0, hj => simp at hj; subst hj; simp [Addr.add]
      case c7 => intro u hu; simp at hu; subst hu; rfl
      case c8 => have := HY.out; unfold maxLen; omega
      case c9 => have := HY.out; omega
      case c10 => have := HB1.out.size; simp; omega
      intro g2 cap2 w2 hown hgrow hlies _
      have HB2 := Lib.hid (own_below (HB1.out.alloc HB1.out.size _) (T1.out.alloc _).2.1 hgrow (by have := HB1.out.size; simp; omega))
      have T2 := Lib.hid ((T1.out.alloc _).right hown hgrow (lies_of (by simp) hlies))
      clear hown hgrow hlies d2 T1
      have d1 : w2.cell? ⟨b, o + k, none⟩ = some (.int .u64 (U x)) := (HB2.out.cell (p := ⟨b, o + k, none⟩) HD.out.1).trans HD.out.2.1
      go_wp2_with fail
      go_roundw
      case rel => exact ⟨k + 1, by omega, by go_num, by rw [HS.out], Lib.hid (by rw [HU.out, HV.out]; exact T2.out), HB2, Lib.hid fun h => absurd h (by omega)⟩
      case measure => simp [intOf]; omega
    · obtain rfl : k = l.length := by omega
      rw [List.take_length, List.take_of_length_le (by simp)] at K1
      rw [List.take_length]
      obtain ⟨a1, c1, e1, h1, h2⟩ := own_words K1.out.1
      obtain ⟨a2, c2, e2, h3, h4⟩ := own_words K1.out.2.1
      have hrl : l.reverse.length = l.length := by simp
      rw [hrl] at e2
      subst e1 e2
      have HL1 := Lib.hid h1
      have HW1 := Lib.hid h2
      have HL2 := Lib.hid h3
      have HW2 := Lib.hid h4
      have HRV := Lib.hid (sumAll_reverse l)
      have HRL := Lib.hid hrl
      have HZZ := Lib.hid (show sumAll (l ++ l.reverse) = 0 by rw [sumAll_append, sumAll_reverse, BitVec.xor_self]; rfl)
      have t1 : (U (sumAll l) == U (sumAll l)) = true := by simp
      clear h1 h2 h3 h4 hrl
      go_wp2_with fail
      refine (add_any a1 l c1 _ HL1.out (by omega) HW1.out).mono ?_
      rintro e w' ⟨rfl, rfl⟩
      go_wp2_with fail
      refine (bits_any _).mono ?_
      rintro e w1 ⟨rfl, hb⟩
      have H1 := Lib.hid (K2.out.trans (hb.mono K2.out.size))
      have T1 : Hid (Two w1 w.heap.size (.slice a1 l.length c1) (.slice a2 l.length c2) l l.reverse) := Lib.hid (K1.out.below hb (Nat.le_refl _))
      have HW3 := Lib.hid (HW2.out.below hb (Nat.le_refl _))
      clear hb K1 HW1 HW2 K2
      go_wp2_with fail
      refine (Calls.mono (show Calls Try.prog 11 #[.slice a2 l.length c2] w1 _ from by rw [← HRL.out]; exact add_any a2 l.reverse c2 _ HL2.out (by have := HRL.out; omega) HW3.out) ?_)
      rintro e w' ⟨rfl, rfl⟩
      rw [HRV.out]
      go_wp2_with (at_builtin; refine append_words (by first | rfl | simp [Region.wanted, yielded]) _ _ rfl w.heap.size _ _ rfl rfl l l.reverse T1.out ?c12 ?c13 ?c14 ?_)
      case c12 => intro h; exact K3.out (by have := HRL.out; omega)
      case c13 => have := HRL.out; omega
      case c14 => exact H1.out.size
      intro v' w2 hown hgrow
      have H2 := Lib.hid (own_below H1.out T1.out.1 hgrow H1.out.size)
      have hown' : w2.ownsRow w.heap.size 25 1 v' (l ++ l.reverse).length (vals (l ++ l.reverse)) := by rw [List.length_append, HRL.out]; exact hown
      obtain ⟨a3, c3, e3, h5, h6⟩ := own_words hown'
      have hl2 : (l ++ l.reverse).length = l.length + l.length := by rw [List.length_append, HRL.out]
      have HL3 := Lib.hid hl2
      rw [hl2] at e3
      subst e3
      clear hown' hl2
      have hll : (l ++ l.reverse).length ≤ 1000000 := by rw [List.length_append]; have := HRL.out; omega
      have HLL := Lib.hid hll
      have H5 := Lib.hid h5
      have H6 := Lib.hid h6
      clear hown hgrow hll h5 h6
      go_wp2_with fail
      refine (Calls.mono (show Calls Try.prog 11 #[.slice a3 (l.length + l.length) c3] w2 _ from by rw [← HL3.out]; exact add_any a3 (l ++ l.reverse) c3 w2 H5.out HLL.out H6.out) ?_)
      rintro e w' ⟨rfl, rfl⟩
      rw [HZZ.out]
      have t2 : (U (0 : W) == 0) = true := rfl
      go_wp2_with ((with_reducible refine (deg_any _ _).mono ?_); rintro e w' ⟨rfl, rfl⟩)
      refine (refDeg_any _ _).mono ?_
      rintro e w3 ⟨rfl, hb⟩
      have H3 := Lib.hid (H2.out.trans (hb.mono H2.out.size))
      clear hb
      have t3 : (dgw (sumAll l) == dgw (sumAll l)) = true := by simp
      go_wp2_with fail
      go_ret
      exact ⟨rfl, H3.out⟩
end Go.Proofs.Ytfbihkfcpgkbmaa
