/- What CipherParts asks besides: rows of one's own past a change of an older block, parts of bytes that lie in newer blocks, what is hidden piece by piece. -/
import Derived.Test.YtdgklellmbfocaaLrn
namespace Go.Proofs.Ytdgklellmbfocaa
open Go.RowKit Sha Aes

theorem ownB.but {w w' : World} {base b : Nat} {v : Value} {l : List UInt8} (h : ownB w base v l) (k : But b w w') (hb : b < base) : ownB w' base v l := by
  refine ⟨h.1, ?_⟩
  rcases h.2 with h0 | ⟨q, cap, cur, hv, hq, hc, r⟩
  · exact .inl h0
  · exact .inr ⟨q, cap, cur, hv, hq, (k.block q (Array.getElem?_eq_some_iff.1 hc).1 (by omega)).trans hc, r⟩
theorem ownB.kept {w w' : World} {base : Nat} {v : Value} {l : List UInt8} (h : ownB w base v l) (k : Below w.heap.size w w') : ownB w' base v l := by
  refine ⟨h.1, ?_⟩
  rcases h.2 with h0 | ⟨q, cap, cur, hv, hq, hc, r⟩
  · exact .inl h0
  · exact .inr ⟨q, cap, cur, hv, hq, (k.block q (Array.getElem?_eq_some_iff.1 hc).1).trans hc, r⟩
/-- A slice of bytes that lies in a block not older than base. -/
def Pt.own (base : Nat) (w : World) (p : Pt) : Prop := p.ok w ∧ (p.a = none → p.c = 0) ∧ (∀ x, p.a = some x → base ≤ x.block)
theorem Pt.own_of {w : World} {base : Nat} {v : Value} {l : List UInt8} (h : ownB w base v l) : ∃ a c, v = .slice a l.length c ∧ Pt.own base w ⟨a, c, l⟩ := by
  obtain ⟨a, c, hv, h1, h2, h3, h4⟩ := h.form
  refine ⟨a, c, hv, ⟨h1, h2, h3⟩, h4, fun x hx => ?_⟩
  have hx : a = some x := hx
  subst hx
  rcases h.2 with ⟨h0, _⟩ | ⟨q, cap, cur, he, hq, _⟩
  · rw [hv] at h0; cases h0
  · rw [hv] at he; cases he; exact hq
theorem Pt.own.sub {w : World} {base : Nat} {p : Pt} (h : p.own base w) (i k : Nat) (hik : i ≤ k) (hk : k ≤ p.l.length) : (p.sub i k).own base w := by
  refine ⟨p.sub_ok h.1 i k hik hk, fun hn => ?_, fun x hx => ?_⟩
  · have : p.a = none := by
      simp only [Pt.sub] at hn
      split at hn
      · exact hn
      · simpa using hn
    show p.c - i = 0
    rw [h.2.1 this, Nat.zero_sub]
  · simp only [Pt.sub] at hx
    split at hx
    · exact h.2.2 x hx
    · rw [Option.map_eq_some_iff] at hx
      obtain ⟨y, hy, rfl⟩ := hx
      have := h.2.2 y hy
      have e : (y.add i).block = y.block := by unfold Addr.add; first | rfl | (split <;> rfl)
      rw [e]
      exact this
theorem Pt.own.below {w w' : World} {base : Nat} {p : Pt} (h : p.own base w) (k : Below w.heap.size w w') : p.own base w' := ⟨⟨h.1.1, h.1.2.1, h.1.2.2.below k⟩, h.2⟩
theorem Pt.own.but {w w' : World} {base b : Nat} {p : Pt} (h : p.own base w) (k : But b w w') (hb : b < base) : p.own base w' := by
  refine ⟨⟨h.1.1, h.1.2.1, ?_⟩, h.2⟩
  rcases h.1.2.2 with h0 | ⟨bb, bo, e, hc⟩
  · exact Or.inl h0
  · have := h.2.2 _ e
    exact Or.inr ⟨bb, bo, e, fun j hj => k.cell (hc j hj) (by show bb ≠ b; have : base ≤ bb := this; omega)⟩
theorem hideL_append (ws : List W) (N : List UInt8) (n : Nat) (l1 l2 : List UInt8) : hideL ws N n (l1 ++ l2) = hideL ws N n l1 ++ hideL ws N (n + l1.length) l2 := by
  apply List.ext_getElem
  · simp [hideL]
  · intro i h1 h2
    simp only [hideL, List.getElem_append, List.getElem_map, List.getElem_range, List.length_map, List.length_range]
    split
    · rename_i h
      simp [List.getElem?_append_left h]
    · rename_i h
      have e : n + l1.length + (i - l1.length) = n + i := by omega
      rw [e]
      simp [List.getElem?_append_right (Nat.le_of_not_lt h)]
theorem hide_hide (ws : List W) (N : List UInt8) (n : Nat) (l : List UInt8) : hideL ws N n (hideL ws N n l) = l := by
  apply List.ext_getElem
  · simp [hideL]
  · intro i h1 h2
    simp [hideL, h2, UInt8.xor_assoc]
theorem hide_step (ws : List W) (N : List UInt8) (L : List UInt8) (k c : Nat) (hk : k ≤ L.length) : hideL ws N 0 (L.take k) ++ hideL ws N k ((L.drop k).take c) = hideL ws N 0 (L.take (k + c)) := by
  rw [List.take_add, hideL_append, List.length_take, Nat.min_eq_left hk, Nat.zero_add]
theorem hide_rest (ws : List W) (N : List UInt8) (L : List UInt8) (k : Nat) (hk : k ≤ L.length) : hideL ws N 0 (L.take k) ++ hideL ws N k (L.drop k) = hideL ws N 0 L := by
  have := hideL_append ws N 0 (L.take k) (L.drop k)
  rw [List.take_append_drop, List.length_take, Nat.min_eq_left hk, Nat.zero_add] at this
  exact this.symm
/-- Two flows of one key, as they stand while the law runs. -/
def two (w : World) (fb hb g : Nat) (ws : List W) (N : List UInt8) (n m : Nat) (X : World) : Prop :=
  blockIs X fb (flowCells g N n) 65 ∧ blockIs X hb (flowCells g N m) 65 ∧ blockIs X g (keyRow ws) 59 ∧ Below w.heap.size w X
theorem two.below {w X Y : World} {fb hb g n m : Nat} {ws : List W} {N : List UInt8} (h : two w fb hb g ws N n m X) (k : Below X.heap.size X Y) : two w fb hb g ws N n m Y :=
  ⟨h.1.below k h.1.lt, h.2.1.below k h.2.1.lt, h.2.2.1.below k h.2.2.1.lt, h.2.2.2.trans (k.mono h.2.2.2.size)⟩
theorem two.first {w X Y : World} {fb hb g n m n' : Nat} {ws : List W} {N : List UInt8} (h : two w fb hb g ws N n m X) (k : But fb X Y) (hf : blockIs Y fb (flowCells g N n') 65) (o : w.heap.size < g ∧ g < fb ∧ fb < hb) : two w fb hb g ws N n' m Y :=
  ⟨hf, k.is h.2.1 (Nat.ne_of_gt o.2.2), k.is h.2.2.1 (Nat.ne_of_lt o.2.1), h.2.2.2.trans (k.below (by omega) h.2.2.2.size)⟩
theorem two.second {w X Y : World} {fb hb g n m m' : Nat} {ws : List W} {N : List UInt8} (h : two w fb hb g ws N n m X) (k : But hb X Y) (hf : blockIs Y hb (flowCells g N m') 65) (o : w.heap.size < g ∧ g < fb ∧ fb < hb) : two w fb hb g ws N n m' Y :=
  ⟨k.is h.1 (Nat.ne_of_lt o.2.2), hf, k.is h.2.2.1 (by omega), h.2.2.2.trans (k.below (by omega) h.2.2.2.size)⟩
theorem two.newer {w X Y : World} {fb hb g n m b : Nat} {ws : List W} {N : List UInt8} (h : two w fb hb g ws N n m X) (k : But b X Y) (hb' : hb < b) (o : w.heap.size < g ∧ g < fb ∧ fb < hb) : two w fb hb g ws N n m Y :=
  ⟨k.is h.1 (by omega), k.is h.2.1 (by omega), k.is h.2.2.1 (by omega), h.2.2.2.trans (k.below (by omega) h.2.2.2.size)⟩
theorem two.upto {w X Y : World} {fb hb g n m b : Nat} {ws : List W} {N : List UInt8} (h : two w fb hb g ws N n m X) (k : Below b X Y) (hb' : hb < b) (o : w.heap.size < g ∧ g < fb ∧ fb < hb) : two w fb hb g ws N n m Y :=
  ⟨h.1.below k (by omega), h.2.1.below k hb', h.2.2.1.below k (by omega), h.2.2.2.trans (k.mono (by omega))⟩
/-- A literal of three parts. -/
theorem lit_three {w : World} {q : Nat} {p r : Pt} {t : TypeId} {base : Nat} (h : blockIs w q [Value.slice p.a p.l.length p.c, .slice none 0 0, .slice r.a r.l.length r.c] t) (hp : p.own base w) (hr : r.own base w) : partsB w (some ⟨q, 0, none⟩) [p.l, [], r.l] := by
  refine Or.inr ⟨_, _, rfl, fun j hj => ?_⟩
  have hj : j < 3 := hj
  rw [Nat.zero_add, h.cell]
  obtain rfl | rfl | rfl : j = 0 ∨ j = 1 ∨ j = 2 := by omega
  · exact ⟨p.a, p.c, rfl, hp.2.1, hp.1.2.2⟩
  · exact ⟨none, 0, rfl, fun _ => rfl, Or.inl rfl⟩
  · exact ⟨r.a, r.c, rfl, hr.2.1, hr.1.2.2⟩
theorem cut_of (z : Int) (r : Nat) (hr : r ≤ 400) : ∃ c : Nat, c ≤ r ∧ wrap64 ((IntKind.u64.wrap z).tmod ((r : Int) + 1)) = (c : Int) := by
  have hw := wrap_u64_nonneg z
  rw [Int.tmod_eq_emod_of_nonneg hw]
  have h1 := Int.emod_lt_of_pos (IntKind.u64.wrap z) (show (0 : Int) < (r : Int) + 1 by omega)
  have h0 := Int.emod_nonneg (IntKind.u64.wrap z) (show ((r : Int) + 1) ≠ 0 by omega)
  refine ⟨(IntKind.u64.wrap z % ((r : Int) + 1)).toNat, by omega, ?_⟩
  unfold wrap64
  omega
theorem But.upto {b : Nat} {w X Y : World} (h : But b w X) (k : Below X.heap.size X Y) : But b w Y :=
  ⟨k.os.trans h.os, k.tape.trans h.tape, k.output.trans h.output, Nat.le_trans h.size k.size, fun i hi hn => (k.block i (Nat.lt_of_lt_of_le hi h.size)).trans (h.block i hi hn)⟩
theorem But.over {b : Nat} {w X Y : World} (h : But b w X) (k : Below w.heap.size X Y) : But b w Y :=
  ⟨k.os.trans h.os, k.tape.trans h.tape, k.output.trans h.output, Nat.le_trans h.size k.size, fun i hi hn => (k.block i hi).trans (h.block i hi hn)⟩
theorem step_append_ownB {w : World} {ops : Array Oper} {o : Oper} {a : Act} {K : Act → World → Prop} {Q : Exit → Act → World → Prop} {E : Prop} (hgd : o.guard = none) (s x : Operand)
    (ho : o.op = .call { callee := .builtin .append, args := #[s, x], argTypes := #[28, 28] })
    (base : Nat) (v : Value) (xs : List UInt8) (hs : a.eval s = v) (hown : ownB w base v xs) (A : Option Addr) (n c : Nat) (l : List UInt8) (hnl : n = l.length) (hx : a.eval x = .slice A n c) (hA : A = none → c = 0) (hb : bytesIn w A l)
    (hn : xs.length + l.length ≤ 1000000) (hbase : base ≤ w.heap.size)
    (h : ∀ v' w', Hid (ownB w' base v' (xs ++ l)) → Hid (Below base w w') → K (a.put o.dst v') w') : if Region.wanted o (yielded ops a.tmps) = true then Oper.wp Try.prog o a w K Q else E := by
  have hw : Region.wanted o (yielded ops a.tmps) = true := by simp [Region.wanted, hgd]
  rw [if_pos hw]
  obtain ⟨i0, hi, hz0, hz1, hz2⟩ := info_parts info_u8
  subst hnl
  cases A with
  | none =>
    have hl : l = [] := by
      rcases hb with h | ⟨_, _, h, _⟩
      · exact h
      · cases h
    subst hl
    have hx : a.eval x = .slice none 0 0 := by rw [hx, hA rfl]; rfl
    have hrun := run_append_owned_none (P := Try.prog) (w := w) base 28 o.type 5 i0 1 Try.underlying28 hi v xs.length (byteCells xs) hown
    unfold Oper.wp execOp
    simp only [ho, resolve, invoke, builtin, Sem.run_bind, Sem.run_pure, Result.andThen_ok, List.map_toArray, List.map_cons, List.map_nil, hs, hx, hrun]
    exact h v w (Lib.hid (by rw [List.append_nil]; exact hown)) (Lib.hid (Below.refl _ _))
  | some ad =>
    refine wp_append_own w s x 28 ho base 5 i0 (.int .u8 0) 1 1 Try.underlying28 hi hz0 hz1 hz2 rfl (by decide) v xs.length (byteCells xs) hs hown ad l.length c (byteCells l) hx (by rw [byteCells_length, Nat.mul_one]) (fun j u hj => ?_) (byteCells_one l) (by unfold maxLen; omega) (by omega) hbase (fun v' w' r1 r2 _ => ?_)
    · have hlt := (List.getElem?_eq_some_iff.1 hj).1
      rw [byteCells_length] at hlt
      rcases hb with h0 | ⟨bb, bo, he, hc⟩
      · rw [h0] at hlt; exact absurd hlt (Nat.not_lt_zero _)
      · obtain rfl := Option.some.inj he
        rw [Addr.add_lit, hc j hlt]
        rw [byteCells_get l j hlt] at hj
        exact hj
    · refine h v' w' (Lib.hid ?_) (Lib.hid (grown_below hown r2 hbase))
      unfold ownB
      rw [List.length_append, byteCells_append]
      exact r1
theorem three_flat (R : List UInt8) (h c : Nat) (hh : h ≤ c) : [(R.take h).drop 0, [], (R.take c).drop h].flatten = R.take c := by
  have e : (R.take h).drop 0 = (R.take c).take h := by rw [List.drop_zero, List.take_take, Nat.min_eq_left hh]
  rw [e]
  simp
end Go.Proofs.Ytdgklellmbfocaa
