/- The contracts of Feed and End. -/
import Derived.Test.YtaohbpmefcdipaaDoorCtFed
import Derived.Test.YtaohbpmefcdipaaDoorCtStep
namespace Go.Proofs.YtaohbpmefcdipaaDoor.Ct
open Go.RowKit

theorem Rl.fed_len (r : Rl) (p b : List UInt8) : (r.fed p b).1.length + (r.fed p b).2.length ≤ p.length + b.length := by
  induction b generalizing p with
  | nil => simp [Rl.fed]
  | cons x b ih =>
    by_cases h : r.stop (p ++ [x]) = true
    · have := ih []
      simp only [Rl.fed, h, if_true, List.length_cons, List.length_nil] at this ⊢
      omega
    · have h : r.stop (p ++ [x]) = false := by simpa using h
      have := ih (p ++ [x])
      simp only [Rl.fed, h, Bool.false_eq_true, if_false, List.length_append, List.length_cons, List.length_nil] at this ⊢
      omega
/-- What is reached, fed. -/
theorem Rl.fed_step (r : Rl) (p b : List UInt8) (h0 : b ≠ []) : 1 ≤ (r.reach p b).1 ∧ (r.reach p b).1 ≤ b.length ∧ r.fed p (b.take (r.reach p b).1) = (if (r.reach p b).2 then ([p ++ b.take (r.reach p b).1], []) else ([], p ++ b.take (r.reach p b).1)) := by
  have hl : 0 < b.length := List.length_pos_iff.2 h0
  rcases r.reach_cases p b with ⟨k, hk, hg, hs, he⟩ | ⟨hg, he⟩
  · rw [he]
    refine ⟨Nat.succ_pos _, hk, ?_⟩
    have := r.fed_hit p (b.take (k + 1)) k (by rw [List.length_take]; omega) (fun j hj => by rw [List.take_take, Nat.min_eq_left (by omega)]; exact hg j hj) (by rw [List.take_take, Nat.min_self]; exact hs)
    rw [this, List.take_take, Nat.min_self, List.drop_of_length_le (by rw [List.length_take]; omega)]
    rfl
  · rw [he]
    refine ⟨hl, Nat.le_refl _, ?_⟩
    rw [List.take_length, r.fed_end p b hg]
    rfl
theorem Rl.fed_more (r : Rl) {P0 D P X : List UInt8} {O O' : List (List UInt8)} {P' : List UInt8} (h : r.fed P0 D = (O, P)) (h2 : r.fed P X = (O', P')) : r.fed P0 (D ++ X) = (O ++ O', P') := by
  rw [r.fed_append, h, h2]

/-- A piece: a row of bytes of one's own, whose block is ahead of hi. -/
def PieceAt (w : World) (lo hi : Nat) (v : Value) (s : List UInt8) : Prop := rowIs w lo v s ∧ ∀ q, v.ownBlock = some q → q < hi
def Pieces (w : World) (lo hi : Nat) (vs : List Value) (O : List (List UInt8)) : Prop := vs.length = O.length ∧ ∀ i (h1 : i < vs.length) (h2 : i < O.length), PieceAt w lo hi vs[i] O[i]
theorem Pieces.nil (w : World) (lo hi : Nat) : Pieces w lo hi [] [] := ⟨rfl, fun i h1 _ => absurd h1 (Nat.not_lt_zero _)⟩
theorem Pieces.map {w w' : World} {lo hi hi' : Nat} {vs : List Value} {O : List (List UInt8)} (h : Pieces w lo hi vs O) (k : ∀ v s, PieceAt w lo hi v s → PieceAt w' lo hi' v s) : Pieces w' lo hi' vs O := ⟨h.1, fun i h1 h2 => k _ _ (h.2 i h1 h2)⟩
theorem Pieces.snoc {w : World} {lo hi : Nat} {vs : List Value} {O : List (List UInt8)} (h : Pieces w lo hi vs O) {v : Value} {s : List UInt8} (hv : PieceAt w lo hi v s) : Pieces w lo hi (vs ++ [v]) (O ++ [s]) := by
  refine ⟨by rw [List.length_append, List.length_append, h.1]; rfl, fun i h1 h2 => ?_⟩
  by_cases hi : i < vs.length
  · rw [List.getElem_append_left hi, List.getElem_append_left (by rw [← h.1]; exact hi)]
    exact h.2 i hi _
  · have e : i = vs.length := by
      rw [List.length_append] at h1
      have : ([v] : List Value).length = 1 := rfl
      omega
    subst e
    have e2 : (vs ++ [v])[vs.length] = v := by simp
    have e3 : (O ++ [s])[vs.length]'h2 = s := by simp [h.1]
    rw [e2, e3]
    exact hv
/-- A row whose cells are of another type than the block that grew. -/
theorem rowV.apart {w w' : World} {b1 b2 : Nat} {e t : TypeId} {v u : Value} {xs ys : List Value} (h : rowV w b1 e v xs) (hu : rowV w b2 t u ys) (he : e ≠ t) (hg : w.grownBy w' u.ownBlock) : rowV w' b1 e v xs := by
  rcases h.2 with ⟨rfl, h0⟩ | ⟨g', cap, cur, rfl, hba, hh, hn, hc, hs, ht⟩
  · exact ⟨h.1, Or.inl ⟨rfl, h0⟩⟩
  · refine ⟨h.1, Or.inr ⟨g', cap, cur, rfl, hba, ?_, hn, hc, hs, ht⟩⟩
    rw [hg.block g' (Array.getElem?_eq_some_iff.1 hh).1 (fun e1 => ?_)]
    · exact hh
    · rcases hu.2 with ⟨rfl, _⟩ | ⟨g2, cap2, cur2, rfl, _, hh2, _⟩
      · cases e1
      · obtain rfl : g' = g2 := by injection e1
        rw [hh] at hh2
        injection hh2 with hh2
        injection hh2 with _ h3 _
        exact he h3
theorem rowIs.v {w : World} {base : Nat} {v : Value} {l : List UInt8} (h : rowIs w base v l) : rowV w base 5 v (bvals l) := by
  unfold rowIs at h
  unfold rowV
  rw [bvals_length]
  exact h
theorem rowV.is {w : World} {base : Nat} {v : Value} {l : List UInt8} (h : rowV w base 5 v (bvals l)) : rowIs w base v l := by
  unfold rowV at h
  rw [bvals_length] at h
  exact h
/-- A row whose block is ahead of B stays, if all there does. -/
theorem PieceAt.belowB {w w' : World} {lo hi hi' : Nat} {v : Value} {s : List UInt8} (h : PieceAt w lo hi v s) {B : Nat} (hb : Below B w w') (h1 : hi ≤ B) (h2 : hi ≤ hi') : PieceAt w' lo hi' v s := by
  refine ⟨?_, fun q hq => Nat.lt_of_lt_of_le (h.2 q hq) h2⟩
  rcases h.1.2 with ⟨rfl, h0⟩ | ⟨g', cap, cur, rfl, hba, hh, hn, hc, hs, ht⟩
  · exact ⟨h.1.1, Or.inl ⟨rfl, h0⟩⟩
  · refine ⟨h.1.1, Or.inr ⟨g', cap, cur, rfl, hba, ?_, hn, hc, hs, ht⟩⟩
    rw [hb.block g' (Nat.lt_of_lt_of_le (h.2 g' rfl) h1)]
    exact hh
/-- All is as it was but three blocks, and blocks of bytes from B on. -/
structure ButF (k g b B : Nat) (w w' : World) : Prop where
  os : w'.os = w.os
  tape : w'.tape = w.tape
  output : w'.output = w.output
  size : w.heap.size ≤ w'.heap.size
  block : ∀ j, j < w.heap.size → j ≠ k → j ≠ g → j ≠ b → (j < B ∨ ∀ cur fz, w.heap[j]? ≠ some (.cells cur 5 fz)) → w'.heap[j]? = w.heap[j]?
theorem ButF.refl (k g b B : Nat) (w : World) : ButF k g b B w w := ⟨rfl, rfl, rfl, Nat.le_refl _, fun _ _ _ _ _ _ => rfl⟩
theorem ButF.trans {k g b B : Nat} {x y z : World} (h : ButF k g b B x y) (m : ButF k g b B y z) : ButF k g b B x z :=
  ⟨m.os.trans h.os, m.tape.trans h.tape, m.output.trans h.output, Nat.le_trans h.size m.size, fun j h1 h2 h3 h4 h5 => by
    have e := h.block j h1 h2 h3 h4 h5
    rw [m.block j (Nat.lt_of_lt_of_le h1 h.size) h2 h3 h4 (by rw [e]; exact h5), e]⟩
theorem ButF.of_below {k g b B : Nat} {w w' : World} (h : Below w.heap.size w w') : ButF k g b B w w' := ⟨h.os, h.tape, h.output, h.size, fun j hj _ _ _ _ => h.block j hj⟩
theorem ButF.of_but2 {k g b B : Nat} {w w' : World} (h : But2 g b w w') : ButF k g b B w w' := ⟨h.os, h.tape, h.output, h.size, fun j hj _ h3 h4 _ => h.block j hj h3 h4⟩
theorem ButF.drew {k g b B : Nat} {w w' : World} (h : ButF k g b B w w') : ButF k g b B w w'.drew := ⟨h.os, h.tape, h.output, h.size, h.block⟩
theorem ButF.alloc {k g b B : Nat} {w w' : World} (h : ButF k g b B w w') (o : Obj) : ButF k g b B w (w'.alloc o) := h.trans (ButF.of_below ((Below.refl _ _).alloc (Nat.le_refl _) o))
theorem ButF.setCell {k g b B : Nat} {x y : World} (h : ButF k g b B x y) (o : Nat) (v : Value) : ButF k g b B x (y.setCell ⟨k, o, none⟩ v) := by
  refine h.trans ⟨rfl, rfl, rfl, by simp [World.setCell], fun j hj h2 _ _ _ => ?_⟩
  exact heap_setCell_other y ⟨k, o, none⟩ j v (fun e => h2 (by first | exact e | exact e.symm))
theorem ButF.bytes {k g b B Bp : Nat} {w w' : World} {v : Value} {l : List UInt8} (hr : rowIs w Bp v l) (hB : B ≤ Bp) (hg : w.grownBy w' v.ownBlock) : ButF k g b B w w' := by
  refine ⟨hg.os, hg.tape, hg.output, hg.size, fun j h1 _ _ _ h5 => hg.block j h1 (fun e => ?_)⟩
  have h6 := World.ownsRow.lt hr j e.symm
  rcases h5 with h5 | h5
  · omega
  · rcases hr.2 with ⟨rfl, _⟩ | ⟨g', cap, cur, rfl, _, hh, _⟩
    · cases e
    · obtain rfl : j = g' := by injection e
      exact h5 _ _ hh
theorem ButF.vals {k g b B : Nat} {w0 w w' : World} {e : TypeId} {v : Value} {xs : List Value} (h : ButF k g b B w0 w) (hr : rowV w w0.heap.size e v xs) (hg : w.grownBy w' v.ownBlock) : ButF k g b B w0 w' :=
  ⟨hg.os.trans h.os, hg.tape.trans h.tape, hg.output.trans h.output, Nat.le_trans h.size hg.size, fun j h1 h2 h3 h4 h5 => by
    rw [hg.block j (Nat.lt_of_lt_of_le h1 h.size) (fun e => by have := World.ownsRow.lt hr j e.symm; omega), h.block j h1 h2 h3 h4 h5]⟩
theorem ButF.is {k g b B : Nat} {w w' : World} (h : ButF k g b B w w') {q : Nat} {cs : List Value} {t : TypeId} (hb : blockIs w q cs t) (h1 : q ≠ k) (h2 : q ≠ g) (h3 : q ≠ b) (h4 : q < B ∨ t ≠ 5) : blockIs w' q cs t := by
  unfold blockIs at *
  rw [h.block q (Array.getElem?_eq_some_iff.1 hb).1 h1 h2 h3 (h4.imp id (fun ht cur fz e => by
    rw [hb] at e
    injection e with e
    injection e with _ e _
    exact ht e))]
  exact hb
/-- Bytes that come in: not the knife's own. -/
structure Pc where
  a : Option Addr
  c : Nat
  l : List UInt8
def Pc.val (p : Pc) : Value := .slice p.a p.l.length p.c
def bytesFar (w : World) (k g b B : Nat) (a : Option Addr) (l : List UInt8) : Prop := l = [] ∨ ∃ bb bo, a = some ⟨bb, bo, none⟩ ∧ bb ≠ k ∧ bb ≠ g ∧ bb ≠ b ∧ bb < B ∧ ∀ j, j < l.length → w.cell? ⟨bb, bo + j, none⟩ = some (.int .u8 (V (l.getD j 0)))
theorem bytesFar.off {w : World} {k g b B : Nat} {a : Option Addr} {l : List UInt8} (h : bytesFar w k g b B a l) : bytesOff w g b a l := by
  rcases h with h | ⟨bb, bo, h1, _, h3, h4, _, h6⟩
  · exact Or.inl h
  · exact Or.inr ⟨bb, bo, h1, h3, h4, h6⟩
theorem bytesFar.into {w : World} {k g b B : Nat} {a : Option Addr} {l : List UInt8} (h : bytesFar w k g b B a l) : bytesIn w a l := by
  rcases h with h | ⟨bb, bo, h1, _, _, _, _, h6⟩
  · exact Or.inl h
  · exact Or.inr ⟨bb, bo, h1, h6⟩
theorem bytesFar.kept {w w' : World} {k g b B : Nat} {a : Option Addr} {l : List UInt8} (h : bytesFar w k g b B a l) (hb : ButF k g b B w w') : bytesFar w' k g b B a l := by
  rcases h with h | ⟨bb, bo, h1, h2, h3, h4, h5, h6⟩
  · exact Or.inl h
  · refine Or.inr ⟨bb, bo, h1, h2, h3, h4, h5, fun j hj => ?_⟩
    have e := h6 j hj
    have hlt := block_lt_of_cell e
    rw [World.cell?_of_block (a := ⟨bb, bo + j, none⟩) (hb.block bb hlt h2 h3 h4 (Or.inl h5))]
    exact e
theorem bytesFar.drop {w : World} {k g b B : Nat} {a : Option Addr} {l : List UInt8} (h : bytesFar w k g b B a l) (c n : Nat) (hc : l.length ≤ c) : bytesFar w k g b B (if c = n then a else a.map (fun x => x.add n)) (l.drop n) := by
  by_cases hcn : c = n
  · rw [if_pos hcn]; exact Or.inl (List.drop_of_length_le (by omega))
  · rw [if_neg hcn]
    rcases h with h | ⟨bb, bo, rfl, h2, h3, h4, h5, h6⟩
    · exact Or.inl (by rw [h]; simp)
    · refine Or.inr ⟨bb, bo + n, by show some (Addr.add _ n) = _; rw [Addr.add_lit], h2, h3, h4, h5, fun j hj => ?_⟩
      rw [List.length_drop] at hj
      rw [show bo + n + j = bo + (n + j) by omega, h6 (n + j) (by omega)]
      simp [List.getD_eq_getElem?_getD, List.getElem?_drop]
def Pc.far (w : World) (k g b B : Nat) (p : Pc) : Prop := p.l.length ≤ p.c ∧ p.c ≤ 9223372036854775807 ∧ (p.a = none → p.c = 0) ∧ bytesFar w k g b B p.a p.l
/-- A knife under way: what came of the piece, and what was told. -/
structure FedAt (w0 w : World) (k g b : Nat) (r : Rl) (B B' : Nat) (pv ov : Value) (P : List UInt8) (vs : List Value) (O : List (List UInt8)) (L : List UInt8) : Prop where
  knife : KnifeAt w k g b r pv L
  fit : fitW L P
  piece : rowIs w B' pv P
  lo : B ≤ B'
  hi : B' ≤ w.heap.size
  out : rowV w w0.heap.size 22 ov vs
  rows : Pieces w B B' vs O
  kept : ButF k g b B w0 w
end Go.Proofs.YtaohbpmefcdipaaDoor.Ct
