/- ShelfRooms in plain words. -/
import Derived.Test.YthefledeoiegjaaCk
namespace Go.Proofs.Ythefledeoiegjaa
open Go.RowKit

def nm (i : Nat) : List UInt8 := [UInt8.ofNat (97 + i)]
theorem nm_is : ∀ i, i < 26 → isName (nm i) = true := by decide
theorem nm_inj {i j : Nat} (hi : i < 26) (hj : j < 26) (h : nm i = nm j) : i = j := by
  unfold nm at h
  have h : UInt8.ofNat (97 + i) = UInt8.ofNat (97 + j) := by simpa using h
  have := congrArg UInt8.toNat h
  simp [UInt8.toNat_ofNat'] at this
  omega
theorem has_iff (n : List UInt8) : ∀ L : List Ent, has L n = true ↔ n ∈ L.map Prod.fst
  | [] => by simp [has, get]
  | p :: r => by
    have ih := has_iff n r
    unfold has at ih ⊢
    unfold get
    by_cases h : p.1 = n
    · simp [h]
    · rw [if_neg h, ih]
      simp [Ne.symm h]
theorem put_absent (n : List UInt8) (o : Ob) : ∀ L : List Ent, n ∉ L.map Prod.fst → put L n o = L ++ [(n, o)]
  | [], _ => rfl
  | p :: r, h => by
    have h1 : ¬ p.1 = n := fun e => h (by simp [e])
    have h2 : n ∉ r.map Prod.fst := fun e => h (by simp only [List.map_cons, List.mem_cons]; exact .inr e)
    unfold put
    rw [if_neg h1, put_absent n o r h2]
    rfl
theorem put_size (n : List UInt8) (o : Ob) : ∀ L : List Ent, o.1.length ≤ sizeSum (put L n o)
  | [] => by simp [put, sizeSum]
  | p :: r => by
    unfold put
    split
    · simp [sizeSum]
    · have := put_size n o r
      simp only [sizeSum, List.map_cons, List.sum_cons] at this ⊢
      omega
theorem del_size (n : List UInt8) : ∀ L : List Ent, sizeSum (del L n) + (obOr (get L n)).1.length = sizeSum L
  | [] => by simp [del, get, sizeSum, obOr]
  | p :: r => by
    unfold del get
    by_cases h : p.1 = n
    · rw [if_pos h, if_pos h]
      simp only [sizeSum, List.map_cons, List.sum_cons, obOr]
      simp
      omega
    · rw [if_neg h, if_neg h]
      have := del_size n r
      simp only [sizeSum, List.map_cons, List.sum_cons] at this ⊢
      omega
theorem del_names (n : List UInt8) : ∀ (A : List (List UInt8)) (B : List (List UInt8)) (L : List Ent), L.map Prod.fst = A ++ n :: B → n ∉ A → (del L n).map Prod.fst = A ++ B
  | A, B, [], h, _ => by cases A <;> simp at h
  | [], B, p :: r, h, _ => by
    simp only [List.map_cons, List.nil_append, List.cons.injEq] at h
    unfold del
    rw [if_pos h.1]
    exact h.2
  | x :: A, B, p :: r, h, hn => by
    simp only [List.map_cons, List.cons_append, List.cons.injEq] at h
    have h1 : ¬ p.1 = n := fun e => hn (by rw [← e, h.1]; simp)
    unfold del
    rw [if_neg h1]
    simp only [List.map_cons, List.cons_append, List.cons.injEq]
    exact ⟨h.1, del_names n A B r h.2 (fun e => hn (by simp [e]))⟩
/-- A store with no power's end. -/
def onR (room : Int) (L : List Ent) (t : Int) : Sh := ⟨room, L, t, false, false, 0⟩
/-- What ShelfRooms keeps. -/
structure RmOk (R : Nat) (L : List Ent) (T : List Nat) (i : Nat) : Prop where
  names : L.map Prod.fst = T.map nm
  once : T.Nodup
  low : ∀ x ∈ T, x < i
  size : sizeSum L ≤ R
theorem RmOk.len {R : Nat} {L : List Ent} {T : List Nat} {i : Nat} (h : RmOk R L T i) : L.length = T.length := by
  have := congrArg List.length h.names
  simpa using this
theorem low_len {i : Nat} {T : List Nat} (h1 : T.Nodup) (h2 : ∀ x ∈ T, x < i) : T.length ≤ i := by
  have := h1.length_le_of_subset (l₂ := List.range i) (fun x hx => List.mem_range.2 (h2 x hx))
  simpa using this
theorem RmOk.few {R : Nat} {L : List Ent} {T : List Nat} {i : Nat} (h : RmOk R L T i) : T.length ≤ i := low_len h.once h.low
theorem RmOk.new {R : Nat} {L : List Ent} {T : List Nat} {i : Nat} (h : RmOk R L T i) (hi : i < 26) : nm i ∉ L.map Prod.fst := by
  rw [h.names]
  intro hm
  obtain ⟨x, hx, e⟩ := List.mem_map.1 hm
  have hl := h.low x hx
  have := nm_inj (by omega) hi e
  omega
theorem RmOk.putE {R : Nat} {L : List Ent} {T : List Nat} {i n : Nat} (t : Int) (h : RmOk R L T i) (hi : i < 26) (hn : n ≤ 1500) (y : List UInt8) (hy : y.length = n) :
    putE (onR R L t) (nm i) y = if R < sizeSum L + n then 8 else 0 := by
  have hh : has L (nm i) = false := by
    rw [Bool.eq_false_iff]; intro e; exact h.new hi ((has_iff _ _).1 e)
  have hl := h.len
  have hf := h.few
  have e : takesE (onR R L t) (nm i) y.length = if R < sizeSum L + n then 8 else 0 := by
    unfold takesE onR
    simp only [nm_is i hi, hh, hy, Bool.true_eq_false, Bool.false_eq_true, if_false]
    rw [if_neg (by omega)]
    by_cases hc : R < sizeSum L + n
    · rw [if_pos hc, if_pos (.inl (by omega))]
    · rw [if_neg hc, if_neg (by omega)]
  unfold Go.Proofs.Ythefledeoiegjaa.putE
  rw [e]
  by_cases hc : R < sizeSum L + n
  · simp [onR, hc]
  · simp [onR, hc, spentE]
theorem RmOk.takes {R : Nat} {L : List Ent} {T : List Nat} {i n : Nat} (t : Int) (h : RmOk R L T i) (hi : i < 26) (hn : n ≤ 1500) (y : List UInt8) (hy : y.length = n) :
    takesE (onR R L t) (nm i) y.length = if R < sizeSum L + n then 8 else 0 := by
  have hh : has L (nm i) = false := by
    rw [Bool.eq_false_iff]; intro e; exact h.new hi ((has_iff _ _).1 e)
  have hl := h.len
  have hf := h.few
  unfold takesE onR
  simp only [nm_is i hi, hh, hy, Bool.true_eq_false, Bool.false_eq_true, if_false]
  rw [if_neg (by omega)]
  by_cases hc : R < sizeSum L + n
  · rw [if_pos hc, if_pos (.inl (by omega))]
  · rw [if_neg hc, if_neg (by omega)]
theorem RmOk.putS_no {R : Nat} {L : List Ent} {T : List Nat} {i n : Nat} (t : Int) (h : RmOk R L T i) (hi : i < 26) (hn : n ≤ 1500) (y : List UInt8) (hy : y.length = n) (hc : R < sizeSum L + n) :
    putS (onR R L t) (nm i) y = onR R L t := by
  unfold putS
  rw [h.takes t hi hn y hy, if_pos hc]
  simp [onR]
theorem RmOk.putS_yes {R : Nat} {L : List Ent} {T : List Nat} {i n : Nat} (t : Int) (h : RmOk R L T i) (hi : i < 26) (hn : n ≤ 1500) (y : List UInt8) (hy : y.length = n) (hc : ¬ R < sizeSum L + n) :
    putS (onR R L t) (nm i) y = onR R (L ++ [(nm i, (y, false))]) (t + 1) ∧ RmOk R (L ++ [(nm i, (y, false))]) (T ++ [i]) (i + 1) ∧ sizeSum (L ++ [(nm i, (y, false))]) = sizeSum L + n := by
  have hsz : sizeSum (L ++ [(nm i, (y, false))]) = sizeSum L + n := by simp [sizeSum, hy]
  refine ⟨?_, ⟨?_, ?_, ?_, ?_⟩, hsz⟩
  · unfold putS
    rw [h.takes t hi hn y hy, if_neg hc]
    have := put_absent (nm i) (y, false) L (h.new hi)
    simp [onR, spentE, spent, this]
  · rw [List.map_append, List.map_append, h.names]
    rfl
  · refine List.nodup_append.2 ⟨h.once, by simp, ?_⟩
    intro a ha b hb
    have := h.low a ha
    have : b = i := by simpa using hb
    omega
  · intro x hx
    rcases List.mem_append.1 hx with hx | hx
    · have := h.low x hx; omega
    · have : x = i := by simpa using hx
      omega
  · omega
theorem RmOk.up {R : Nat} {L : List Ent} {T : List Nat} {i : Nat} (h : RmOk R L T i) : RmOk R L T (i + 1) := ⟨h.names, h.once, fun x hx => by have := h.low x hx; omega, h.size⟩
theorem RmOk.has_at {R : Nat} {L : List Ent} {T : List Nat} {i k : Nat} (h : RmOk R L T i) (hk : k < T.length) : has L (nm (T.getD k 0)) = true := by
  rw [has_iff, h.names]
  refine List.mem_map.2 ⟨T.getD k 0, ?_, rfl⟩
  rw [List.getD_eq_getElem?_getD, List.getElem?_eq_getElem hk]
  exact List.getElem_mem hk
theorem RmOk.at_low {R : Nat} {L : List Ent} {T : List Nat} {i k : Nat} (h : RmOk R L T i) (hk : k < T.length) : T.getD k 0 < i := by
  refine h.low _ ?_
  rw [List.getD_eq_getElem?_getD, List.getElem?_eq_getElem hk]
  exact List.getElem_mem hk
theorem RmOk.del {R : Nat} {L : List Ent} {T : List Nat} {i k : Nat} (h : RmOk R L T i) (hi : i ≤ 26) (hk : k < T.length) : RmOk R (del L (nm (T.getD k 0))) (T.take k ++ T.drop (k + 1)) i := by
  obtain ⟨x, hx⟩ : ∃ x, x = T.getD k 0 := ⟨_, rfl⟩
  have hT : T = T.take k ++ x :: T.drop (k + 1) := by
    have : x = T[k] := by rw [hx, List.getD_eq_getElem?_getD, List.getElem?_eq_getElem hk]; rfl
    rw [this, List.getElem_cons_drop, List.take_append_drop]
  rw [← hx]
  have hsub : ∀ y ∈ T.take k ++ T.drop (k + 1), y ∈ T := by
    intro y hy
    rcases List.mem_append.1 hy with hy | hy
    · exact List.mem_of_mem_take hy
    · exact List.mem_of_mem_drop hy
  have hnd := h.once
  rw [hT] at hnd
  have hnd2 := List.nodup_append.1 hnd
  refine ⟨?_, ?_, fun y hy => h.low y (hsub y hy), ?_⟩
  · rw [List.map_append]
    refine del_names (nm x) _ _ L (by rw [h.names]; conv => lhs; rw [hT]
                                      simp) ?_
    intro hm
    obtain ⟨y, hy, e⟩ := List.mem_map.1 hm
    have h1 := h.low y (List.mem_of_mem_take hy)
    have h2 : x < i := by rw [hx]; exact h.at_low hk
    have := nm_inj (by omega) (by omega) e
    exact hnd2.2.2 y hy x (by simp) this
  · refine List.nodup_append.2 ⟨hnd2.1, (List.nodup_cons.1 hnd2.2.1).2, fun a ha b hb => hnd2.2.2 a ha b (by simp [hb])⟩
  · have := del_size (nm x) L
    have := h.size
    omega
theorem del_on {R : Nat} {L : List Ent} {n : List UInt8} (t : Int) (h : has L n = true) : deletedE (onR R L t) n = 0 ∧ deletedS (onR R L t) n = onR R (del L n) (t + 1) ∧ getE (onR R L t) n = 0 ∧ getB (onR R L t) n = (obOr (get L n)).1 := by
  refine ⟨?_, ?_, ?_, ?_⟩
  · simp [deletedE, onR, h, spentE]
  · simp [deletedS, onR, h, spentE, spent]
  · simp [getE, onR, h]
  · simp [getB, onR, h]
theorem forge_on {R : Nat} {L : List Ent} (t : Int) (hl : L.length < 2000) (b : List UInt8) (hb : b.length ≤ 1048576) : forgedE (onR R L t) [122] b = 0 ∧ (forgedS (onR R L t) [122] b).objs = put L [122] (b, true) := by
  have e : forgedE (onR R L t) [122] b = 0 := by
    unfold forgedE
    rw [if_neg (by decide), if_neg (by omega), if_neg (by show ¬ (_ ∧ 2000 ≤ L.length); omega)]
  refine ⟨e, ?_⟩
  unfold forgedS
  rw [if_pos e]
  rfl
theorem onR_ok (R : Nat) (L : List Ent) (t : Int) (h1 : R ≤ 3000) (h2 : 0 ≤ t) (h3 : t ≤ 1000) : ShOk (onR R L t) :=
  ⟨⟨by show (0 : Int) ≤ (R : Int); omega, by show (R : Int) ≤ 1073741824; omega⟩, ⟨h2, by show t ≤ 1000000000; omega⟩, ⟨by show (0 : Int) ≤ 0; decide, by show (0 : Int) ≤ 9223372036854775807; decide⟩⟩
end Go.Proofs.Ythefledeoiegjaa
