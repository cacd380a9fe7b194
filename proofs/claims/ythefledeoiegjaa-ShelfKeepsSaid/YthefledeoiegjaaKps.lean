/- ShelfKeeps in plain words. -/
import Derived.Test.YthefledeoiegjaaRms
import Derived.Test.YthefledeoiegjaaSy
namespace Go.Proofs.Ythefledeoiegjaa
open Go.RowKit

theorem get_put (n m : List UInt8) (o : Ob) : ∀ L : List Ent, get (put L n o) m = if n = m then some o else get L m
  | [] => by simp [put, get]
  | p :: r => by
    have ih := get_put n m o r
    unfold put
    by_cases h : p.1 = n
    · rw [if_pos h]
      simp only [get]
      by_cases h2 : n = m
      · rw [if_pos h2, if_pos h2]
      · rw [if_neg h2, if_neg h2, if_neg (fun e => h2 (h ▸ e))]
    · rw [if_neg h]
      simp only [get]
      by_cases h3 : p.1 = m
      · rw [if_pos h3, if_pos h3, if_neg (fun e => h (by rw [h3, e]))]
      · rw [if_neg h3, if_neg h3, ih]
theorem get_none {m : List UInt8} {L : List Ent} (h : m ∉ L.map Prod.fst) : get L m = none := by
  have : ¬ has L m = true := fun e => h ((has_iff m L).1 e)
  unfold has at this
  cases hg : get L m with
  | none => rfl
  | some o => rw [hg] at this; simp at this
theorem get_del_ne {n m : List UInt8} (hn : n ≠ m) : ∀ L : List Ent, get (del L n) m = get L m
  | [] => rfl
  | p :: r => by
    unfold del
    by_cases h : p.1 = n
    · rw [if_pos h]
      simp only [get]
      rw [if_neg (fun e => hn (h ▸ e))]
    · rw [if_neg h]
      simp only [get]
      rw [get_del_ne hn r]
theorem del_sub (n : List UInt8) : ∀ L : List Ent, ((del L n).map Prod.fst).Sublist (L.map Prod.fst)
  | [] => by simp [del]
  | p :: r => by
    unfold del
    split
    · exact List.sublist_cons_self _ _
    · exact (del_sub n r).cons_cons _
theorem get_del_same {n : List UInt8} {L : List Ent} (h : (L.map Prod.fst).Nodup) : get (del L n) n = none := by
  induction L with
  | nil => rfl
  | cons p r ih =>
    simp only [List.map_cons, List.nodup_cons] at h
    unfold del
    by_cases e : p.1 = n
    · rw [if_pos e]
      exact get_none (e ▸ h.1)
    · rw [if_neg e]
      simp only [get]
      rw [if_neg e, ih h.2]
theorem put_keys (n : List UInt8) (o : Ob) : ∀ L : List Ent, ∀ m, m ∈ (put L n o).map Prod.fst → m = n ∨ m ∈ L.map Prod.fst
  | [], m, h => by simp [put] at h; exact .inl h
  | p :: r, m, h => by
    unfold put at h
    by_cases e : p.1 = n
    · rw [if_pos e] at h
      simp only [List.map_cons, List.mem_cons] at h ⊢
      rcases h with h | h
      · exact .inl h
      · exact .inr (.inr h)
    · rw [if_neg e] at h
      simp only [List.map_cons, List.mem_cons] at h ⊢
      rcases h with h | h
      · exact .inr (.inl h)
      · rcases put_keys n o r m h with h | h
        · exact .inl h
        · exact .inr (.inr h)
theorem put_nodup (n : List UInt8) (o : Ob) : ∀ L : List Ent, (L.map Prod.fst).Nodup → ((put L n o).map Prod.fst).Nodup
  | [], _ => by simp [put]
  | p :: r, h => by
    simp only [List.map_cons, List.nodup_cons] at h
    unfold put
    by_cases e : p.1 = n
    · rw [if_pos e]
      simp only [List.map_cons, List.nodup_cons]
      exact ⟨e ▸ h.1, h.2⟩
    · rw [if_neg e]
      simp only [List.map_cons, List.nodup_cons]
      refine ⟨fun hm => ?_, put_nodup n o r h.2⟩
      rcases put_keys n o r _ hm with hm | hm
      · exact e hm
      · exact h.1 hm
theorem del_nodup (n : List UInt8) {L : List Ent} (h : (L.map Prod.fst).Nodup) : ((del L n).map Prod.fst).Nodup := (del_sub n L).nodup h
/-- What a crash may leave of an object. -/
def Left (b : List UInt8) (o : Option Ob) : Prop := o = none ∨ ∃ j f, o = some (b.take j, f)
theorem crash_spec : ∀ (N : List (List UInt8)) (P : List Int) (L : List Ent), (L.map Prod.fst).Nodup →
    (∀ m b, get L m = some (b, true) → get (crashGo N P L) m = some (b, true)) ∧ (∀ m b, Left b (get L m) → Left b (get (crashGo N P L) m)) ∧
    ((crashGo N P L).map Prod.fst).Nodup ∧ ∀ m, m ∈ (crashGo N P L).map Prod.fst → m ∈ N ∨ m ∈ L.map Prod.fst
  | [], P, L, h => ⟨fun _ _ e => e, fun _ _ e => e, h, fun _ e => .inr e⟩
  | n :: r, P, L, h => by
    unfold crashGo
    by_cases hs : (obOr (get L n)).2 = true
    · rw [if_pos hs]
      obtain ⟨h1, h2, h3, h4⟩ := crash_spec r P L h
      refine ⟨h1, h2, h3, fun m hm => ?_⟩
      rcases h4 m hm with e | e
      · exact .inl (by simp [e])
      · exact .inr e
    · rw [if_neg hs]
      have hl : ((loseIn L n (P.headD 0)).map Prod.fst).Nodup := by
        unfold loseIn
        dsimp only
        split
        · exact del_nodup n h
        · exact put_nodup n _ L h
      obtain ⟨h1, h2, h3, h4⟩ := crash_spec r P.tail (loseIn L n (P.headD 0)) hl
      refine ⟨fun m b e => h1 m b ?_, fun m b e => h2 m b ?_, h3, fun m hm => ?_⟩
      · have hne : n ≠ m := fun en => by
          rw [en, e] at hs
          exact hs rfl
        unfold loseIn
        dsimp only
        split
        · rw [get_del_ne hne, e]
        · rw [get_put, if_neg hne, e]
      · by_cases hne : n = m
        · subst hne
          unfold loseIn
          dsimp only
          split
          · exact .inl (get_del_same h)
          · refine .inr ?_
            rw [get_put, if_pos rfl]
            rcases e with e | ⟨j, f, e⟩
            · exact ⟨0, true, by rw [e]; simp [obOr]⟩
            · rw [e]
              refine ⟨min (lostP (b.take j) (P.headD 0) - 1) j, true, ?_⟩
              simp only [obOr, Option.getD_some, List.take_take]
        · unfold loseIn
          dsimp only
          split
          · rw [get_del_ne hne]; exact e
          · rw [get_put, if_neg hne]; exact e
      · rcases h4 m hm with e | e
        · exact .inl (by simp [e])
        · unfold loseIn at e
          dsimp only at e
          split at e
          · exact .inr ((del_sub n L).subset e)
          · rcases put_keys n _ L m e with e | e
            · exact .inl (by simp [e])
            · exact .inr e
theorem names_sub (L : List Ent) (pre : List UInt8) : ∀ m ∈ namesOf L pre, m ∈ L.map Prod.fst := by
  intro m hm
  unfold namesOf at hm
  have := (List.mergeSort_perm _ _).mem_iff.1 hm
  unfold namesIn at this
  exact (List.mem_filter.1 this).1
theorem crash_len {P : List Int} {L : List Ent} (h : (L.map Prod.fst).Nodup) : (crashGo (namesOf L []) P L).length ≤ L.length := by
  obtain ⟨-, -, h3, h4⟩ := crash_spec (namesOf L []) P L h
  have := h3.length_le_of_subset (l₂ := L.map Prod.fst) (fun m hm => by
    rcases h4 m hm with e | e
    · exact names_sub L [] m e
    · exact e)
  simpa using this
/-- The names of a night. -/
def pn (i : Nat) : List UInt8 := 110 :: nm i
def rn (i : Nat) : List UInt8 := 114 :: pn i
theorem pn_is : ∀ i, i < 20 → isName (pn i) = true := by decide
theorem rn_is : ∀ i, i < 20 → isName (rn i) = true := by decide
theorem pn_inj {i j : Nat} (hi : i < 20) (hj : j < 20) (h : pn i = pn j) : i = j := by
  unfold pn at h
  exact nm_inj (by omega) (by omega) (by simpa using h)
theorem rn_inj {i j : Nat} (hi : i < 20) (hj : j < 20) (h : rn i = rn j) : i = j := by
  unfold rn at h
  exact pn_inj hi hj (by simpa using h)
theorem pn_rn (i j : Nat) : pn i ≠ rn j := by
  intro h
  have := congrArg List.length h
  simp [pn, rn, nm] at this
/-- What ShelfKeeps keeps: objects L, texts A by their last names X, those that are sure. -/
structure KpOk (L : List Ent) (A X K N : List (List UInt8)) (i : Nat) : Prop where
  once : (L.map Prod.fst).Nodup
  low : ∀ m ∈ L.map Prod.fst, ∃ j, j < i ∧ (m = pn j ∨ m = rn j)
  lenA : A.length = X.length
  len : L.length ≤ A.length
  few : A.length ≤ i
  lenK : K.length = N.length
  fewK : K.length ≤ A.length
  all : ∀ j, j < X.length → ∃ f, get L (X.getD j []) = some (A.getD j [], f)
  sure : ∀ q, q < N.length → get L (N.getD q []) = some (K.getD q [], true)
  size : sizeSum L ≤ 2000 * i
theorem KpOk.none : KpOk [] [] [] [] [] 0 := ⟨by simp, fun m h => by simp at h, rfl, by simp, by simp, rfl, by simp, fun j h => by simp at h, fun j h => by simp at h, by simp [sizeSum]⟩
theorem KpOk.new {L : List Ent} {A X K N : List (List UInt8)} {i : Nat} (h : KpOk L A X K N i) (hi : i < 20) : pn i ∉ L.map Prod.fst ∧ rn i ∉ L.map Prod.fst := by
  constructor
  · intro hm
    obtain ⟨j, hj, e | e⟩ := h.low _ hm
    · have := pn_inj hi (by omega) e; omega
    · exact pn_rn _ _ e
  · intro hm
    obtain ⟨j, hj, e | e⟩ := h.low _ hm
    · exact pn_rn _ _ e.symm
    · have := rn_inj hi (by omega) e; omega
theorem get_mem_keys {L : List Ent} {m : List UInt8} {o : Ob} (h : get L m = some o) : m ∈ L.map Prod.fst := (has_iff m L).1 (by unfold has; rw [h]; rfl)
theorem getD_append_one {α : Type} (l : List α) (x d : α) : (l ++ [x]).getD l.length d = x := by simp
theorem getD_append_lt {α : Type} (l : List α) (x d : α) {j : Nat} (h : j < l.length) : (l ++ [x]).getD j d = l.getD j d := by
  simp [List.getD_eq_getElem?_getD, List.getElem?_append_left h]
def sK (L : List Ent) (t : Nat) (off : Bool) (left : Nat) : Sh := ⟨1048576, L, (t : Int), off, true, (left : Int)⟩
theorem sK_ok (L : List Ent) (t : Nat) (off : Bool) (left : Nat) (h1 : t ≤ 1000) (h2 : left ≤ 1000) : ShOk (sK L t off left) :=
  ⟨⟨by show (0 : Int) ≤ 1048576; decide, by show (1048576 : Int) ≤ 1073741824; decide⟩, ⟨by show (0 : Int) ≤ (t : Int); omega, by show (t : Int) ≤ 1000000000; omega⟩, ⟨by show (0 : Int) ≤ (left : Int); omega, by show (left : Int) ≤ 9223372036854775807; omega⟩⟩
theorem spentE_K (L : List Ent) (t : Nat) (off : Bool) (left : Nat) : spentE (sK L t off left) = if left = 0 then 9 else 0 := by
  unfold spentE sK
  by_cases h : left = 0
  · subst h; simp
  · rw [if_neg h, if_neg]
    simp only [true_and]
    omega
theorem spent_no (L : List Ent) (t : Nat) (off : Bool) : spent (sK L t off 0) = sK L t true 0 := by simp [spent, sK]
theorem spent_yes (L : List Ent) (t : Nat) (off : Bool) (left : Nat) (h : left ≠ 0) : spent (sK L t off left) = sK L (t + 1) off (left - 1) := by
  unfold spent sK
  have h1 : ¬ (left : Int) = 0 := by omega
  have h2 : (left : Int) - 1 = ((left - 1 : Nat) : Int) := by omega
  simp [h, h1, h2]
/-- A text is put. -/
theorem KpOk.put_is {L : List Ent} {A X K N : List (List UInt8)} {i : Nat} (h : KpOk L A X K N i) (hi : i < 20) (y : List UInt8) (hy : y.length ≤ 2000) (t : Nat) (off : Bool) (left : Nat) :
    (putE (sK L t off left) (pn i) y = 9 ∧ putS (sK L t off left) (pn i) y = sK L t true left) ∨
    (off = false ∧ left ≠ 0 ∧ putE (sK L t off left) (pn i) y = 0 ∧ putS (sK L t off left) (pn i) y = sK (L ++ [(pn i, (y, false))]) (t + 1) false (left - 1)) := by
  cases off with
  | true => exact .inl ⟨by simp [putE, sK], by simp [putS, sK]⟩
  | false =>
    have hh : has L (pn i) = false := by rw [Bool.eq_false_iff]; intro e; exact (h.new hi).1 ((has_iff _ _).1 e)
    have hz := h.size
    have hl := h.len
    have hf := h.few
    have e : takesE (sK L t false left) (pn i) y.length = 0 := by
      unfold takesE
      rw [pn_is i hi, show (sK L t false left).objs = L from rfl, hh, if_neg (by decide), if_neg (by decide), if_neg (by omega), if_neg (by show ¬ ((1048576 : Int) < ((sizeSum L + y.length : Nat) : Int) ∨ 2000 ≤ L.length); omega)]
    have eE : putE (sK L t false left) (pn i) y = spentE (sK L t false left) := by
      unfold putE
      rw [if_neg (by show ¬ false = true; decide), if_pos e]
    have eS : putS (sK L t false left) (pn i) y = if spentE (sK L t false left) = 0 then { spent (sK L t false left) with objs := put L (pn i) (y, false) } else spent (sK L t false left) := by
      unfold putS
      rw [if_neg (by show ¬ false = true; decide), if_pos e]
      rfl
    rw [eE, eS, spentE_K]
    by_cases h0 : left = 0
    · subst h0
      exact .inl ⟨rfl, by rw [if_pos rfl, if_neg (by decide), spent_no]⟩
    · refine .inr ⟨rfl, h0, by rw [if_neg h0], ?_⟩
      rw [if_neg h0, if_pos rfl, spent_yes _ _ _ _ h0, put_absent _ _ _ (h.new hi).1]
      rfl
theorem KpOk.put {L : List Ent} {A X K N : List (List UInt8)} {i : Nat} (h : KpOk L A X K N i) (hi : i < 20) (y : List UInt8) (hy : y.length ≤ 2000) :
    KpOk (L ++ [(pn i, (y, false))]) (A ++ [y]) (X ++ [pn i]) K N (i + 1) ∧ get (L ++ [(pn i, (y, false))]) (pn i) = some (y, false) := by
  have hn := (h.new hi).1
  have e : L ++ [(pn i, (y, false))] = Go.Proofs.Ythefledeoiegjaa.put L (pn i) (y, false) := (put_absent _ _ _ hn).symm
  refine ⟨⟨?_, ?_, by simp [h.lenA], by simp; exact h.len, by have := h.few; simp; omega, h.lenK, by have := h.fewK; simp; omega, ?_, ?_, ?_⟩, by rw [e, get_put, if_pos rfl]⟩
  · rw [e]; exact put_nodup _ _ _ h.once
  · intro m hm
    rw [e] at hm
    rcases put_keys _ _ _ _ hm with hm | hm
    · exact ⟨i, by omega, .inl hm⟩
    · obtain ⟨j, hj, hjj⟩ := h.low m hm
      exact ⟨j, by omega, hjj⟩
  · intro j hj
    rw [List.length_append, List.length_singleton] at hj
    by_cases hjl : j < X.length
    · obtain ⟨f, hf⟩ := h.all j hjl
      refine ⟨f, ?_⟩
      rw [getD_append_lt _ _ _ hjl, getD_append_lt _ _ _ (by rw [h.lenA]; exact hjl), e, get_put, if_neg, hf]
      intro en
      exact hn (en ▸ get_mem_keys hf)
    · obtain rfl : j = X.length := by omega
      refine ⟨false, ?_⟩
      rw [getD_append_one, ← h.lenA, getD_append_one, e, get_put, if_pos rfl]
  · intro q hq
    have hs := h.sure q hq
    rw [e, get_put, if_neg, hs]
    intro en
    exact hn (en ▸ get_mem_keys hs)
  · have := h.size
    simp [sizeSum] at this ⊢
    omega
/-- What is put is synced. -/
theorem sync_is {L : List Ent} {n y : List UInt8} {f : Bool} (h : get L n = some (y, f)) (t left : Nat) :
    (left = 0 ∧ syncedE (sK L t false left) [n] = 9 ∧ syncedS (sK L t false left) [n] = sK L t true left) ∨
    (left ≠ 0 ∧ syncedE (sK L t false left) [n] = 0 ∧ syncedS (sK L t false left) [n] = sK (put L n (y, true)) (t + 1) false (left - 1)) := by
  have hh : has L n = true := by unfold has; rw [h]; rfl
  have g : syncGo [n] L = (put L n (y, true), true) := by simp [syncGo, hh, h, obOr]
  have eE : syncedE (sK L t false left) [n] = if spentE (sK L t false left) = 0 then (if (syncGo [n] L).2 then 0 else 6) else 9 := by
    unfold syncedE
    rw [if_neg (by show ¬ false = true; decide)]
    rfl
  have eS : syncedS (sK L t false left) [n] = if spentE (sK L t false left) = 0 then { spent (sK L t false left) with objs := (syncGo [n] L).1 } else spent (sK L t false left) := by
    unfold syncedS
    rw [if_neg (by show ¬ false = true; decide)]
    rfl
  rw [eE, eS, spentE_K, g]
  by_cases h0 : left = 0
  · subst h0
    exact .inl ⟨rfl, by rw [if_pos rfl, if_neg (by decide)], by rw [if_pos rfl, if_neg (by decide), spent_no]⟩
  · refine .inr ⟨h0, by rw [if_neg h0, if_pos rfl, if_pos rfl], ?_⟩
    rw [if_neg h0, if_pos rfl, spent_yes _ _ _ _ h0]
    rfl
/-- What is synced is renamed. -/
theorem rename_is {L : List Ent} {n m : List UInt8} {o : Ob} (h : get L n = some o) (hm : has L m = false) (hi : isName m = true) (t left : Nat) :
    (renamedE (sK L t false left) n m = 9 ∧ renamedS (sK L t false left) n m = sK L t true left) ∨
    (left ≠ 0 ∧ renamedE (sK L t false left) n m = 0 ∧ renamedS (sK L t false left) n m = sK (put (del L n) m o) (t + 1) false (left - 1)) := by
  have hh : has L n = true := by unfold has; rw [h]; rfl
  have eE : renamedE (sK L t false left) n m = spentE (sK L t false left) := by
    unfold renamedE
    rw [if_neg (by show ¬ false = true; decide), hi, show (sK L t false left).objs = L from rfl, hh, hm, if_neg (by decide), if_neg (by decide), if_neg (by simp)]
  have eS : renamedS (sK L t false left) n m = if spentE (sK L t false left) = 0 then { spent (sK L t false left) with objs := put (del L n) m (obOr (get L n)) } else spent (sK L t false left) := by
    unfold renamedS
    rw [if_neg (by show ¬ false = true; decide), hi, show (sK L t false left).objs = L from rfl, hh, hm, if_neg (by decide), if_neg (by decide), if_neg (by simp)]
  rw [eE, eS, spentE_K, h]
  by_cases h0 : left = 0
  · subst h0
    exact .inl ⟨by rw [if_pos rfl], by rw [if_pos rfl, if_neg (by decide), spent_no]⟩
  · refine .inr ⟨h0, by rw [if_neg h0], ?_⟩
    rw [if_neg h0, if_pos rfl, spent_yes _ _ _ _ h0]
    rfl
theorem size_put_same {n y : List UInt8} {f g : Bool} : ∀ {L : List Ent}, get L n = some (y, f) → sizeSum (put L n (y, g)) = sizeSum L
  | [], h => by simp [get] at h
  | p :: r, h => by
    unfold put
    simp only [get] at h
    by_cases e : p.1 = n
    · rw [if_pos e] at h ⊢
      have : p.2 = (y, f) := by simpa using h
      simp [sizeSum, this]
    · rw [if_neg e] at h ⊢
      have := size_put_same (g := g) h
      simp only [sizeSum, List.map_cons, List.sum_cons] at this ⊢
      omega
theorem len_put_has {n : List UInt8} {o : Ob} : ∀ {L : List Ent}, n ∈ L.map Prod.fst → (put L n o).length = L.length
  | [], h => by simp at h
  | p :: r, h => by
    unfold put
    by_cases e : p.1 = n
    · rw [if_pos e]; rfl
    · rw [if_neg e, List.length_cons, List.length_cons, len_put_has (by simpa [Ne.symm e] using h)]
theorem len_del_has {n : List UInt8} : ∀ {L : List Ent}, n ∈ L.map Prod.fst → (del L n).length + 1 = L.length
  | [], h => by simp at h
  | p :: r, h => by
    unfold del
    by_cases e : p.1 = n
    · rw [if_pos e]; rfl
    · rw [if_neg e, List.length_cons, List.length_cons]
      have := len_del_has (n := n) (L := r) (by simpa [Ne.symm e] using h)
      omega
/-- Behind the sync. -/
theorem KpOk.sync {L : List Ent} {A X K N : List (List UInt8)} {i : Nat} {n y : List UInt8} {f : Bool} (h : KpOk L A X K N i) (hg : get L n = some (y, f)) : KpOk (Go.Proofs.Ythefledeoiegjaa.put L n (y, true)) A X K N i ∧ get (Go.Proofs.Ythefledeoiegjaa.put L n (y, true)) n = some (y, true) := by
  have hk := get_mem_keys hg
  refine ⟨⟨put_nodup _ _ _ h.once, ?_, h.lenA, by rw [len_put_has hk]; exact h.len, h.few, h.lenK, h.fewK, ?_, ?_, by rw [size_put_same hg]; exact h.size⟩, by rw [get_put, if_pos rfl]⟩
  · intro m hm
    rcases put_keys _ _ _ _ hm with hm | hm
    · rw [hm]; exact h.low n hk
    · exact h.low m hm
  · intro j hj
    obtain ⟨g, hf⟩ := h.all j hj
    rw [get_put]
    by_cases e : n = X.getD j []
    · rw [if_pos e]
      rw [← e, hg] at hf
      exact ⟨true, by have := congrArg Prod.fst (Option.some.inj hf); simp only at this; rw [this]⟩
    · rw [if_neg e]; exact ⟨g, hf⟩
  · intro q hq
    have hs := h.sure q hq
    rw [get_put]
    by_cases e : n = N.getD q []
    · rw [if_pos e]
      rw [← e, hg] at hs
      have := congrArg Prod.fst (Option.some.inj hs)
      simp only at this
      rw [this]
    · rw [if_neg e]; exact hs
theorem KpOk.not_pn {L : List Ent} {A X K N : List (List UInt8)} {i : Nat} (h : KpOk L A X K N i) (hi : i < 20) : (∀ j, j < X.length → X.getD j [] ≠ pn i ∧ X.getD j [] ≠ rn i) ∧ ∀ q, q < N.length → N.getD q [] ≠ pn i ∧ N.getD q [] ≠ rn i := by
  obtain ⟨h1, h2⟩ := h.new hi
  refine ⟨fun j hj => ?_, fun q hq => ?_⟩
  · obtain ⟨f, hf⟩ := h.all j hj
    have := get_mem_keys hf
    exact ⟨fun e => h1 (e ▸ this), fun e => h2 (e ▸ this)⟩
  · have := get_mem_keys (h.sure q hq)
    exact ⟨fun e => h1 (e ▸ this), fun e => h2 (e ▸ this)⟩
/-- A text is sure. -/
theorem KpOk.done {L L2 : List Ent} {A X K N : List (List UInt8)} {i : Nat} {y : List UInt8} (h : KpOk L A X K N i) (h2 : KpOk L2 (A ++ [y]) (X ++ [pn i]) K N (i + 1)) (hg : get L2 (pn i) = some (y, true)) :
    KpOk L2 (A ++ [y]) (X ++ [pn i]) (K ++ [y]) (N ++ [pn i]) (i + 1) := by
  refine ⟨h2.once, h2.low, h2.lenA, h2.len, h2.few, by simp [h2.lenK], by have := h.fewK; simp; omega, h2.all, fun q hq => ?_, h2.size⟩
  rw [List.length_append, List.length_singleton] at hq
  by_cases hql : q < N.length
  · rw [getD_append_lt _ _ _ hql, getD_append_lt _ _ _ (by rw [h2.lenK]; exact hql)]
    exact h2.sure q hql
  · obtain rfl : q = N.length := by omega
    rw [getD_append_one, ← h2.lenK, getD_append_one]
    exact hg
/-- Behind the renaming. -/
theorem KpOk.renamed {L L2 : List Ent} {A X K N : List (List UInt8)} {i : Nat} {y : List UInt8} (h : KpOk L A X K N i) (hi : i < 20) (h2 : KpOk L2 (A ++ [y]) (X ++ [pn i]) K N (i + 1)) (hg : get L2 (pn i) = some (y, true)) (hr : rn i ∉ L2.map Prod.fst) :
    KpOk (Go.Proofs.Ythefledeoiegjaa.put (Go.Proofs.Ythefledeoiegjaa.del L2 (pn i)) (rn i) (y, true)) (A ++ [y]) (X ++ [rn i]) (K ++ [y]) (N ++ [rn i]) (i + 1) := by
  obtain ⟨nx, nn⟩ := h.not_pn hi
  have hk := get_mem_keys hg
  have hrd : rn i ∉ (Go.Proofs.Ythefledeoiegjaa.del L2 (pn i)).map Prod.fst := fun e => hr ((del_sub _ L2).subset e)
  have hlx : (A ++ [y]).length = (X ++ [rn i]).length := by have := h2.lenA; simp at this ⊢; exact this
  refine ⟨put_nodup _ _ _ (del_nodup _ h2.once), ?_, hlx, ?_, h2.few, by simp [h2.lenK], by have := h.fewK; simp; omega, ?_, ?_, ?_⟩
  · intro m hm
    rcases put_keys _ _ _ _ hm with hm | hm
    · exact ⟨i, by omega, .inr hm⟩
    · exact h2.low m ((del_sub _ L2).subset hm)
  · rw [put_absent _ _ _ hrd, List.length_append, List.length_singleton, len_del_has hk]
    exact h2.len
  · intro j hj
    rw [List.length_append, List.length_singleton] at hj
    by_cases hjl : j < X.length
    · obtain ⟨f, hf⟩ := h2.all j (by simp; omega)
      rw [getD_append_lt _ _ _ hjl] at hf ⊢
      exact ⟨f, by rw [get_put, if_neg (Ne.symm (nx j hjl).2), get_del_ne (Ne.symm (nx j hjl).1)]; exact hf⟩
    · obtain rfl : j = X.length := by omega
      refine ⟨true, ?_⟩
      rw [getD_append_one, ← h.lenA, getD_append_one, get_put, if_pos rfl]
  · intro q hq
    rw [List.length_append, List.length_singleton] at hq
    by_cases hql : q < N.length
    · rw [getD_append_lt _ _ _ hql, getD_append_lt _ _ _ (by rw [h2.lenK]; exact hql), get_put, if_neg (Ne.symm (nn q hql).2), get_del_ne (Ne.symm (nn q hql).1)]
      exact h2.sure q hql
    · obtain rfl : q = N.length := by omega
      rw [getD_append_one, ← h2.lenK, getD_append_one, get_put, if_pos rfl]
  · have h1 := del_size (pn i) L2
    rw [hg] at h1
    have h3 := h2.size
    rw [put_absent _ _ _ hrd]
    simp [sizeSum, obOr] at h1 h3 ⊢
    omega
/-- Behind the crash. -/
theorem KpOk.crashed {L : List Ent} {A X K N : List (List UInt8)} {i : Nat} (h : KpOk L A X K N i) (P : List Int) :
    (∀ q, q < N.length → get (crashGo (namesOf L []) P L) (N.getD q []) = some (K.getD q [], true)) ∧ (∀ j, j < X.length → Left (A.getD j []) (get (crashGo (namesOf L []) P L) (X.getD j []))) ∧ (crashGo (namesOf L []) P L).length ≤ A.length := by
  obtain ⟨h1, h2, -, -⟩ := crash_spec (namesOf L []) P L h.once
  refine ⟨fun q hq => h1 _ _ (h.sure q hq), fun j hj => h2 _ _ ?_, Nat.le_trans (crash_len h.once) h.len⟩
  obtain ⟨f, hf⟩ := h.all j hj
  exact .inr ⟨(A.getD j []).length, f, by rw [List.take_length]; exact hf⟩
theorem crashed_K (L : List Ent) (t : Nat) (off : Bool) (left : Nat) (P : List Int) : Go.Proofs.Ythefledeoiegjaa.crashed (sK L t off left) P = onR 1048576 (crashGo (namesOf L []) P L) (t : Nat) := rfl
theorem get_on (R : Int) (L : List Ent) (t : Int) (n : List UInt8) : getE (onR R L t) n = (if has L n then 0 else 6) ∧ getB (onR R L t) n = (if has L n then (obOr (get L n)).1 else []) := by
  cases hh : has L n <;> simp [getE, getB, onR, hh]
/-- What Get tells of what a crash left. -/
theorem left_is {L : List Ent} {n b : List UInt8} (h : Left b (get L n)) (R t : Int) : (getE (onR R L t) n = 6 ∧ getB (onR R L t) n = []) ∨ (getE (onR R L t) n = 0 ∧ ∃ j, j ≤ b.length ∧ getB (onR R L t) n = b.take j) := by
  obtain ⟨e1, e2⟩ := get_on R L t n
  rw [e1, e2]
  rcases h with h | ⟨j, f, h⟩
  · have : has L n = false := by unfold has; rw [h]; rfl
    rw [this]
    exact .inl ⟨rfl, rfl⟩
  · have : has L n = true := by unfold has; rw [h]; rfl
    rw [this, h]
    refine .inr ⟨rfl, min j b.length, by omega, ?_⟩
    simp only [if_true, obOr, Option.getD_some]
    rw [List.take_eq_take_iff]
    omega
theorem sure_is {L : List Ent} {n b : List UInt8} (h : get L n = some (b, true)) (R t : Int) : getE (onR R L t) n = 0 ∧ getB (onR R L t) n = b := by
  obtain ⟨e1, e2⟩ := get_on R L t n
  have : has L n = true := by unfold has; rw [h]; rfl
  rw [e1, e2, this, h]
  exact ⟨rfl, rfl⟩
theorem names_len (L : List Ent) (pre : List UInt8) : (namesOf L pre).length ≤ L.length := by
  unfold namesOf
  rw [List.length_mergeSort]
  exact namesIn_le L pre
end Go.Proofs.Ythefledeoiegjaa
