/- What GlyphBack asks, in plain words: things as bytes, read back whole, or broken off. -/
import Derived.Test.YtmdcdepoeolbhaaIof
namespace Go.Proofs.Ytmdcdepoeolbhaa
open Go.RowKit

/-- Two numbers' bytes at the beginning of one row are the same. -/
theorem num_prefix (m n : Nat) (P Q : List UInt8) (h : numBytes m ++ P = numBytes n ++ Q) : m = n ∧ P = Q := by
  obtain ⟨D, z, h1, h2, h3, -⟩ := numBytes_form m
  obtain ⟨E, y, g1, g2, g3, -⟩ := numBytes_form n
  rw [h1, g1] at h
  have key : ∀ (D E : List UInt8), (∀ x ∈ D, 128 ≤ x.toNat) → (∀ x ∈ E, 128 ≤ x.toNat) → (D ++ [z]) ++ P = (E ++ [y]) ++ Q → D ++ [z] = E ++ [y] ∧ P = Q := by
    intro D
    induction D with
    | nil =>
      intro E _ hE h
      cases E with
      | nil =>
        simp at h
        exact ⟨by rw [h.1], h.2⟩
      | cons x E =>
        simp at h
        have := hE x (by simp)
        rw [← h.1] at this
        omega
    | cons d D ih =>
      intro E hD hE h
      cases E with
      | nil =>
        simp at h
        have := hD d (by simp)
        rw [h.1] at this
        omega
      | cons x E =>
        simp only [List.cons_append, List.cons.injEq] at h
        obtain ⟨h5, h6⟩ := ih E (fun x hx => hD x (by simp [hx])) (fun x hx => hE x (by simp [hx])) h.2
        exact ⟨by rw [List.cons_append, List.cons_append, h.1, h5], h6⟩
  obtain ⟨h5, h6⟩ := key D E h2 g2 h
  exact ⟨numBytes_inj m n (by rw [h1, g1, h5]), h6⟩
/-- Num, where a number's bytes stand. -/
theorem num_back (N : Nat) (hN : N < 4611686018427387904) (R : List UInt8) (most n : Int) (hm : (N : Int) ≤ most) (L1 : List UInt8) (e1 : Int) (h : NumTo (numBytes N ++ R) 0 most n L1 e1) : n = N ∧ L1 = R ∧ e1 = 0 := by
  rcases h with ⟨h, _⟩ | ⟨_, hb, _⟩ | ⟨_, M, s, hM, hs, hb, hc⟩
  · exact absurd rfl h
  · exact absurd hb (not_bad N hN R e1)
  · have e : numBytes M ++ (numBytes N ++ R).drop s = numBytes N ++ R := by rw [hb, List.take_append_drop]
    obtain ⟨rfl, h2⟩ := num_prefix M N _ _ e
    rcases hc with ⟨h, _⟩ | ⟨_, rfl, rfl, rfl⟩
    · omega
    · exact ⟨rfl, h2, rfl⟩
/-- A row that ends ahead of a number's end. -/
theorem short_of (X L M R : List UInt8) (h : L ++ M = X ++ R) : (L.length < X.length ∧ X.take L.length = L) ∨ ∃ R1, L = X ++ R1 ∧ R1 ++ M = R := by
  by_cases hl : L.length < X.length
  · left
    refine ⟨hl, ?_⟩
    have := congrArg (List.take L.length) h
    rw [List.take_left', List.take_append_of_le_length (by omega)] at this
    · exact this.symm
    · rfl
  · right
    refine ⟨L.drop X.length, ?_, ?_⟩
    · have := congrArg (List.take X.length) h
      rw [List.take_left' rfl, List.take_append_of_le_length (by omega)] at this
      exact (List.take_append_drop X.length L).symm.trans (by rw [this])
    · have := congrArg (List.drop X.length) h
      rw [List.drop_left' rfl, List.drop_append_of_le_length (by omega)] at this
      exact this
/-- Num, where a number's bytes break off. -/
theorem num_short (N : Nat) (hN : N < 4611686018427387904) (L : List UInt8) (hl : L.length < (numBytes N).length) (hp : (numBytes N).take L.length = L) (most n : Int) (L1 : List UInt8) (e1 : Int) (h : NumTo L 0 most n L1 e1) : n = 0 ∧ L1 = L ∧ e1 = 3 := by
  obtain ⟨h9, hmo⟩ := short_bad N hN L hl hp
  rcases h with ⟨h, _⟩ | ⟨_, hb, rfl, rfl⟩ | ⟨_, M, s, hM, hs, hb, hc⟩
  · exact absurd rfl h
  · rcases hb with ⟨h, _⟩ | ⟨_, h, _⟩ | ⟨_, k, acc, hk, _, _, hx, _⟩
    · exact ⟨rfl, rfl, h⟩
    · omega
    · have := hmo k hk; omega
  · exfalso
    obtain ⟨D, z, h1, h2, h3, -⟩ := numBytes_form M
    have hlen : D.length + 1 = s := by
      have := congrArg List.length hb
      rw [h1, List.length_append, List.length_take] at this
      simp at this
      omega
    have hz : L.getD D.length 0 = z := by
      have : (L.take s).getD D.length 0 = z := by rw [← hb, h1]; simp
      rw [List.getD_eq_getElem?_getD, List.getElem?_take, if_pos (by omega)] at this
      rw [List.getD_eq_getElem?_getD]
      exact this
    have := hmo D.length (by omega)
    rw [hz] at this
    omega
/-- A thing of the law, made small: what, a number, a text. -/
structure Itm where
  what : Int
  n : Nat
  t : List UInt8
def kindOf (a : Int) : Nat := (IntKind.u64.wrap a % 4).toNat
/-- Its bytes. -/
def Itm.bytes (p : Itm) : List UInt8 :=
  if kindOf p.what = 0 then numBytes p.n else if kindOf p.what = 1 then numBytes p.t.length ++ p.t else if kindOf p.what = 2 then [UInt8.ofNat (p.n % 2)] else p.t
def Itm.ok (p : Itm) : Prop := p.n < 4611686018427387904 ∧ p.t.length ≤ 300
/-- How far one has read: all is well, and something is missing at the end, or it has broken off. -/
def Cutoff (L : List UInt8) (e : Int) (rest : List UInt8) : Prop := (e = 0 ∧ ∃ M, M ≠ [] ∧ L ++ M = rest) ∨ e = 3
theorem tOut_all (X R : List UInt8) : tOut (X ++ R) 0 (X.length : Int) = X ∧ tLeft (X ++ R) 0 (X.length : Int) = R ∧ tErr (X ++ R) 0 (X.length : Int) = 0 := by
  have h : (0 : Int) = 0 ∧ 0 ≤ (X.length : Int) ∧ (X.length : Int) ≤ ((X ++ R).length : Int) := ⟨rfl, by omega, by rw [List.length_append]; omega⟩
  refine ⟨?_, ?_, ?_⟩
  · unfold tOut; rw [if_pos h, Int.toNat_natCast, List.take_left']; rfl
  · unfold tLeft; rw [if_pos h, Int.toNat_natCast, List.drop_left']; rfl
  · unfold tErr; rw [if_neg (by simp), if_neg (by omega), if_neg (by omega)]
theorem tErr_kept (L : List UInt8) (e n : Int) (h : e ≠ 0) : tErr L e n = e := by unfold tErr; rw [if_pos h]
theorem tErr_short (L : List UInt8) (n : Nat) (h : L.length < n) : tErr L 0 (n : Int) = 3 := by unfold tErr; rw [if_neg (by simp), if_neg (by omega), if_pos (by omega)]
/-- A part of n bytes, of a row that may have broken off. -/
theorem take_cut (L X R : List UInt8) (e : Int) (h : Cutoff L e (X ++ R)) : Cutoff (tLeft L e (X.length : Int)) (tErr L e (X.length : Int)) R := by
  rcases h with ⟨rfl, M, hM, hm⟩ | rfl
  · rcases short_of X L M R hm with ⟨h, -⟩ | ⟨R1, rfl, h⟩
    · exact Or.inr (tErr_short L _ h)
    · obtain ⟨-, h2, h3⟩ := tOut_all X R1
      rw [h2, h3]
      exact Or.inl ⟨rfl, M, hM, h⟩
  · exact Or.inr (tErr_kept _ _ _ (by decide))
/-- A number, of a row that may have broken off: what is told behind it is the number, or nought. -/
theorem num_cut (L R : List UInt8) (e most n : Int) (N : Nat) (hN : N < 4611686018427387904) (hm : (N : Int) ≤ most) (h : Cutoff L e (numBytes N ++ R)) (L1 : List UInt8) (e1 : Int) (hn : NumTo L e most n L1 e1) :
    Cutoff L1 e1 R ∧ (e1 = 0 → n = N) := by
  rcases h with ⟨rfl, M, hM, hmm⟩ | rfl
  · rcases short_of (numBytes N) L M R hmm with ⟨h, hp⟩ | ⟨R1, rfl, h⟩
    · obtain ⟨_, _, rfl⟩ := num_short N hN L h hp most n L1 e1 hn
      exact ⟨Or.inr rfl, fun h => absurd h (by decide)⟩
    · obtain ⟨rfl, rfl, rfl⟩ := num_back N hN R1 most n hm L1 e1 hn
      exact ⟨Or.inl ⟨rfl, M, hM, h⟩, fun _ => rfl⟩
  · rcases hn with ⟨_, _, _, rfl⟩ | ⟨h, _⟩ | ⟨h, _⟩
    · exact ⟨Or.inr rfl, fun h => absurd h (by decide)⟩
    · exact absurd h (by decide)
    · exact absurd h (by decide)
/-- A text, of a row that may have broken off. -/
theorem text_cut (L T R : List UInt8) (e n : Int) (hT : T.length ≤ 300) (h : Cutoff L e ((numBytes T.length ++ T) ++ R)) (L1 : List UInt8) (e1 : Int) (hn : NumTo L e 300 n L1 e1) : Cutoff (tLeft L1 e1 n) (tErr L1 e1 n) R := by
  rw [List.append_assoc] at h
  obtain ⟨h1, h2⟩ := num_cut L (T ++ R) e 300 n T.length (by omega) (by omega) h L1 e1 hn
  by_cases he : e1 = 0
  · rw [h2 he]
    exact take_cut L1 T R e1 h1
  · rcases h1 with ⟨h, _⟩ | rfl
    · exact absurd h he
    · exact Or.inr (tErr_kept _ _ _ (by decide))
theorem text_back (T R : List UInt8) (n : Int) (hT : T.length ≤ 300) (L1 : List UInt8) (e1 : Int) (hn : NumTo ((numBytes T.length ++ T) ++ R) 0 300 n L1 e1) : tOut L1 e1 n = T ∧ tLeft L1 e1 n = R ∧ tErr L1 e1 n = 0 := by
  rw [List.append_assoc] at hn
  obtain ⟨rfl, rfl, rfl⟩ := num_back T.length (by omega) (T ++ R) 300 n (by omega) L1 e1 hn
  exact tOut_all T R
/-- A flag. -/
theorem flag_back (b : Nat) (hb : b < 2) (R : List UInt8) (y : Bool) (e1 : Int) (h : FlagTo ([UInt8.ofNat b] ++ R) 0 y e1) : y = decide (b = 1) ∧ tLeft ([UInt8.ofNat b] ++ R) 0 1 = R ∧ e1 = 0 := by
  obtain ⟨h1, h2, h3⟩ := tOut_all [UInt8.ofNat b] R
  have h1 : tOut ([UInt8.ofNat b] ++ R) 0 1 = [UInt8.ofNat b] := h1
  have h2 : tLeft ([UInt8.ofNat b] ++ R) 0 1 = R := h2
  have h3 : tErr ([UInt8.ofNat b] ++ R) 0 1 = 0 := h3
  unfold FlagTo at h
  rw [h1, h3] at h
  have hx : (UInt8.ofNat b).toNat = b := by rw [UInt8.toNat_ofNat']; omega
  rcases h with ⟨h, _⟩ | ⟨x, hx2, ⟨h, _⟩ | ⟨_, rfl, rfl⟩⟩
  · cases h
  · injection hx2 with hx2 _
    rw [← hx2, hx] at h
    omega
  · injection hx2 with hx2 _
    rw [← hx2, hx]
    exact ⟨rfl, h2, rfl⟩
theorem flag_cut (L R : List UInt8) (e : Int) (b : Nat) (hb : b < 2) (h : Cutoff L e ([UInt8.ofNat b] ++ R)) (y : Bool) (e1 : Int) (hf : FlagTo L e y e1) : Cutoff (tLeft L e 1) e1 R := by
  rcases h with ⟨rfl, M, hM, hm⟩ | rfl
  · rcases short_of [UInt8.ofNat b] L M R hm with ⟨h, -⟩ | ⟨R1, rfl, h⟩
    · have hL : L = [] := by
        cases L with
        | nil => rfl
        | cons x L => simp at h
      subst hL
      rcases hf with ⟨_, _, rfl⟩ | ⟨x, hx, _⟩
      · exact Or.inr (tErr_short [] 1 (by simp))
      · cases hx
    · obtain ⟨_, h2, rfl⟩ := flag_back b hb R1 y e1 hf
      rw [h2]
      exact Or.inl ⟨rfl, M, hM, h⟩
  · rcases hf with ⟨_, _, rfl⟩ | ⟨x, hx, _⟩
    · exact Or.inr (tErr_kept _ _ _ (by decide))
    · unfold tOut at hx
      rw [if_neg (by simp)] at hx
      cases hx
/-- Where nothing more is to be read, and something is missing: it has broken off. -/
theorem cut_end (L : List UInt8) (e : Int) (h : Cutoff L e []) : e = 3 := by
  rcases h with ⟨_, M, hM, h⟩ | h
  · simp at h
    exact absurd h.2 hM
  · exact h
end Go.Proofs.Ytmdcdepoeolbhaa
