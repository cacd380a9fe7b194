/- Bytes as polynomials: what Of answers; plain mathematics. -/
import Derived.Test.YtaohbpmefcdipaaDoorCtOf
namespace Go.Proofs.YtaohbpmefcdipaaDoor.Ct
open Go.RowKit

/-- Bytes behind a number. -/
def bvF (s : Nat) (l : List UInt8) : Nat := l.foldl (fun s b => s * 2 ^ 8 ^^^ b.toNat) s
/-- Bytes as one polynomial. -/
def bv (l : List UInt8) : Nat := bvF 0 l
theorem bvF_eq (s : Nat) (l : List UInt8) : bvF s l = s * 2 ^ (8 * l.length) ^^^ bv l := by
  induction l generalizing s with
  | nil => simp [bvF, bv]
  | cons b l ih =>
    show bvF (s * 2 ^ 8 ^^^ b.toNat) l = _ ^^^ bvF (0 * 2 ^ 8 ^^^ b.toNat) l
    rw [ih, ih (0 * 2 ^ 8 ^^^ b.toNat), Nat.zero_mul, Nat.zero_xor, xor_mul_pow, Nat.mul_assoc, ← Nat.pow_add, List.length_cons, show 8 + 8 * l.length = 8 * (l.length + 1) by omega, Nat.xor_assoc]
theorem bv_cons (b : UInt8) (l : List UInt8) : bv (b :: l) = b.toNat * 2 ^ (8 * l.length) ^^^ bv l := by
  show bvF (0 * 2 ^ 8 ^^^ b.toNat) l = _
  rw [bvF_eq, Nat.zero_mul, Nat.zero_xor]
theorem bv_append (l r : List UInt8) : bv (l ++ r) = bv l * 2 ^ (8 * r.length) ^^^ bv r := by
  show bvF 0 (l ++ r) = _
  unfold bvF
  rw [List.foldl_append]
  exact bvF_eq _ _
theorem bv_snoc (l : List UInt8) (b : UInt8) : bv (l ++ [b]) = bv l * 2 ^ 8 ^^^ b.toNat := by
  rw [bv_append]
  show _ ^^^ bvF 0 [b] = _
  unfold bvF
  simp
theorem bv_zeros (n : Nat) : bv (List.replicate n 0) = 0 := by
  induction n with
  | zero => rfl
  | succ n ih => rw [List.replicate_succ, bv_cons, ih]; simp
theorem bv_xor (l r : List UInt8) (h : l.length = r.length) : bv (List.zipWith (· ^^^ ·) l r) = bv l ^^^ bv r := by
  induction l generalizing r with
  | nil =>
    have : r = [] := List.eq_nil_of_length_eq_zero (by simpa using h.symm)
    subst this
    rfl
  | cons a l ih =>
    cases r with
    | nil => simp at h
    | cons b r =>
      have h' : l.length = r.length := by simpa using h
      rw [List.zipWith_cons_cons, bv_cons, bv_cons, bv_cons, ih r h', List.length_zipWith, h', Nat.min_self, UInt8.toNat_xor, xor_mul_pow, Pm.xor_swap]
theorem pr_shift (x m k y : Nat) (hm : m ≠ 0) : Pm.pr (Pm.pr x m * 2 ^ k ^^^ y) m = Pm.pr (x * 2 ^ k ^^^ y) m := by
  rw [Pm.pr_add _ _ _ hm, Pm.pr_add _ _ _ hm, ← Pm.pm_pow, ← Pm.pm_pow, Pm.pr_pm_left _ _ _ hm]
theorem of_fold (m : W) (hm : 8 ≤ dgw m) (l : List UInt8) (s : W) (hs : s.toNat < 2 ^ m.toNat.log2) : (l.foldl (onW m) s).toNat = Pm.pr (bvF s.toNat l) m.toNat := by
  have hm' := ne_toNat (ne_of_deg hm)
  induction l generalizing s with
  | nil => exact (Pm.pr_less _ _ hm' (Pm.less_of_lt hs)).symm
  | cons b l ih =>
    have e := onW_toNat m s b hm hs
    rw [List.foldl_cons, ih _ (by rw [e]; exact Pm.pr_lt _ _ hm'), e, bvF_eq, pr_shift _ _ _ _ hm', ← bvF_eq]
    rfl
/-- Of tells the rest of the bytes' polynomial. -/
theorem of_val (m : W) (hm : 8 ≤ dgw m) (l : List UInt8) : (ofW m l).toNat = Pm.pr (bv l) m.toNat := by
  have := of_fold m hm l 0 (Nat.two_pow_pos _)
  exact this
theorem of_lt (m : W) (hm : 8 ≤ dgw m) (l : List UInt8) : (ofW m l).toNat < 2 ^ m.toNat.log2 := by
  rw [of_val m hm]; exact Pm.pr_lt _ _ (ne_toNat (ne_of_deg hm))
theorem of_eq (m : W) (hm : 8 ≤ dgw m) {l r : List UInt8} (h : bv l = bv r) : ofW m l = ofW m r := by
  apply BitVec.eq_of_toNat_eq
  rw [of_val m hm, of_val m hm, h]
theorem of_zeros (m : W) (hm : 8 ≤ dgw m) (n : Nat) (l : List UInt8) : ofW m (List.replicate n 0 ++ l) = ofW m l :=
  of_eq m hm (by rw [bv_append, bv_zeros, Nat.zero_mul, Nat.zero_xor])
theorem of_xor (m : W) (hm : 8 ≤ dgw m) (l r : List UInt8) (h : l.length = r.length) : ofW m (List.zipWith (· ^^^ ·) l r) = ofW m l ^^^ ofW m r := by
  apply BitVec.eq_of_toNat_eq
  rw [BitVec.toNat_xor, of_val m hm, of_val m hm, of_val m hm, bv_xor _ _ h, Pm.pr_add _ _ _ (ne_toNat (ne_of_deg hm))]
/-- One row behind the other. -/
theorem of_join (m : W) (hm : 8 ≤ dgw m) (l r : List UInt8) : ofW m (l ++ r) = wM (ofW m l) (ofW m (1 :: List.replicate r.length 0)) m ^^^ ofW m r := by
  have hm0 := ne_of_deg hm
  have hm' := ne_toNat hm0
  apply BitVec.eq_of_toNat_eq
  rw [BitVec.toNat_xor, wM_toNat _ _ _ hm0, of_val m hm, of_val m hm, of_val m hm, of_val m hm, bv_append, bv_cons, bv_zeros, List.length_replicate, Nat.xor_zero, Pm.pr_add _ _ _ hm', Pm.pr_pm_left _ _ _ hm', Pm.pr_pm_right _ _ _ hm']
  show _ = Pm.pr (Pm.pm (bv l) (1 * 2 ^ (8 * r.length))) _ ^^^ _
  rw [Nat.one_mul, Pm.pm_pow]

/- The document's way, bit by bit. -/
def bitW (b : UInt8) (k : Nat) : W := if b.toNat.testBit k then 1#64 else 0#64
theorem U_bitW (b : UInt8) (k : Nat) : V b / 2 ^ k % 2 = U (bitW b k) := by
  unfold V bitW
  have e : ((b.toNat : Int) / 2 ^ k) = ((b.toNat / 2 ^ k : Nat) : Int) := by rw [Int.natCast_ediv, Int.natCast_pow]; rfl
  rw [e, Nat.testBit_eq_decide_div_mod_eq]
  rcases Nat.mod_two_eq_zero_or_one (b.toNat / 2 ^ k) with h | h
  · rw [h]
    show ((b.toNat / 2 ^ k : Nat) : Int) % 2 = U (if decide (0 = 1) = true then 1#64 else 0#64)
    rw [if_neg (by decide)]
    show _ = (0 : Int)
    omega
  · rw [h]
    show ((b.toNat / 2 ^ k : Nat) : Int) % 2 = U (if decide (1 = 1) = true then 1#64 else 0#64)
    rw [if_pos (by decide)]
    show _ = (1 : Int)
    omega
theorem bitW_toNat (b : UInt8) (k : Nat) : (bitW b k).toNat = if b.toNat / 2 ^ k % 2 = 1 then 1 else 0 := by
  unfold bitW
  rw [Nat.testBit_eq_decide_div_mod_eq]
  by_cases h : b.toNat / 2 ^ k % 2 = 1 <;> simp [h]
/-- A bit more. -/
def bitOn (m s : W) (b : UInt8) (k : Nat) : W := if s.toNat.testBit (m.toNat.log2 - 1) then ((s <<< 1) ^^^ bitW b k) ^^^ m else (s <<< 1) ^^^ bitW b k
theorem bitOn_toNat (m s : W) (b : UInt8) (k : Nat) (hm : 8 ≤ dgw m) (hs : s.toNat < 2 ^ m.toNat.log2) : (bitOn m s b k).toNat = Pm.pr (2 * s.toNat ^^^ (if b.toNat / 2 ^ k % 2 = 1 then 1 else 0)) m.toNat := by
  have hm0 := ne_of_deg hm
  have hm' := ne_toNat hm0
  have hd := dgw_log hm0
  obtain ⟨n, hn⟩ : ∃ n, m.toNat.log2 = n + 1 := ⟨m.toNat.log2 - 1, by omega⟩
  have e1 := shl1_toNat hm0 hs
  have e2 := bitW_toNat b k
  have hbit : (if b.toNat / 2 ^ k % 2 = 1 then 1 else 0) < 2 ^ (n + 1) := by
    have : 2 ≤ 2 ^ (n + 1) := by rw [Nat.pow_succ]; have := Nat.two_pow_pos n; omega
    split <;> omega
  unfold bitOn
  rw [hn] at hs ⊢
  rw [Nat.add_sub_cancel]
  cases hb : s.toNat.testBit n with
  | true =>
    have h1 : Pm.Has s.toNat n := ⟨Nat.ge_two_pow_of_testBit hb, hs⟩
    have h2 : Pm.Has (2 * s.toNat) (n + 1) := ⟨by rw [Nat.pow_succ]; have := h1.1; omega, by rw [Nat.pow_succ]; have := h1.2; omega⟩
    have h3 : Pm.Has (2 * s.toNat ^^^ (if b.toNat / 2 ^ k % 2 = 1 then 1 else 0)) (n + 1) := by
      rw [Nat.xor_comm]; exact Pm.xor_top hbit h2
    have h4 : Pm.Has m.toNat (n + 1) := by have := Pm.has_of_ne hm'; rwa [hn] at this
    have h5 := Pm.xor_same h3 h4
    rw [if_pos rfl, BitVec.toNat_xor, BitVec.toNat_xor, e1, e2]
    have hz : Pm.pr m.toNat m.toNat = 0 := by
      have := Pm.pr_mul 1 m.toNat hm'
      rwa [Pm.pm_one] at this
    have h6 := Pm.pr_less _ _ hm' (Pm.less_of_lt (by rw [hn]; exact h5))
    rw [Pm.pr_add _ _ _ hm', hz, Nat.xor_zero] at h6
    exact h6.symm
  | false =>
    have h1 : s.toNat < 2 ^ n := by
      apply Nat.lt_pow_two_of_testBit
      intro i hi
      by_cases e : i = n
      · subst e; exact hb
      · exact Nat.testBit_lt_two_pow (Nat.lt_of_lt_of_le hs (Nat.pow_le_pow_right (by decide) (by omega)))
    have h2 : 2 * s.toNat < 2 ^ (n + 1) := by rw [Nat.pow_succ]; omega
    rw [if_neg (by decide), BitVec.toNat_xor, e1, e2]
    exact (Pm.pr_less _ _ hm' (Pm.less_of_lt (by rw [hn]; exact Nat.xor_lt_two_pow h2 hbit))).symm
/-- Where the document stands within a byte. -/
def Within (m : W) (S : Nat) (b : UInt8) (k : Nat) (s : W) : Prop := s.toNat = Pm.pr (S * 2 ^ (8 - k) ^^^ b.toNat / 2 ^ k) m.toNat
theorem Within.next {m : W} {S : Nat} {b : UInt8} {k : Nat} {s : W} (hm : 8 ≤ dgw m) (hk : k < 8) (h : Within m S b (k + 1) s) : Within m S b k (bitOn m s b k) := by
  have hm' := ne_toNat (ne_of_deg hm)
  unfold Within at h ⊢
  rw [bitOn_toNat m s b k hm (by rw [h]; exact Pm.pr_lt _ _ hm'), h]
  have e1 : ∀ X, 2 * X = X * 2 ^ 1 := fun X => by omega
  rw [e1, pr_shift _ _ _ _ hm', xor_mul_pow, Nat.mul_assoc, ← Nat.pow_add, show 8 - (k + 1) + 1 = 8 - k by omega, Nat.xor_assoc]
  congr 2
  conv => rhs; rw [bit_half b.toNat k]
  rw [Nat.xor_comm, e1]
theorem Within.start {m s : W} {S : Nat} {b : UInt8} (hm : 8 ≤ dgw m) (h : s.toNat = Pm.pr S m.toNat) : Within m S b 8 s := by
  unfold Within
  rw [h, show 8 - 8 = 0 from rfl, Nat.pow_zero, Nat.mul_one, Nat.div_eq_of_lt b.toNat_lt, Nat.xor_zero]
theorem Within.done {m s : W} {l : List UInt8} {b : UInt8} (hm : 8 ≤ dgw m) (h : Within m (bv l) b 0 s) : s = ofW m (l ++ [b]) := by
  apply BitVec.eq_of_toNat_eq
  rw [of_val m hm, bv_snoc, h, Nat.pow_zero, Nat.div_one]
end Go.Proofs.YtaohbpmefcdipaaDoor.Ct
