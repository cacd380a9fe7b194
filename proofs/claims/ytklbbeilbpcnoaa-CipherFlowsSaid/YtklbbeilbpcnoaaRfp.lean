/- The document's AES-256 in plain functions: products by adding up, the inverse by trying, columns of bytes; and that these are the words' ones. -/
import Derived.Test.YtklbbeilbpcnoaaByt
namespace Go.Proofs.Ytklbbeilbpcnoaa.Aes
open Go Sha

def s1 (a b k p : Nat) : Nat := Nat.xor p (Nat.mul (Nat.land (Nat.shiftRight b k) 1) (Nat.shiftLeft a k))
def s2 (i c q : Nat) : Nat := Nat.xor q (Nat.mul (Nat.land (Nat.shiftRight q i) 1) c)
def tA (a b : Nat) : Nat → Nat
  | 0 => 0
  | k + 1 => s1 a b k (tA a b k)
def tB (p : Nat) : Nat → Nat
  | 0 => p
  | k + 1 => s2 (14 - k) (Nat.shiftLeft 0x11B (6 - k)) (tB p k)
/-- The product of two bytes of the field. -/
def tm (a b : Nat) : Nat := tB (tA a b 8) 7
def tmF (a b : Nat) : Nat := s2 8 0x11B (s2 9 566 (s2 10 1132 (s2 11 2264 (s2 12 4528 (s2 13 9056 (s2 14 18112 (s1 a b 7 (s1 a b 6 (s1 a b 5 (s1 a b 4 (s1 a b 3 (s1 a b 2 (s1 a b 1 (s1 a b 0 0))))))))))))))
theorem tm_fast (a b : Nat) : tm a b = tmF a b := rfl
/-- The inverses. -/
def invL : List Nat := [0, 1, 141, 246, 203, 82, 123, 209, 232, 79, 41, 192, 176, 225, 229, 199, 116, 180, 170, 75, 153, 43, 96, 95, 88, 63, 253, 204, 255, 64, 238, 178, 58, 110, 90, 241, 85, 77, 168, 201, 193, 10, 152, 21, 48, 68, 162, 194, 44, 69, 146, 108, 243, 57, 102, 66, 242, 53, 32, 111, 119, 187, 89, 25, 29, 254, 55, 103, 45, 49, 245, 105, 167, 100, 171, 19, 84, 37, 233, 9, 237, 92, 5, 202, 76, 36, 135, 191, 24, 62, 34, 240, 81, 236, 97, 23, 22, 94, 175, 211, 73, 166, 54, 67, 244, 71, 145, 223, 51, 147, 33, 59, 121, 183, 151, 133, 16, 181, 186, 60, 182, 112, 208, 6, 161, 250, 129, 130, 131, 126, 127, 128, 150, 115, 190, 86, 155, 158, 149, 217, 247, 2, 185, 164, 222, 106, 50, 109, 216, 138, 132, 114, 42, 20, 159, 136, 249, 220, 137, 154, 251, 124, 46, 195, 143, 184, 101, 72, 38, 200, 18, 74, 206, 231, 210, 98, 12, 224, 31, 239, 17, 117, 120, 113, 165, 142, 118, 61, 189, 188, 134, 87, 11, 40, 47, 163, 218, 212, 228, 15, 169, 39, 83, 4, 27, 252, 172, 230, 122, 7, 174, 99, 197, 219, 226, 234, 148, 139, 196, 213, 157, 248, 144, 107, 177, 13, 214, 235, 198, 14, 207, 173, 8, 78, 215, 227, 93, 80, 30, 179, 91, 35, 56, 52, 104, 70, 3, 140, 221, 156, 125, 160, 205, 26, 65, 28]
def noneBelow (x : Nat) : Nat → Bool
  | 0 => true
  | y + 1 => noneBelow x y && !(Nat.beq (tmF x y) 1)
theorem noneBelow_at (x : Nat) : ∀ n y, noneBelow x n = true → y < n → tm x y ≠ 1
  | 0, y, _, h => absurd h (Nat.not_lt_zero y)
  | n + 1, y, h, hy => by
    rw [noneBelow, Bool.and_eq_true] at h
    rcases Nat.lt_succ_iff_lt_or_eq.1 hy with h1 | h1
    · exact noneBelow_at x n y h.1 h1
    · subst h1
      rw [tm_fast]
      intro e
      rw [e] at h
      exact absurd h.2 (by decide)
set_option maxRecDepth 100000 in
theorem inv_chk : (List.range 256).all (fun x => Nat.beq x 0 || (noneBelow x (invL.getD x 0) && (Nat.beq (tmF x (invL.getD x 0)) 1 && (Nat.ble 1 (invL.getD x 0) && Nat.ble (invL.getD x 0) 255)))) = true := by decide +kernel
def inv (x : Nat) : Nat := invL.getD x 0
theorem inv_facts (x : Nat) (hx : x < 256) (h0 : 0 < x) : (∀ y, y < inv x → tm x y ≠ 1) ∧ tm x (inv x) = 1 ∧ 1 ≤ inv x ∧ inv x < 256 := by
  have h := List.all_eq_true.1 inv_chk x (List.mem_range.2 hx)
  have h1 : Nat.beq x 0 = false := by cases x with | zero => omega | succ n => rfl
  rw [h1, Bool.false_or, Bool.and_eq_true, Bool.and_eq_true, Bool.and_eq_true] at h
  obtain ⟨a, b, c, d⟩ := h
  exact ⟨fun y hy => noneBelow_at x _ y a hy, Nat.eq_of_beq_eq_true b, Nat.le_of_ble_eq_true c, Nat.lt_succ_of_le (Nat.le_of_ble_eq_true d)⟩
theorem inv_zero : inv 0 = 0 := rfl
/-- The bits, mixed. -/
def bit (v i : Nat) : Nat := (((((v >>> i) ^^^ (v >>> ((i + 4) % 8))) ^^^ (v >>> ((i + 5) % 8))) ^^^ (v >>> ((i + 6) % 8))) ^^^ (v >>> ((i + 7) % 8))) ^^^ (0x63 >>> i)
def bx (v : Nat) : Nat → Nat
  | 0 => 0
  | i + 1 => bx v i + (bit v i % 2) <<< i
set_option maxRecDepth 100000 in
theorem bx_chk : (List.range 256).all (fun x => Nat.beq (bx (inv x) 8) (sbox.getD x 0).toNat) = true := by decide +kernel
theorem bx_box (x : Nat) (hx : x < 256) : bx (inv x) 8 = (sbox.getD x 0).toNat := Nat.eq_of_beq_eq_true (List.all_eq_true.1 bx_chk x (List.mem_range.2 hx))
def xt (x : UInt8) : UInt8 := (x <<< 1) ^^^ (if x.toBitVec.getLsbD 7 then 0x1b else 0)
theorem byteOf_bv (x : W) (n : Nat) : (byteOf x n).toBitVec = (x >>> n).setWidth 8 := by
  unfold byteOf
  apply BitVec.eq_of_toNat_eq
  simp
theorem byteOf_bit (x : W) (n i : Nat) (h : i < 8) : (byteOf x n).toBitVec.getLsbD i = x.getLsbD (n + i) := by
  rw [byteOf_bv]; simp [h]
theorem u8_ext {x y : UInt8} (h : ∀ i, i < 8 → x.toBitVec.getLsbD i = y.toBitVec.getLsbD i) : x = y := by
  apply UInt8.toBitVec_inj.1
  exact BitVec.eq_of_getLsbD_eq fun i hi => h i hi
theorem ofB_bit (a : UInt8) (i : Nat) : (BitVec.ofNat 32 a.toNat).getLsbD i = a.toBitVec.getLsbD i := by
  have : BitVec.ofNat 32 a.toNat = a.toBitVec.setWidth 32 := by
    apply BitVec.eq_of_toNat_eq; simp
  rw [this]
  by_cases h : i < 32
  · simp [h]
  · simp only [BitVec.getLsbD_setWidth, h, decide_false, Bool.false_and]
    exact (BitVec.getLsbD_of_ge _ _ (by omega)).symm
theorem u8_high (a : UInt8) (i : Nat) (h : 8 ≤ i) : a.toBitVec.getLsbD i = false := BitVec.getLsbD_of_ge _ _ h
theorem word_bit (a b c d : UInt8) (i : Nat) (h : i < 32) : (word a b c d).getLsbD i = if 24 ≤ i then a.toBitVec.getLsbD (i - 24) else if 16 ≤ i then b.toBitVec.getLsbD (i - 16) else if 8 ≤ i then c.toBitVec.getLsbD (i - 8) else d.toBitVec.getLsbD i := by
  unfold word
  simp only [BitVec.getLsbD_or, BitVec.getLsbD_shiftLeft, ofB_bit, h, decide_true, Bool.true_and]
  by_cases h1 : 24 ≤ i
  · rw [if_pos h1, u8_high b (i - 16) (by omega), u8_high c (i - 8) (by omega), u8_high d i (by omega)]
    simp [show ¬ i < 24 by omega]
  · by_cases h2 : 16 ≤ i
    · rw [if_neg h1, if_pos h2, u8_high c (i - 8) (by omega), u8_high d i (by omega)]
      simp [show i < 24 by omega, show ¬ i < 16 by omega]
    · by_cases h3 : 8 ≤ i
      · rw [if_neg h1, if_neg h2, if_pos h3, u8_high d i (by omega)]
        simp [show i < 24 by omega, show i < 16 by omega, show ¬ i < 8 by omega]
      · rw [if_neg h1, if_neg h2, if_neg h3]
        simp [show i < 24 by omega, show i < 16 by omega, show i < 8 by omega]
theorem byteOf_word24 (a b c d : UInt8) : byteOf (word a b c d) 24 = a := u8_ext fun i hi => by
  rw [byteOf_bit _ _ _ hi, word_bit _ _ _ _ _ (by omega), if_pos (by omega)]; congr 1; omega
theorem byteOf_word16 (a b c d : UInt8) : byteOf (word a b c d) 16 = b := u8_ext fun i hi => by
  rw [byteOf_bit _ _ _ hi, word_bit _ _ _ _ _ (by omega), if_neg (by omega), if_pos (by omega)]; congr 1; omega
theorem byteOf_word8 (a b c d : UInt8) : byteOf (word a b c d) 8 = c := u8_ext fun i hi => by
  rw [byteOf_bit _ _ _ hi, word_bit _ _ _ _ _ (by omega), if_neg (by omega), if_neg (by omega), if_pos (by omega)]; congr 1; omega
theorem byteOf_word0 (a b c d : UInt8) : byteOf (word a b c d) 0 = d := u8_ext fun i hi => by
  rw [byteOf_bit _ _ _ hi, word_bit _ _ _ _ _ (by omega), if_neg (by omega), if_neg (by omega), if_neg (by omega)]; congr 1; omega
theorem byteOf_xor (x y : W) (n : Nat) : byteOf (x ^^^ y) n = byteOf x n ^^^ byteOf y n := u8_ext fun i hi => by
  rw [byteOf_bit _ _ _ hi, UInt8.toBitVec_xor, BitVec.getLsbD_xor, BitVec.getLsbD_xor, byteOf_bit _ _ _ hi, byteOf_bit _ _ _ hi]
theorem rol_bit (x : W) (n i : Nat) (hn : n ≤ 32) (h : i < 32) : (rol x n).getLsbD i = if i < n then x.getLsbD (32 - n + i) else x.getLsbD (i - n) := by
  unfold rol
  simp only [BitVec.getLsbD_or, BitVec.getLsbD_shiftLeft, BitVec.getLsbD_ushiftRight, h, decide_true, Bool.true_and]
  by_cases h1 : i < n
  · simp [h1]
  · rw [if_neg h1, BitVec.getLsbD_of_ge x (32 - n + i) (by omega)]; simp [h1]
theorem byteOf_rol (x : W) (n m k : Nat) (hn : n ≤ 32) (hk : k + 8 ≤ 32) (hm : if k + 8 ≤ n then m = 32 - n + k else n ≤ k ∧ m = k - n) : byteOf (rol x n) k = byteOf x m := u8_ext fun i hi => by
  rw [byteOf_bit _ _ _ hi, byteOf_bit _ _ _ hi, rol_bit _ _ _ hn (by omega)]
  split at hm
  · rw [if_pos (by omega)]; congr 1; omega
  · rw [if_neg (by omega)]; congr 1; omega
def tops (a b c d : Bool) : W := (if a then 0x01000000 else 0) ||| (if b then 0x00010000 else 0) ||| (if c then 0x00000100 else 0) ||| (if d then 1 else 0)
def twos (a b c d : Bool) : W := (if a then 0x1b000000 else 0) ||| (if b then 0x001b0000 else 0) ||| (if c then 0x00001b00 else 0) ||| (if d then 0x1b else 0)
theorem tops_mul (a b c d : Bool) : tops a b c d * 0x1b = twos a b c d := by cases a <;> cases b <;> cases c <;> cases d <;> decide
theorem twos_word (a b c d : Bool) : twos a b c d = word (if a then 0x1b else 0) (if b then 0x1b else 0) (if c then 0x1b else 0) (if d then 0x1b else 0) := by cases a <;> cases b <;> cases c <;> cases d <;> decide
theorem tops_word (a b c d : Bool) : tops a b c d = word (if a then 1 else 0) (if b then 1 else 0) (if c then 1 else 0) (if d then 1 else 0) := by cases a <;> cases b <;> cases c <;> cases d <;> decide
theorem tops_of (w : W) : (w >>> 7) &&& 0x01010101 = tops (w.getLsbD 31) (w.getLsbD 23) (w.getLsbD 15) (w.getLsbD 7) := by
  have e : ∀ i, i < 8 → ∀ c : Bool, (if c then (1 : UInt8) else 0).toBitVec.getLsbD i = (c && decide (i = 0)) := by
    intro i hi c
    cases c
    · simp
    · match i, hi with
      | 0, _ => decide
      | 1, _ => decide
      | 2, _ => decide
      | 3, _ => decide
      | 4, _ => decide
      | 5, _ => decide
      | 6, _ => decide
      | 7, _ => decide
  have m : ∀ i : Fin 32, (0x01010101 : W).getLsbD i = decide (i.val % 8 = 0) := by decide
  apply BitVec.eq_of_getLsbD_eq
  intro i hi
  rw [tops_word, word_bit _ _ _ _ _ hi, BitVec.getLsbD_and, BitVec.getLsbD_ushiftRight, m ⟨i, hi⟩]
  by_cases h1 : 24 ≤ i
  · rw [if_pos h1, e _ (by omega)]
    by_cases h : i = 24
    · subst h; simp
    · simp [show ¬ i % 8 = 0 by omega, show ¬ i - 24 = 0 by omega]
  · by_cases h2 : 16 ≤ i
    · rw [if_neg h1, if_pos h2, e _ (by omega)]
      by_cases h : i = 16
      · subst h; simp
      · simp [show ¬ i % 8 = 0 by omega, show ¬ i - 16 = 0 by omega]
    · by_cases h3 : 8 ≤ i
      · rw [if_neg h1, if_neg h2, if_pos h3, e _ (by omega)]
        by_cases h : i = 8
        · subst h; simp
        · simp [show ¬ i % 8 = 0 by omega, show ¬ i - 8 = 0 by omega]
      · rw [if_neg h1, if_neg h2, if_neg h3, e _ (by omega)]
        by_cases h : i = 0
        · subst h; simp
        · simp [show ¬ i % 8 = 0 by omega, h]
theorem low7 (w : W) (k : Nat) (hk : k = 0 ∨ k = 8 ∨ k = 16 ∨ k = 24) : byteOf ((w &&& 0x7f7f7f7f) <<< 1) k = byteOf w k <<< 1 := u8_ext fun i hi => by
  have m : ∀ i : Fin 32, (0x7f7f7f7f : W).getLsbD i = decide (i.val % 8 ≠ 7) := by decide
  rw [byteOf_bit _ _ _ hi, BitVec.getLsbD_shiftLeft, BitVec.getLsbD_and]
  have h1 : (byteOf w k <<< (1 : UInt8)).toBitVec = (byteOf w k).toBitVec <<< 1 := by rw [UInt8.toBitVec_shiftLeft]; rfl
  rw [h1, BitVec.getLsbD_shiftLeft]
  by_cases h0 : i = 0
  · subst h0
    by_cases hk0 : k = 0
    · subst hk0; simp
    · have mm := m ⟨k + 0 - 1, by omega⟩
      simp only at mm
      rw [mm]
      simp [show (k - 1) % 8 = 7 by omega]
  · have mm := m ⟨k + i - 1, by omega⟩
    simp only at mm
    rw [mm, byteOf_bit _ _ _ (by omega)]
    simp [show k + i < 32 by omega, hi, h0, show k + i - 1 = k + (i - 1) by omega, show ¬ k + i < 1 by omega]
    omega
theorem byteOf_twice24 (w : W) : byteOf (twice w) 24 = xt (byteOf w 24) := by
  unfold twice xt
  rw [byteOf_xor, low7 w 24 (by omega), tops_of, tops_mul, twos_word, byteOf_word24, byteOf_bit _ _ _ (by decide)]
theorem byteOf_twice16 (w : W) : byteOf (twice w) 16 = xt (byteOf w 16) := by
  unfold twice xt
  rw [byteOf_xor, low7 w 16 (by omega), tops_of, tops_mul, twos_word, byteOf_word16, byteOf_bit _ _ _ (by decide)]
theorem byteOf_twice8 (w : W) : byteOf (twice w) 8 = xt (byteOf w 8) := by
  unfold twice xt
  rw [byteOf_xor, low7 w 8 (by omega), tops_of, tops_mul, twos_word, byteOf_word8, byteOf_bit _ _ _ (by decide)]
theorem byteOf_twice0 (w : W) : byteOf (twice w) 0 = xt (byteOf w 0) := by
  unfold twice xt
  rw [byteOf_xor, low7 w 0 (by omega), tops_of, tops_mul, twos_word, byteOf_word0, byteOf_bit _ _ _ (by decide)]
def mx (a b c d : UInt8) : UInt8 := ((xt a ^^^ (xt b ^^^ b)) ^^^ c) ^^^ d
theorem byteOf_mix24 (w : W) : byteOf (mix w) 24 = mx (byteOf w 24) (byteOf w 16) (byteOf w 8) (byteOf w 0) := by
  unfold mix mx
  rw [byteOf_xor, byteOf_xor, byteOf_xor, byteOf_rol _ 8 16 24 (by decide) (by decide) (by decide), byteOf_rol _ 16 8 24 (by decide) (by decide) (by decide), byteOf_rol _ 24 0 24 (by decide) (by decide) (by decide), byteOf_xor, byteOf_twice24, byteOf_twice16]
theorem byteOf_mix16 (w : W) : byteOf (mix w) 16 = mx (byteOf w 16) (byteOf w 8) (byteOf w 0) (byteOf w 24) := by
  unfold mix mx
  rw [byteOf_xor, byteOf_xor, byteOf_xor, byteOf_rol _ 8 8 16 (by decide) (by decide) (by decide), byteOf_rol _ 16 0 16 (by decide) (by decide) (by decide), byteOf_rol _ 24 24 16 (by decide) (by decide) (by decide), byteOf_xor, byteOf_twice16, byteOf_twice8]
theorem byteOf_mix8 (w : W) : byteOf (mix w) 8 = mx (byteOf w 8) (byteOf w 0) (byteOf w 24) (byteOf w 16) := by
  unfold mix mx
  rw [byteOf_xor, byteOf_xor, byteOf_xor, byteOf_rol _ 8 0 8 (by decide) (by decide) (by decide), byteOf_rol _ 16 24 8 (by decide) (by decide) (by decide), byteOf_rol _ 24 16 8 (by decide) (by decide) (by decide), byteOf_xor, byteOf_twice8, byteOf_twice0]
theorem byteOf_mix0 (w : W) : byteOf (mix w) 0 = mx (byteOf w 0) (byteOf w 24) (byteOf w 16) (byteOf w 8) := by
  unfold mix mx
  rw [byteOf_xor, byteOf_xor, byteOf_xor, byteOf_rol _ 8 24 0 (by decide) (by decide) (by decide), byteOf_rol _ 16 16 0 (by decide) (by decide) (by decide), byteOf_rol _ 24 8 0 (by decide) (by decide) (by decide), byteOf_xor, byteOf_twice0, byteOf_twice24]

set_option maxRecDepth 100000 in
theorem tm2_chk : (List.range 256).all (fun x => Nat.beq (tmF x 2) (xt (UInt8.ofNat x)).toNat && Nat.beq (tmF x 3) (xt (UInt8.ofNat x) ^^^ UInt8.ofNat x).toNat) = true := by decide +kernel
theorem tm_two (x : UInt8) : tm x.toNat 2 = (xt x).toNat := by
  have h := List.all_eq_true.1 tm2_chk x.toNat (List.mem_range.2 x.toNat_lt)
  rw [Bool.and_eq_true, UInt8.ofNat_toNat] at h
  exact Nat.eq_of_beq_eq_true h.1
theorem tm_three (x : UInt8) : tm x.toNat 3 = (xt x ^^^ x).toNat := by
  have h := List.all_eq_true.1 tm2_chk x.toNat (List.mem_range.2 x.toNat_lt)
  rw [Bool.and_eq_true, UInt8.ofNat_toNat] at h
  exact Nat.eq_of_beq_eq_true h.2
theorem tm_con (k : Nat) (hk : k < 7) : tm (2 ^ k) 2 = 2 ^ (k + 1) := by
  have : (List.range 7).all (fun k => Nat.beq (tmF (2 ^ k) 2) (2 ^ (k + 1))) = true := by decide +kernel
  exact Nat.eq_of_beq_eq_true (List.all_eq_true.1 this k (List.mem_range.2 hk))

/-- Four words as sixteen bytes. -/
def st4 (s : St) : List UInt8 := bytes4 s.p ++ (bytes4 s.q ++ (bytes4 s.r ++ bytes4 s.t))
def lane (w : W) (j : Nat) : UInt8 := byteOf w (24 - 8 * j)
def shiftR (s : List UInt8) : List UInt8 := (List.range 16).map fun i => sub (s.getD (4 * ((i / 4 + i % 4) % 4) + i % 4) 0)
def mixR (u : List UInt8) : List UInt8 := (List.range 16).map fun i => mx (u.getD i 0) (u.getD (4 * (i / 4) + (i % 4 + 1) % 4) 0) (u.getD (4 * (i / 4) + (i % 4 + 2) % 4) 0) (u.getD (4 * (i / 4) + (i % 4 + 3) % 4) 0)
def addR (ws : List W) (n : Nat) (t : List UInt8) : List UInt8 := (List.range 16).map fun i => t.getD i 0 ^^^ lane (ws.getD (4 * n + i / 4) 0) (i % 4)
def roundR (ws : List W) (n : Nat) (s : List UInt8) : List UInt8 := addR ws n (if n < 14 then mixR (shiftR s) else shiftR s)
def roundsR (ws : List W) : Nat → List UInt8 → List UInt8
  | 0, s => s
  | n + 1, s => roundR ws (n + 1) (roundsR ws n s)
def turnR (ws : List W) (b : List UInt8) : List UInt8 := roundsR ws 14 (addR ws 0 b)
theorem addR_st (ws : List W) (n : Nat) (s : St) : addR ws n (st4 s) = st4 ⟨s.p ^^^ ws.getD (4 * n) 0, s.q ^^^ ws.getD (4 * n + 1) 0, s.r ^^^ ws.getD (4 * n + 2) 0, s.t ^^^ ws.getD (4 * n + 3) 0⟩ := by
  unfold st4 bytes4
  simp only [byteOf_xor]
  rfl
theorem bytes4_pick (a b c d : W) : bytes4 (pick a b c d) = [sub (byteOf a 24), sub (byteOf b 16), sub (byteOf c 8), sub (byteOf d 0)] := by
  unfold bytes4 pick
  rw [byteOf_word24, byteOf_word16, byteOf_word8, byteOf_word0]
theorem shiftR_st (s : St) : shiftR (st4 s) = st4 ⟨pick s.p s.q s.r s.t, pick s.q s.r s.t s.p, pick s.r s.t s.p s.q, pick s.t s.p s.q s.r⟩ := by
  unfold st4
  simp only [bytes4_pick]
  rfl
theorem bytes4_mix (w : W) : bytes4 (mix w) = [mx (byteOf w 24) (byteOf w 16) (byteOf w 8) (byteOf w 0), mx (byteOf w 16) (byteOf w 8) (byteOf w 0) (byteOf w 24), mx (byteOf w 8) (byteOf w 0) (byteOf w 24) (byteOf w 16), mx (byteOf w 0) (byteOf w 24) (byteOf w 16) (byteOf w 8)] := by
  unfold bytes4
  rw [byteOf_mix24, byteOf_mix16, byteOf_mix8, byteOf_mix0]
theorem mixR_st (s : St) : mixR (st4 s) = st4 ⟨mix s.p, mix s.q, mix s.r, mix s.t⟩ := by
  unfold st4
  simp only [bytes4_mix]
  rfl
theorem roundR_st (ws : List W) (n : Nat) (h : n < 14) (s : St) : roundR ws n (st4 s) = st4 (round ws (4 * n) s) := by
  unfold roundR
  rw [if_pos h, shiftR_st, mixR_st, addR_st]
  rfl
theorem roundR_last (ws : List W) (s : St) : roundR ws 14 (st4 s) = st4 (last ws s) := by
  unfold roundR
  rw [if_neg (by decide), shiftR_st, addR_st]
  rfl
theorem roundsR_st (ws : List W) (s : St) : ∀ n, n < 14 → roundsR ws n (st4 s) = st4 (rounds ws n s)
  | 0, _ => rfl
  | n + 1, h => by rw [roundsR, roundsR_st ws s n (by omega), roundR_st _ _ h, rounds]
theorem st4_word (b : List UInt8) (h : b.length = 16) : st4 ⟨wordAt b 0, wordAt b 1, wordAt b 2, wordAt b 3⟩ = b := by
  unfold st4 bytes4 wordAt
  simp only [byteOf_word24, byteOf_word16, byteOf_word8, byteOf_word0]
  match b, h with
  | [_, _, _, _, _, _, _, _, _, _, _, _, _, _, _, _], _ => rfl
theorem turnR_eq (ws : List W) (b : List UInt8) (h : b.length = 16) : turnR ws b = turn ws b := by
  have e : addR ws 0 b = st4 (start ws b) := by
    have := addR_st ws 0 ⟨wordAt b 0, wordAt b 1, wordAt b 2, wordAt b 3⟩
    rw [st4_word b h] at this
    exact this
  unfold turnR
  rw [e]
  show roundR ws 14 (roundsR ws 13 (st4 (start ws b))) = _
  rw [roundsR_st ws _ 13 (by decide), roundR_last]
  rfl
theorem addR_len (ws : List W) (n : Nat) (t : List UInt8) : (addR ws n t).length = 16 := by simp [addR]
theorem roundsR_len (ws : List W) (b : List UInt8) (n : Nat) : (roundsR ws n (addR ws 0 b)).length = 16 := by
  cases n with
  | zero => exact addR_len ..
  | succ n => exact addR_len ..
/-- A word's bytes: of the next word. -/
theorem lane_xor (x y : W) (j : Nat) : lane (x ^^^ y) j = lane x j ^^^ lane y j := byteOf_xor x y _
theorem lane_wordAt (l : List UInt8) (i j : Nat) (hj : j < 4) : lane (wordAt l i) j = l.getD (4 * i + j) 0 := by
  match j, hj with
  | 0, _ => exact byteOf_word24 ..
  | 1, _ => exact byteOf_word16 ..
  | 2, _ => exact byteOf_word8 ..
  | 3, _ => exact byteOf_word0 ..
theorem lane_pick (x : W) (j : Nat) (hj : j < 4) : lane (pick x x x x) j = sub (lane x j) := by
  match j, hj with
  | 0, _ => exact byteOf_word24 ..
  | 1, _ => exact byteOf_word16 ..
  | 2, _ => exact byteOf_word8 ..
  | 3, _ => exact byteOf_word0 ..
theorem lane_rol (x : W) (j : Nat) (hj : j < 4) : lane (rol x 8) j = lane x ((j + 1) % 4) := by
  match j, hj with
  | 0, _ => exact byteOf_rol _ 8 16 24 (by decide) (by decide) (by decide)
  | 1, _ => exact byteOf_rol _ 8 8 16 (by decide) (by decide) (by decide)
  | 2, _ => exact byteOf_rol _ 8 0 8 (by decide) (by decide) (by decide)
  | 3, _ => exact byteOf_rol _ 8 24 0 (by decide) (by decide) (by decide)
theorem lane_con (k j : Nat) (hk : k < 7) (hj : j < 4) : lane ((1 : W) <<< (k + 24)) j = if j = 0 then UInt8.ofNat (2 ^ k) else 0 := by
  match k, hk, j, hj with
  | 0, _, 0, _ | 0, _, 1, _ | 0, _, 2, _ | 0, _, 3, _ => decide
  | 1, _, 0, _ | 1, _, 1, _ | 1, _, 2, _ | 1, _, 3, _ => decide
  | 2, _, 0, _ | 2, _, 1, _ | 2, _, 2, _ | 2, _, 3, _ => decide
  | 3, _, 0, _ | 3, _, 1, _ | 3, _, 2, _ | 3, _, 3, _ => decide
  | 4, _, 0, _ | 4, _, 1, _ | 4, _, 2, _ | 4, _, 3, _ => decide
  | 5, _, 0, _ | 5, _, 1, _ | 5, _, 2, _ | 5, _, 3, _ => decide
  | 6, _, 0, _ | 6, _, 1, _ | 6, _, 2, _ | 6, _, 3, _ => decide
/-- Byte j of the word i of a key, as the document makes it. -/
def nextLane (s : List W) (i j : Nat) : UInt8 :=
  if i % 8 = 0 then (if j = 0 then sub (lane (s.getD (i - 1) 0) ((j + 1) % 4)) ^^^ UInt8.ofNat (2 ^ (i / 8 - 1)) else sub (lane (s.getD (i - 1) 0) ((j + 1) % 4)))
  else if i % 8 = 4 then sub (lane (s.getD (i - 1) 0) j) else lane (s.getD (i - 1) 0) j
theorem lane_next (s : List W) (i j : Nat) (h8 : 8 ≤ i) (hi : i < 60) (hj : j < 4) : lane (nextWord s i) j = nextLane s i j := by
  unfold nextWord nextLane
  split
  · rename_i h0
    have e : i / 8 + 23 = (i / 8 - 1) + 24 := by omega
    rw [lane_xor, lane_pick _ _ hj, lane_rol _ _ hj, e, lane_con _ _ (by omega) hj]
    split
    · rfl
    · exact UInt8.xor_zero
  · split
    · exact lane_pick _ _ hj
    · rfl
end Go.Proofs.Ytklbbeilbpcnoaa.Aes
