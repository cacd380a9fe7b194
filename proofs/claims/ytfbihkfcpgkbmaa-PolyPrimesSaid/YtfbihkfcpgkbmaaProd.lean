/- The contract of the document's product. -/
import Derived.Test.YtfbihkfcpgkbmaaNum
import Derived.Laws.MakeOwn
namespace Go.Proofs.Ytfbihkfcpgkbmaa
open Go.RowKit

/-- Block b holds the lowest n bits of x, none frozen. -/
def bitBlock (w : World) (b n x : Nat) : Prop := w.heap[b]? = some (.cells ((bitsOf n x).map Value.bool).toArray 4 (0, 0))
theorem bitBlock.lt {w : World} {b n x : Nat} (h : bitBlock w b n x) : b < w.heap.size := by
  unfold bitBlock at h
  exact (Array.getElem?_eq_some_iff.1 h).1
theorem bitBlock.cell {w : World} {b n x : Nat} (h : bitBlock w b n x) (j : Nat) (hj : j < n) : w.cell? ⟨b, j, none⟩ = some (.bool (x.testBit j)) := by
  rw [cell_of_row w b j _ 4 (0, 0) h]
  simp [bitsOf, hj]
theorem bitBlock.free {w : World} {b n x : Nat} (h : bitBlock w b n x) (j : Nat) : w.frozen? ⟨b, j, none⟩ = false := frozen_of_row w b j _ 4 h
theorem bitBlock.below {B : Nat} {w w' : World} (hb : Below B w w') {b n x : Nat} (h : bitBlock w b n x) (hB : b < B) : bitBlock w' b n x := by
  unfold bitBlock
  rw [hb.block b hB]
  exact h
theorem bitBlock.bools {w : World} {b n x : Nat} (h : bitBlock w b n x) : boolsIn w (some ⟨b, 0, none⟩) (bitsOf n x) :=
  Or.inr ⟨b, 0, rfl, fun j hj => by
    rw [bitsOf_length] at hj
    rw [Nat.zero_add, h.cell j hj, bitsOf_getD n x j hj]⟩
theorem set_bit (n x j : Nat) (y : Nat) (v : Bool) (hj : j < n) (hv : v = y.testBit j) (ho : ∀ i, i ≠ j → x.testBit i = y.testBit i) : ((bitsOf n x).map Value.bool).set j (.bool v) = (bitsOf n y).map Value.bool := by
  apply List.ext_getElem
  · simp [bitsOf]
  · intro i h1 h2
    rw [List.getElem_set]
    by_cases h : j = i
    · subst h; simp [bitsOf, hv]
    · rw [if_neg h]
      simp [bitsOf, ho i (fun e => h e.symm)]
theorem bitBlock.set {w : World} {b n x : Nat} (h : bitBlock w b n x) (j y : Nat) (v : Bool) (hj : j < n) (hv : v = y.testBit j) (ho : ∀ i, i ≠ j → x.testBit i = y.testBit i) : bitBlock (w.setCell ⟨b, j, none⟩ (.bool v)) b n y := by
  unfold bitBlock
  rw [heap_setCell_same w b j _ 4 _ h]
  simp only [List.setIfInBounds_toArray, set_bit n x j y v hj hv ho]
theorem bitBlock.other {w : World} {b n x : Nat} (h : bitBlock w b n x) (a : Addr) (v : Value) (hb : b ≠ a.block) : bitBlock (w.setCell a v) b n x := by
  unfold bitBlock
  rw [heap_setCell_other w a b v hb]
  exact h
theorem flip_self (x j : Nat) : (x ^^^ 2 ^ j).testBit j = !x.testBit j := by
  rw [Nat.testBit_xor, Nat.testBit_two_pow_self]; simp
theorem flip_other (x j i : Nat) (h : i ≠ j) : (x ^^^ 2 ^ j).testBit i = x.testBit i := by
  rw [Nat.testBit_xor, Nat.testBit_two_pow_of_ne (by omega)]; simp
/-- A round of the inner loop. -/
theorem bit_mul (b k i : Nat) (T : Nat) : T ^^^ (b % 2 ^ (k + 1)) * 2 ^ i = if b.testBit k then (T ^^^ (b % 2 ^ k) * 2 ^ i) ^^^ 2 ^ (i + k) else T ^^^ (b % 2 ^ k) * 2 ^ i := by
  have hb : b.testBit k = decide (b / 2 ^ k % 2 = 1) := Nat.testBit_eq_decide_div_mod_eq
  rw [mod_succ, hb]
  by_cases h : b / 2 ^ k % 2 = 1
  · rw [if_pos h, if_pos (by simpa using h)]
    have e : (b % 2 ^ k ^^^ 2 ^ k) * 2 ^ i = (b % 2 ^ k) * 2 ^ i ^^^ 2 ^ (i + k) := by
      rw [← Pm.pow_pm, Pm.pm_add_right, Pm.pow_pm, Pm.pow_pm, ← Nat.pow_add, Nat.add_comm k i]
    rw [e, Nat.xor_assoc]
  · rw [if_neg h, if_neg (by simpa using h), Nat.xor_zero]
theorem mul_next (a b i : Nat) : Pm.pm (a % 2 ^ (i + 1)) b = if a.testBit i then Pm.pm (a % 2 ^ i) b ^^^ b * 2 ^ i else Pm.pm (a % 2 ^ i) b := by
  have hb : a.testBit i = decide (a / 2 ^ i % 2 = 1) := Nat.testBit_eq_decide_div_mod_eq
  rw [mod_succ, hb]
  by_cases h : a / 2 ^ i % 2 = 1
  · rw [if_pos h, if_pos (by simpa using h), Pm.pm_add_left, Pm.pow_pm]
  · rw [if_neg h, if_neg (by simpa using h), Nat.xor_zero]
theorem mod_len (n : Nat) : n % 2 ^ len n = n := by
  apply Nat.mod_eq_of_lt
  unfold len
  split
  · omega
  · exact Nat.lt_log2_self

/-- n cells of false. -/
def noBits (n : Nat) : Array Value := ((bitsOf n 0).map Value.bool).toArray
theorem made_bools (n : Nat) : madeCells (Value.bool false).cells (n * 1) = noBits n := by
  unfold noBits
  apply Array.ext
  · simp [madeCells, bitsOf]
  · intro j h1 h2
    simp [madeCells, bitsOf, Value.cells, Nat.mod_one]
theorem make_bools (n : Nat) (w : World) (hn : n ≤ 1000000) :
    (Instr.makeSlice 48 (.int .i64 (n : Int)) (.int .i64 (n : Int))).run Try.prog w = .ok (.slice (some ⟨w.heap.size, 0, none⟩) n n) (w.alloc (.cells (noBits n) 4)) := by
  obtain ⟨i0, hi, hz0, hz1, hz2⟩ := info_parts info_bool
  have := run_make (P := Try.prog) w 48 4 i0 (.bool false) Try.underlying48 hi hz0 .i64 .i64 (n : Int) (n : Int) (by omega) (by omega) (by rw [hz2]; omega) (by omega)
  rw [hz1, Int.toNat_natCast, made_bools] at this
  exact this
theorem bitBlock.made (w : World) (n : Nat) : bitBlock (w.alloc (.cells (noBits n) 4)) w.heap.size n 0 := heap_alloc_new w _
/-- A slice's cells, all in blocks below B, hold these bits. -/
def boolsB (w : World) (B : Nat) (a : Option Addr) (n x : Nat) : Prop := n = 0 ∨ ∃ b o, a = some ⟨b, o, none⟩ ∧ b < B ∧ ∀ j, j < n → w.cell? ⟨b, o + j, none⟩ = some (.bool (x.testBit j))
theorem boolsB.of {w : World} {a : Option Addr} {n x : Nat} (h : boolsIn w a (bitsOf n x)) : boolsB w w.heap.size a n x := by
  rcases h with h | ⟨b, o, h1, h2⟩
  · left
    have := bitsOf_length n x
    rw [h] at this
    exact this.symm
  · by_cases hn : n = 0
    · exact Or.inl hn
    · refine Or.inr ⟨b, o, h1, ?_, fun j hj => ?_⟩
      · exact block_lt_of_cell (h2 0 (by rw [bitsOf_length]; omega))
      · have := h2 j (by rw [bitsOf_length]; exact hj)
        rwa [bitsOf_getD n x j hj] at this
theorem boolsB.below {w w' : World} {B B' : Nat} {a : Option Addr} {n x : Nat} (h : boolsB w B a n x) (hb : Below B' w w') (hB : B ≤ B') : boolsB w' B a n x := by
  rcases h with h | ⟨b, o, h1, h2, h3⟩
  · exact Or.inl h
  · exact Or.inr ⟨b, o, h1, h2, fun j hj => (hb.cell (p := ⟨b, o + j, none⟩) (by show b < B'; omega)).trans (h3 j hj)⟩
theorem boolsB.setCell {w : World} {B : Nat} {a : Option Addr} {n x : Nat} (h : boolsB w B a n x) (p : Addr) (v : Value) (hp : B ≤ p.block) : boolsB (w.setCell p v) B a n x :=
  h.below ((Below.refl B w).setCell hp v) (Nat.le_refl _)
/-- What the block holds in the inner loop. -/
def inner (x y i j : Nat) : Nat := if x.testBit i then Pm.pm (x % 2 ^ i) y ^^^ (y % 2 ^ j) * 2 ^ i else Pm.pm (x % 2 ^ i) y
theorem inner_zero (x y i : Nat) : inner x y i 0 = Pm.pm (x % 2 ^ i) y := by
  unfold inner
  rw [Nat.pow_zero, Nat.mod_one, Nat.zero_mul, Nat.xor_zero]
  split <;> rfl
theorem inner_end (x y i : Nat) : inner x y i (len y) = Pm.pm (x % 2 ^ (i + 1)) y := by
  unfold inner
  rw [mul_next, mod_len]
theorem inner_no (x y i j : Nat) (h : x.testBit i = false) : inner x y i (j + 1) = inner x y i j := by
  unfold inner
  rw [h]; rfl
theorem inner_yes (x y i j : Nat) (h : x.testBit i = true) : inner x y i (j + 1) = if y.testBit j then inner x y i j ^^^ 2 ^ (i + j) else inner x y i j := by
  unfold inner
  rw [h, if_pos rfl, if_pos rfl, bit_mul]

/-- A whole block of bits comes back. -/
def BitsAt (n x : Nat) (w : World) (e : Ending) (w' : World) : Prop := ∃ g, e = .returned (.slice (some ⟨g, 0, none⟩) n n) ∧ bitBlock w' g n x ∧ Below w.heap.size w w'
set_option maxHeartbeats 1000000 in
theorem product_any (x y : W) (w : World) :
    Calls Try.prog 27 #[.int .u64 (U x), .int .u64 (U y)] w (BitsAt 128 (Pm.pm x.toNat y.toNat) w) := by
  have hx := len_le x.toNat x.isLt
  have hy := len_le y.toNat y.isLt
  go_enter Try.func27, Try.ntmps27
  go_wp2_with fail
  refine (list_any x w).mono ?_
  rintro e w1 ⟨a1, c1, rfl, h1, h2, h3, hb, h8, h9⟩
  clear h8 h9
  have HB1 := Lib.hid hb
  have HX := Lib.hid h3
  clear hb h3
  rw [bitsOf_length] at *
  go_wp2_with fail
  refine (list_any y w1).mono ?_
  rintro e w2 ⟨a2, c2, rfl, h4, h5, h6, hb, h8, h9⟩
  clear h8 h9
  have HB2 := Lib.hid (HB1.out.trans (hb.mono HB1.out.size))
  have HX2 := Lib.hid (HX.out.below hb (Nat.le_refl _))
  have HY := Lib.hid h6
  clear hb h6 HX
  rw [bitsOf_length] at *
  have hmk := make_bools 128 w2 (by decide)
  rw [show ((128 : Nat) : Int) = 128 from rfl] at hmk
  go_wp2_with fail
  have HG := Lib.hid (bitBlock.made w2 128)
  have HB3 := Lib.hid (HB2.out.alloc HB2.out.size (.cells (noBits 128) 4))
  have HX3 := Lib.hid ((boolsB.of HX2.out).below ((Below.refl w2.heap.size w2).alloc (Nat.le_refl _) (.cells (noBits 128) 4)) (Nat.le_refl _))
  have HY3 := Lib.hid ((boolsB.of HY.out).below ((Below.refl w2.heap.size w2).alloc (Nat.le_refl _) (.cells (noBits 128) 4)) (Nat.le_refl _))
  have HS := Lib.hid (show w.heap.size ≤ w2.heap.size from HB2.out.size)
  clear hmk HX2 HY HB2 HB1
  generalize w2.alloc (.cells (noBits 128) 4) = w3 at *
  generalize w2.heap.size = g at *
  go_loopw [8, 9] (fun i _ wr => ∃ k : Nat, k ≤ len x.toNat ∧ i = .int .i64 k ∧ Hid (bitBlock wr g 128 (Pm.pm (x.toNat % 2 ^ k) y.toNat)) ∧ Hid (boolsB wr g a1 (len x.toNat) x.toNat) ∧ Hid (boolsB wr g a2 (len y.toNat) y.toNat) ∧ Hid (Below w.heap.size w wr)) (fun i _ _ => len x.toNat - (intOf i).toNat)
  case atStart => exact ⟨0, Nat.zero_le _, rfl, Lib.hid (by rw [Nat.pow_zero, Nat.mod_one, Pm.pm_zero]; exact HG.out), HX3, HY3, HB3⟩
  case round =>
    obtain ⟨i, hi, rfl, K1, K2, K3, K4⟩ := hrel
    clear HG HX3 HY3 HB3
    have p0 : 0 ≤ (i : Int) := by omega
    by_cases hlt : i < len x.toNat
    · have q0 : (i : Int) < (len x.toNat : Int) := by omega
      go_wp2_with fail
      go_loopw [9] (fun k wr => ∃ j : Nat, j ≤ len y.toNat ∧ k = .int .i64 j ∧ Hid (bitBlock wr g 128 (inner x.toNat y.toNat i j)) ∧ Hid (boolsB wr g a1 (len x.toNat) x.toNat) ∧ Hid (boolsB wr g a2 (len y.toNat) y.toNat) ∧ Hid (Below w.heap.size w wr)) (fun k _ => len y.toNat - (intOf k).toNat)
      case atStart => exact ⟨0, Nat.zero_le _, rfl, Lib.hid (by rw [inner_zero]; exact K1.out), K2, K3, K4⟩
      case round =>
        obtain ⟨j, hj, rfl, L1, L2, L3, L4⟩ := hrel
        clear K1 K2 K3 K4
        have p1 : 0 ≤ (j : Int) := by omega
        by_cases hlt2 : j < len y.toNat
        · have q1 : (j : Int) < (len y.toNat : Int) := by omega
          rcases L2.out with h0 | ⟨b, o, rfl, hbl, hcell⟩
          · omega
          have dx := hcell i hlt
          clear hcell
          rcases L3.out with h0 | ⟨b2, o2, rfl, hbl2, hcell⟩
          · omega
          have dy := hcell j hlt2
          clear hcell
          cases hxb : x.toNat.testBit i with
          | false =>
            rw [hxb] at dx
            have HN := Lib.hid (inner_no x.toNat y.toNat i j hxb)
            clear dy hxb
            go_wp2_with fail
            go_roundw
            case rel => exact ⟨j + 1, by omega, by go_num, Lib.hid (by rw [HN.out]; exact L1.out), L2, L3, L4⟩
            case measure => simp [intOf]; omega
          | true =>
            rw [hxb] at dx
            have HN := Lib.hid (inner_yes x.toNat y.toNat i j hxb)
            clear hxb
            cases hyb : y.toNat.testBit j with
            | false =>
              rw [hyb] at dy
              have HH := Lib.hid hyb
              clear hyb
              go_wp2_with fail
              go_roundw
              case rel => exact ⟨j + 1, by omega, by go_num, Lib.hid (by rw [HN.out, HH.out]; exact L1.out), L2, L3, L4⟩
              case measure => simp [intOf]; omega
            | true =>
              rw [hyb] at dy
              have HN2 : Hid (inner x.toNat y.toNat i (j + 1) = inner x.toNat y.toNat i j ^^^ 2 ^ (i + j)) := Lib.hid (by rw [HN.out, hyb]; rfl)
              have M1 := L1.out
              clear hyb HN
              generalize inner x.toNat y.toNat i j = T at *
              have hij : i + j < 128 := by omega
              have c0 := M1.cell (i + j) hij
              have f0 := M1.free (i + j)
              have N1 := Lib.hid (M1.set (i + j) (T ^^^ 2 ^ (i + j)) (!T.testBit (i + j)) hij (flip_self _ _).symm (fun t ht => (flip_other _ _ t ht).symm))
              clear M1 L1
              generalize T.testBit (i + j) = tb at *
              have q2 : (i : Int) + (j : Int) < 128 := by omega
              have e2 : ((i : Int) + (j : Int)).toNat = i + j := by omega
              go_wp2_with fail
              go_roundw
              case rel => exact ⟨j + 1, by omega, by go_num, Lib.hid (by rw [HN2.out]; exact N1.out), Lib.hid (L2.out.setCell _ _ (Nat.le_refl _)), Lib.hid (L3.out.setCell _ _ (Nat.le_refl _)), Lib.hid (L4.out.setCell HS.out _)⟩
              case measure => simp [intOf]; omega
        · obtain rfl : j = len y.toNat := by omega
          have L1' := Lib.hid (show bitBlock wr g 128 (Pm.pm (x.toNat % 2 ^ (i + 1)) y.toNat) by rw [← inner_end]; exact L1.out)
          clear L1
          go_wp2_with fail
          go_roundw
          case rel => exact ⟨i + 1, by omega, by go_num, L1', L2, L3, L4⟩
          case measure => simp [intOf]; omega
    · obtain rfl : i = len x.toNat := by omega
      rw [mod_len] at K1
      go_wp2_with fail
      go_ret
      exact ⟨g, rfl, K1.out, K4.out⟩
end Go.Proofs.Ytfbihkfcpgkbmaa
