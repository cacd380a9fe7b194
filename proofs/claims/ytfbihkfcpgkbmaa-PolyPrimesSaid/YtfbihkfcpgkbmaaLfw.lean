/- The contract of the document's division of lists: the walk. -/
import Derived.Test.YtfbihkfcpgkbmaaLeft
namespace Go.Proofs.Ytfbihkfcpgkbmaa
open Go.RowKit

/-- The state of the division by lists: j coefficients are left to look at. -/
def Mid (A b d j L Q : Nat) : Prop := Pm.pm Q b ^^^ L = A ∧ L < 2 ^ j ∧ ∀ t, t + d ≤ j → Q.testBit t = false
theorem top_no {L j : Nat} (h : L < 2 ^ (j + 1)) (hb : L.testBit j = false) : L < 2 ^ j := by
  apply Nat.lt_pow_two_of_testBit
  intro i hi
  by_cases e : i = j
  · subst e; exact hb
  · exact Nat.testBit_lt_two_pow (Nat.lt_of_lt_of_le h (Nat.pow_le_pow_right (by decide) (by omega)))
theorem top_yes {L j : Nat} (h : L < 2 ^ (j + 1)) (hb : L.testBit j = true) : Pm.Has L j := ⟨Nat.ge_two_pow_of_testBit hb, h⟩
theorem Mid.no {A b d j L Q : Nat} (h : Mid A b d (j + 1) L Q) (hb : L.testBit j = false) : Mid A b d j L Q :=
  ⟨h.1, top_no h.2.1 hb, fun t ht => h.2.2 t (by omega)⟩
theorem Mid.yes {A b d j L Q : Nat} (hb0 : b ≠ 0) (hd : d = len b) (hj : d ≤ j + 1) (h : Mid A b d (j + 1) L Q) (hb : L.testBit j = true) :
    Mid A b d j (L ^^^ b * 2 ^ (j + 1 - d)) (Q ^^^ 2 ^ (j + 1 - d)) := by
  have hl : len b = b.log2 + 1 := by unfold len; rw [if_neg hb0]
  refine ⟨?_, ?_, fun t ht => ?_⟩
  · rw [Pm.step_sum]; exact h.1
  · have h1 := Pm.has_shift (k := j + 1 - d) (Pm.has_of_ne hb0)
    rw [show b.log2 + (j + 1 - d) = j by omega] at h1
    exact Pm.xor_same (top_yes h.2.1 hb) h1
  · rw [flip_other _ _ _ (by omega)]
    exact h.2.2 t (by omega)
theorem Mid.start {A b d n : Nat} (hA : A < 2 ^ n) : Mid A b d n A 0 := ⟨by rw [Pm.pm_zero, Nat.zero_xor], hA, fun t _ => by simp⟩
theorem Mid.done {A b d j L Q : Nat} (hb0 : b ≠ 0) (hd : d = len b) (hj : j < d) (h : Mid A b d j L Q) : Q = Pm.pq A b ∧ L = Pm.pr A b := by
  have hl : len b = b.log2 + 1 := by unfold len; rw [if_neg hb0]
  exact Pm.div_eq hb0 h.1 (Pm.less_of_lt (Nat.lt_of_lt_of_le h.2.1 (Nat.pow_le_pow_right (by decide) (by omega))))
/-- Cells from o on hold the lowest n bits of x. -/
def bitsAt (w : World) (b o n x : Nat) : Prop := ∀ j, j < n → w.cell? ⟨b, o + j, none⟩ = some (.bool (x.testBit j))
theorem bitsAt.below {w w' : World} {b o n x B : Nat} (h : bitsAt w b o n x) (hb : Below B w w') (hB : b < B) : bitsAt w' b o n x :=
  fun j hj => (hb.cell (p := ⟨b, o + j, none⟩) hB).trans (h j hj)
theorem bitsAt.other {w : World} {b o n x : Nat} (h : bitsAt w b o n x) (p : Addr) (v : Value) (hp : b ≠ p.block) : bitsAt (w.setCell p v) b o n x :=
  fun j hj => by rw [World.cell?_setCell_other (h := fun e => hp (by rw [e]))]; exact h j hj
/-- What the rest's row holds in the inner loop. -/
def part (L b s k : Nat) : Nat := L ^^^ (b % 2 ^ k) * 2 ^ s
theorem part_zero (L b s : Nat) : part L b s 0 = L := by unfold part; rw [Nat.pow_zero, Nat.mod_one, Nat.zero_mul, Nat.xor_zero]
theorem part_end (L b s : Nat) : part L b s (len b) = L ^^^ b * 2 ^ s := by unfold part; rw [mod_len]
theorem part_next (L b s k : Nat) : part L b s (k + 1) = if b.testBit k then part L b s k ^^^ 2 ^ (s + k) else part L b s k := by unfold part; rw [bit_mul]

/-- How often, and what is left, as lists. -/
def Halves (n A b : Nat) (w : World) (e : Ending) (w' : World) : Prop :=
  ∃ g A' c', e = .returned (.tuple #[.slice (some ⟨g, 0, none⟩) n n, .slice A' n c']) ∧ n ≤ c' ∧ boolsIn w' (some ⟨g, 0, none⟩) (bitsOf n (Pm.pq A b)) ∧ boolsIn w' A' (bitsOf n (Pm.pr A b)) ∧ Below w.heap.size w w'

set_option maxRecDepth 100000 in
set_option maxHeartbeats 2000000 in
theorem left_any (a : Option Addr) (c n A : Nat) (b : W) (w : World) (hn : n ≤ 128) (hz : n = 0 → a = none ∧ c = 0) (hA : A < 2 ^ n) (hb0 : b ≠ 0) (h : boolsB w w.heap.size a n A) :
    Calls Try.prog 29 #[.slice a n c, .int .u64 (U b)] w (Halves n A b.toNat w) := by
  have hd := len_le b.toNat b.isLt
  have hd1 : 0 < len b.toNat := by unfold len; rw [if_neg (ne_toNat hb0)]; omega
  have HB0 := Lib.hid hb0
  have HZ := Lib.hid hz
  have HA := Lib.hid hA
  have H := Lib.hid h
  clear hb0 hz hA h
  go_enter Try.func29, Try.ntmps29
  go_wp2_with (at_builtin; refine append_bits rfl _ _ rfl w.heap.size _ rfl (World.ownsRow_lit w #[] 0 (Nat.le_refl _) (by decide) rfl) a n c A w.heap.size rfl HZ.out ?c1 (by omega) (by simp) ?_)
  case c1 => exact H.out.below ((Below.refl _ _).alloc (Nat.le_refl _) _) (Nat.le_refl _)
  intro v1 w1 hown hgrow
  obtain ⟨a1, c1, rfl, hc1, hrow⟩ := rowAt.of_own hown
  have HB1 := Lib.hid (own_below ((Below.refl w.heap.size w).alloc (Nat.le_refl _) _) (World.ownsRow_lit w #[] 0 (Nat.le_refl _) (by decide) rfl) hgrow (by simp))
  have HR1 := Lib.hid hrow
  clear hown hgrow hrow H
  go_wp2_with fail
  refine (list_any b w1).mono ?_
  rintro e w2 ⟨a2, c2, rfl, h1, h2, h3, hb, h8, h9⟩
  rw [bitsOf_length] at h1 h9
  rcases boolsB.of h3 with h0 | ⟨yb, yo, rfl, hyb, hyc⟩
  · omega
  have hyw : w1.heap.size ≤ yb := h8 _ rfl
  have HB2 := Lib.hid (HB1.out.trans (hb.mono HB1.out.size))
  have HR2 : Hid (rowAt w2 w.heap.size a1 n A) := Lib.hid (by
    rcases HR1.out with h0 | ⟨g, e1, e2, e3⟩
    · exact Or.inl h0
    · exact Or.inr ⟨g, e1, e2, e3.below hb e3.lt⟩)
  have HG1 : Hid (∀ g, a1 = some ⟨g, 0, none⟩ → n ≠ 0 → g < w1.heap.size) := Lib.hid fun g e hn0 => by
    rcases HR1.out with h0 | ⟨g', e1, _, e3⟩
    · exact absurd h0 hn0
    · rw [e1] at e; cases e; exact e3.lt
  have HY := Lib.hid (show bitsAt w2 yb yo (len b.toNat) b.toNat from hyc)
  have HYW := Lib.hid hyw
  have HYB := Lib.hid hyb
  clear h3 hb h8 h9 hyc hyw hyb HB1 HR1
  rw [bitsOf_length]
  have hmk := make_bools n w2 (by omega)
  go_wp2_with fail
  have HG := Lib.hid (bitRow.made w2 n)
  have HB3 := Lib.hid (HB2.out.alloc HB2.out.size (.cells (noBits n) 4))
  have hk3 := (Below.refl w2.heap.size w2).alloc (Nat.le_refl _) (.cells (noBits n) 4)
  have HR3 : Hid (rowAt (w2.alloc (.cells (noBits n) 4)) w.heap.size a1 n A) := Lib.hid (by
    rcases HR2.out with h0 | ⟨g, e1, e2, e3⟩
    · exact Or.inl h0
    · exact Or.inr ⟨g, e1, e2, e3.below hk3 e3.lt⟩)
  have HY3 := Lib.hid (HY.out.below hk3 HYB.out)
  have HS := Lib.hid (show w.heap.size ≤ w2.heap.size from HB2.out.size)
  have HW12 : Hid (∀ g, g < w1.heap.size → g < w2.heap.size) := Lib.hid fun g hg => Nat.lt_of_lt_of_le hg (Nat.le_of_lt (Nat.lt_of_le_of_lt HYW.out HYB.out))
  clear hmk hk3 HR2 HY HB2
  generalize w2.alloc (.cells (noBits n) 4) = w3 at *
  have HG12 : Hid (∀ g, a1 = some ⟨g, 0, none⟩ → n ≠ 0 → g < w2.heap.size ∧ g < yb) := Lib.hid fun g e hn0 => ⟨HW12.out g (HG1.out g e hn0), Nat.lt_of_lt_of_le (HG1.out g e hn0) HYW.out⟩
  clear HG1 HW12 HYW
  generalize w2.heap.size = g2 at *
  go_loopw [8, 9, 10] (fun i _ _ wr => ∃ j L Q : Nat, j ≤ n ∧ i = .int .i64 ((j : Int) - 1) ∧ Hid (rowAt wr w.heap.size a1 n L) ∧ Hid (bitRow wr g2 n Q) ∧ Hid (bitsAt wr yb yo (len b.toNat) b.toNat) ∧ Hid (Below w.heap.size w wr) ∧ Hid (Mid A b.toNat (len b.toNat) j L Q)) (fun i _ _ _ => (intOf i + 1).toNat)
  case atStart => exact ⟨n, A, 0, Nat.le_refl _, rfl, HR3, HG, HY3, HB3, Lib.hid (Mid.start HA.out)⟩
  case round =>
    obtain ⟨j, L, Q, hj, rfl, K1, K2, K3, K4, K5⟩ := hrel
    clear HG HR3 HY3 HB3
    by_cases hlt : len b.toNat ≤ j
    · obtain ⟨i, rfl⟩ : ∃ i, j = i + 1 := ⟨j - 1, by omega⟩
      have e0 : (((i + 1 : Nat) : Int) - 1) = (i : Int) := by omega
      rw [e0]
      clear e0
      have q0 : (len b.toNat : Int) - 1 ≤ (i : Int) := by omega
      have p0 : 0 ≤ (i : Int) := by omega
      have p1 : (i : Int) < (n : Int) := by omega
      have p2 : 0 ≤ (len b.toNat : Int) - 1 := by omega
      rcases K1.out with h0 | ⟨g1, rfl, hg1, hrow⟩
      · omega
      have dx := hrow.cell i (by omega)
      cases hlb : L.testBit i with
      | false =>
        rw [hlb] at dx
        have M := Lib.hid (K5.out.no hlb)
        clear hlb hrow
        go_wp2_with fail
        go_roundw
        case rel => exact ⟨i, L, Q, by omega, rfl, K1, K2, K3, K4, M⟩
        case measure => simp [intOf]
      | true =>
        rw [hlb] at dx
        have M := Lib.hid (K5.out.yes (ne_toNat HB0.out) rfl hlt hlb)
        clear hlb
        obtain ⟨s, hs⟩ : ∃ s : Nat, s = i + 1 - len b.toNat := ⟨_, rfl⟩
        have es : ((i : Int) - (len b.toNat : Int) + 1) = (s : Int) := by omega
        have HSs := Lib.hid hs
        have ps : 0 ≤ (s : Int) := by omega
        have qs : (s : Int) < (n : Int) := by omega
        have hsn : s < n := by omega
        rw [← hs] at M
        have cq := K2.out.cell s hsn
        have fq := K2.out.free s
        have HQ1 : Hid (bitRow (wr.setCell ⟨g2, s, none⟩ (.bool true)) g2 n (Q ^^^ 2 ^ s)) := Lib.hid (K2.out.set s _ true (by
          rw [flip_self, K5.out.2.2 s (by omega)]; rfl) (fun t ht => (flip_other _ _ t ht).symm))
        have HL1 := Lib.hid (hrow.other ⟨g2, s, none⟩ (.bool true) (Nat.ne_of_lt (HG12.out g1 rfl (by omega)).1))
        have HY1 := Lib.hid (K3.out.other ⟨g2, s, none⟩ (.bool true) (Nat.ne_of_lt HYB.out))
        have HB4 := Lib.hid (K4.out.setCell (p := ⟨g2, s, none⟩) HS.out (.bool true))
        clear hs hrow K1 K2 K3 K4
        go_wp2_with fail
        generalize wr.setCell ⟨g2, s, none⟩ (.bool true) = wz at *
        clear cq fq dx
        go_loopw [9, 10] (fun i' _ wr => ∃ k : Nat, k ≤ len b.toNat ∧ i' = .int .i64 k ∧ Hid (bitRow wr g1 n (part L b.toNat s k)) ∧ Hid (bitRow wr g2 n (Q ^^^ 2 ^ s)) ∧ Hid (bitsAt wr yb yo (len b.toNat) b.toNat) ∧ Hid (Below w.heap.size w wr)) (fun i' _ _ => len b.toNat - (intOf i').toNat)
        case atStart => exact ⟨0, Nat.zero_le _, rfl, Lib.hid (by rw [part_zero]; exact HL1.out), HQ1, HY1, HB4⟩
        case round =>
          obtain ⟨k, hk, rfl, L1, L2, L3, L4⟩ := hrel
          clear HL1 HQ1 HY1 HB4
          have p3 : 0 ≤ (k : Int) := by omega
          by_cases hlt2 : k < len b.toNat
          · have q3 : (k : Int) < (len b.toNat : Int) := by omega
            have dy := L3.out k hlt2
            cases hyb : b.toNat.testBit k with
            | false =>
              rw [hyb] at dy
              have HN : Hid (part L b.toNat s (k + 1) = part L b.toNat s k) := Lib.hid (by rw [part_next, hyb]; rfl)
              clear hyb
              go_wp2_with fail
              go_roundw
              case rel => exact ⟨k + 1, by omega, by go_num, Lib.hid (by rw [HN.out]; exact L1.out), L2, L3, L4⟩
              case measure => simp [intOf]; omega
            | true =>
              rw [hyb] at dy
              have HN : Hid (part L b.toNat s (k + 1) = part L b.toNat s k ^^^ 2 ^ (s + k)) := Lib.hid (by rw [part_next, hyb]; rfl)
              clear hyb
              have hsk : s + k < n := by have := HSs.out; omega
              generalize part L b.toNat s k = T at *
              have c0 := L1.out.cell (s + k) hsk
              have f0 := L1.out.free (s + k)
              have N1 := Lib.hid (L1.out.set (s + k) (T ^^^ 2 ^ (s + k)) (!T.testBit (s + k)) (flip_self _ _).symm (fun t ht => (flip_other _ _ t ht).symm))
              have N2 := Lib.hid (L2.out.other ⟨g1, s + k, none⟩ (.bool (!T.testBit (s + k))) (Nat.ne_of_gt (HG12.out g1 rfl (by omega)).1))
              have N3 := Lib.hid (L3.out.other ⟨g1, s + k, none⟩ (.bool (!T.testBit (s + k))) (Nat.ne_of_gt (HG12.out g1 rfl (by omega)).2))
              have N4 := Lib.hid (L4.out.setCell (p := ⟨g1, s + k, none⟩) hg1 (.bool (!T.testBit (s + k))))
              clear L1 L2 L3 L4
              generalize T.testBit (s + k) = tb at *
              have q2 : (s : Int) + (k : Int) < (n : Int) := by omega
              have q4 : 0 ≤ (s : Int) + (k : Int) := by omega
              have e2 : ((s : Int) + (k : Int)).toNat = s + k := by omega
              go_wp2_with fail
              go_roundw
              case rel => exact ⟨k + 1, by omega, by go_num, Lib.hid (by rw [HN.out]; exact N1.out), N2, N3, N4⟩
              case measure => simp [intOf]; omega
          · obtain rfl : k = len b.toNat := by omega
            have L1' := Lib.hid (show rowAt wr w.heap.size (some ⟨g1, 0, none⟩) n (L ^^^ b.toNat * 2 ^ s) from Or.inr ⟨g1, rfl, hg1, by rw [← part_end]; exact L1.out⟩)
            clear L1
            go_wp2_with fail
            go_roundw
            case rel => exact ⟨i, _, _, by omega, rfl, L1', L2, L3, L4, M⟩
            case measure => simp [intOf]
    · have q0 : (j : Int) - 1 < (len b.toNat : Int) - 1 := by omega
      obtain ⟨e1, e2⟩ := K5.out.done (ne_toNat HB0.out) rfl (by omega)
      subst e1 e2
      clear K5
      go_wp2_with fail
      go_ret2
      obtain hrow := K1.out
      exact ⟨g2, a1, c1, rfl, hc1, K2.out.bools, hrow.bools, K4.out⟩
end Go.Proofs.Ytfbihkfcpgkbmaa
