/- The contract of Gcd. -/
import Derived.Test.YtfbihkfcpgkbmaaMod
namespace Go.Proofs.Ytfbihkfcpgkbmaa
open Go.RowKit

/-- Euclid's way, by a count of steps. -/
def pg : Nat → Nat → Nat → Nat
  | 0, g, _ => g
  | n + 1, g, p => if p = 0 then g else pg n p (Pm.pr g p)
def gcd (g p : Nat) : Nat := pg (len p) g p
theorem len_zero : len 0 = 0 := rfl
theorem len_lt {a b : Nat} (hb : b ≠ 0) (h : Pm.Less a b) : len a < len b := by
  unfold len
  rw [if_neg hb]
  rcases h with rfl | h
  · simp
  · split <;> omega
theorem pg_more (n m g p : Nat) (hn : len p ≤ n) (hm : len p ≤ m) : pg n g p = pg m g p := by
  induction n generalizing m g p with
  | zero =>
    have h0 : p = 0 := by
      by_cases h : p = 0
      · exact h
      · unfold len at hn; rw [if_neg h] at hn; omega
    subst h0
    cases m <;> simp [pg]
  | succ n ih =>
    by_cases h0 : p = 0
    · subst h0; cases m <;> simp [pg]
    · have hl : 0 < len p := by unfold len; rw [if_neg h0]; omega
      have hr := len_lt h0 (Pm.pq_pr g p h0).2
      cases m with
      | zero => omega
      | succ m =>
        unfold pg
        rw [if_neg h0, if_neg h0]
        exact ih m p _ (by omega) (by omega)
theorem gcd_zero (g : Nat) : gcd g 0 = g := rfl
theorem gcd_step (g p : Nat) (h : p ≠ 0) : gcd g p = gcd p (Pm.pr g p) := by
  have hr := len_lt h (Pm.pq_pr g p h).2
  unfold gcd
  rw [pg_more (len p) (len p - 1 + 1) g p (by omega) (by omega)]
  conv => lhs; unfold pg
  rw [if_neg h]
  exact pg_more _ _ _ _ (by omega) (by omega)
theorem gcd_lt64 (g p : Nat) (hg : g < 2 ^ 64) (hp : p < 2 ^ 64) : gcd g p < 2 ^ 64 := by
  have main : ∀ n g p, len p ≤ n → g < 2 ^ 64 → p < 2 ^ 64 → gcd g p < 2 ^ 64 := by
    intro n
    induction n with
    | zero =>
      intro g p hn hg hp
      by_cases h : p = 0
      · subst h; exact hg
      · unfold len at hn; rw [if_neg h] at hn; omega
    | succ n ih =>
      intro g p hn hg hp
      by_cases h : p = 0
      · subst h; exact hg
      · rw [gcd_step g p h]
        have hr := len_lt h (Pm.pq_pr g p h).2
        exact ih p _ (by omega) hp (pr_lt64 _ _ h hp)
  exact main _ g p (Nat.le_refl _) hg hp
/-- The same of words. -/
def wG (g p : W) : W := BitVec.ofNat 64 (gcd g.toNat p.toNat)
theorem wG_toNat (g p : W) : (wG g p).toNat = gcd g.toNat p.toNat := by
  unfold wG
  rw [BitVec.toNat_ofNat, Nat.mod_eq_of_lt (gcd_lt64 _ _ g.isLt p.isLt)]
theorem wG_zero (g : W) : wG g 0 = g := by
  unfold wG
  rw [show (0 : W).toNat = 0 from rfl, gcd_zero]
  simp
theorem wG_step (g p : W) (h : p ≠ 0) : wG g p = wG p (wR g p) := by
  unfold wG
  rw [gcd_step _ _ (ne_toNat h), wR_toNat _ _ h]
def gcdAll (l : List W) : W := l.foldl wG 0
theorem gcdAll_take (l : List W) (k : Nat) (h : k < l.length) : gcdAll (l.take (k + 1)) = wG (gcdAll (l.take k)) (l.getD k 0) := by
  unfold gcdAll
  rw [List.take_succ_eq_append_getElem h, List.foldl_append]
  simp [h]
theorem wordsIn.below {w w' : World} {a : Option Addr} {l : List W} (h : wordsIn w a l) {B : Nat} (hb : Below B w w') (hB : w.heap.size ≤ B) : wordsIn w' a l := by
  rcases h with h | ⟨bb, bo, h1, h3⟩
  · exact Or.inl h
  · exact Or.inr ⟨bb, bo, h1, fun j hj => (hb.cell (p := ⟨bb, bo + j, none⟩) (Nat.lt_of_lt_of_le (block_lt_of_cell (h3 j hj)) hB)).trans (h3 j hj)⟩

attribute [local go_sem] U_xor
set_option maxHeartbeats 1000000 in
theorem gcd_any (a : Option Addr) (l : List W) (c : Nat) (w : World) (hl : l.length ≤ c) (hc : l.length ≤ 1000000) (h : wordsIn w a l) :
    Calls Try.prog 22 #[.slice a l.length c] w fun e w' => e = .returned (.int .u64 (U (gcdAll l))) ∧ Below w.heap.size w w' := by
  have H := Lib.hid h
  clear h
  go_enter Try.func22, Try.ntmps22
  go_wp2_with fail
  go_loopw [3, 5, 6, 7, 8, 11] (fun g _ _ _ _ i wd => ∃ k : Nat, k ≤ l.length ∧ i = .int .i64 k ∧ g = .int .u64 (U (gcdAll (l.take k))) ∧ Below w.heap.size w wd) (fun _ _ _ _ _ i _ => l.length - (intOf i).toNat)
  case atStart => exact ⟨0, by omega, rfl, rfl, Below.refl _ _⟩
  case round =>
    obtain ⟨k, hk, rfl, rfl, hbel⟩ := hrel
    have HB := Lib.hid hbel
    clear hbel
    by_cases hlt : k < l.length
    · have HS := Lib.hid (gcdAll_take l k hlt)
      rcases (H.out.below HB.out (Nat.le_refl _)) with h0 | ⟨b, o, rfl, hcell⟩
      · rw [h0] at hlt; simp at hlt
      have d := hcell k hlt
      have p : 0 ≤ (k : Int) := by omega
      have q : (k : Int) < (l.length : Int) := by omega
      clear hcell
      generalize l.getD k 0 = y at *
      generalize gcdAll (l.take k) = g0 at *
      go_wp2_with fail
      clear d
      go_loopw [3, 5, 6, 7, 8] (fun x y' _ _ _ wd => ∃ g p : W, x = .int .u64 (U g) ∧ y' = .int .u64 (U p) ∧ Hid (wG g p = wG g0 y) ∧ Below w.heap.size w wd) (fun _ y' _ _ _ _ => len (intOf y').toNat)
      case atStart => exact ⟨g0, y, rfl, rfl, Lib.hid rfl, HB.out⟩
      case round =>
        obtain ⟨g, p1, rfl, rfl, hg, hbel⟩ := hrel
        have HB2 := Lib.hid hbel
        clear hbel
        by_cases h0 : p1 = 0
        · subst h0
          have HG := Lib.hid ((wG_zero g).symm.trans hg.out)
          clear hg
          go_wp2_with fail
          go_roundw
          case rel => exact ⟨k + 1, by omega, by go_num, by rw [HS.out, ← HG.out], HB2.out⟩
          case measure => simp [intOf]; omega
        · have t0 : (U p1 == 0) = false := by rw [U_beq0]; simpa using h0
          have t1 : (U p1 != 0) = true := by simp [bne, t0]
          have HG := Lib.hid ((wG_step g p1 h0).symm.trans hg.out)
          have hln := len_lt (ne_toNat h0) (Pm.pq_pr g.toNat p1.toNat (ne_toNat h0)).2
          rw [← wR_toNat _ _ h0] at hln
          have HL := Lib.hid hln
          have H0 := Lib.hid h0
          clear hln hg h0
          go_wp2_with fail
          refine (div_any _ _ _ H0.out).mono ?_
          rintro e w1 ⟨rfl, hb1⟩
          have HB1 := Lib.hid (HB2.out.trans (hb1.mono HB2.out.size))
          clear hb1 HB2
          go_wp2_with fail
          go_roundw
          case rel => exact ⟨_, _, rfl, rfl, HG, HB1.out⟩
          case measure =>
            have := HL.out
            simpa [intOf, Utn] using this
    · obtain rfl : k = l.length := by omega
      rw [List.take_length]
      go_wp2_with fail
      go_ret
      exact ⟨rfl, HB.out⟩
end Go.Proofs.Ytfbihkfcpgkbmaa
