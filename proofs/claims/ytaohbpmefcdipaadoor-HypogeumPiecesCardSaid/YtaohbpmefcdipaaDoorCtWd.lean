/- Words of 64 bits as the numbers that a walk writes; the contracts of bits.Len64, of Deg and of Add. -/
import Derived.Test.YtaohbpmefcdipaaDoorRows
import Derived.Test.YtaohbpmefcdipaaDoorCtPm
import Derived.WalkKit
import Derived.WalkSpells
import Derived.WalkLawsBesides
import Derived.Laws.BitsAllLaws
import Derived.Deep.QuietTactic
import Derived.BigQuiet
import Derived.Lib.BitFns
import Derived.Lib.Hide
import Derived.Lib.Walk
import Derived.Lib.Small
namespace Go.Proofs.YtaohbpmefcdipaaDoor.Ct
open Go.RowKit

abbrev W := BitVec 64
/-- A word's number. -/
def U (x : W) : Int := (x.toNat : Int)
theorem U_nonneg (x : W) : 0 ≤ U x := Int.natCast_nonneg _
theorem U_lt (x : W) : U x < 18446744073709551616 := by unfold U; have := x.isLt; omega
theorem U_le (x : W) : U x ≤ 18446744073709551615 := by unfold U; have := x.isLt; omega
theorem U_inj {x y : W} (h : U x = U y) : x = y := by unfold U at h; exact BitVec.eq_of_toNat_eq (by omega)
theorem U_xor (x y : W) : bits .xor .u64 (U x) (U y) = U (x ^^^ y) := by
  unfold U; rw [u64_xor_nat _ _ x.isLt y.isLt, BitVec.toNat_xor]
theorem U_and (x y : W) : bits .and .u64 (U x) (U y) = U (x &&& y) := by
  unfold U; rw [u64_and_nat _ _ x.isLt y.isLt, BitVec.toNat_and]
theorem U_or (x y : W) : bits .or .u64 (U x) (U y) = U (x ||| y) := by
  unfold U; rw [u64_or_nat _ _ x.isLt y.isLt, BitVec.toNat_or]
theorem U_shr (x : W) (n : Nat) : U x / 2 ^ n = U (x >>> n) := by
  unfold U; rw [BitVec.toNat_ushiftRight, Nat.shiftRight_eq_div_pow, Int.natCast_ediv, Int.natCast_pow]
  rfl
theorem U_shl (x : W) (n : Nat) : U x * 2 ^ n % 18446744073709551616 = U (x <<< n) := by
  unfold U; rw [BitVec.toNat_shiftLeft, Nat.shiftLeft_eq, Int.natCast_emod, Int.natCast_mul, Int.natCast_pow]
  rfl
theorem U_shlw (x : W) (n : Nat) : IntKind.u64.wrap (U x * 2 ^ n) = U (x <<< n) := by rw [IntKind.wrap_u64]; exact U_shl x n
theorem U_wrap (x : W) : IntKind.u64.wrap (U x) = U x := by
  rw [IntKind.wrap_u64]; have h0 := U_nonneg x; have h1 := U_lt x; omega
theorem U_mod (x : W) : U x % 18446744073709551616 = U x := by
  have h0 := U_nonneg x; have h1 := U_lt x; omega
theorem U_of (n : Nat) (h : n < 18446744073709551616) : U (BitVec.ofNat 64 n) = n := by
  unfold U; rw [BitVec.toNat_ofNat, Nat.mod_eq_of_lt (by simpa using h)]

/-- How many bits a number has. -/
def len (n : Nat) : Nat := if n = 0 then 0 else n.log2 + 1
theorem len_small : ∀ n : Fin 256, Lib.bitLen n.val = len n.val := by decide +kernel
theorem log_div (n k : Nat) : 2 ^ k ≤ n → (n / 2 ^ k).log2 + k = n.log2 := by
  intro h
  have h0 : n ≠ 0 := Nat.ne_of_gt (Nat.lt_of_lt_of_le (Nat.two_pow_pos k) h)
  have hd : n / 2 ^ k ≠ 0 := Nat.ne_of_gt (Nat.div_pos h (Nat.two_pow_pos k))
  have a1 := Nat.log2_self_le hd
  have a2 : n / 2 ^ k < 2 ^ ((n / 2 ^ k).log2 + 1) := Nat.lt_log2_self
  have b1 : 2 ^ ((n / 2 ^ k).log2 + k) ≤ n := by
    rw [Nat.pow_add]
    exact Nat.le_trans (Nat.mul_le_mul_right _ a1) (Nat.div_mul_le_self _ _)
  have b2 : n < 2 ^ ((n / 2 ^ k).log2 + k + 1) := by
    rw [show (n / 2 ^ k).log2 + k + 1 = ((n / 2 ^ k).log2 + 1) + k by omega, Nat.pow_add]
    exact (Nat.div_lt_iff_lt_mul (Nat.two_pow_pos k)).1 a2
  exact (Pm.Has.log ⟨b1, b2⟩).symm
/-- The table's answer at the highest byte, and where that stands. -/
theorem len_of (x : Int) (v : Int) (k : Nat) (h0 : 0 ≤ x) (hv : v = x / 2 ^ k) (h8 : v < 256) (hk : k = 0 ∨ 1 ≤ v) : Lib.len8 v + k = len x.toNat := by
  obtain ⟨n, rfl⟩ := Int.eq_ofNat_of_zero_le h0
  have hv' : v = ((n / 2 ^ k : Nat) : Int) := by rw [hv, Int.natCast_ediv, Int.natCast_pow]; rfl
  clear hv
  generalize hm : n / 2 ^ k = m at hv'
  subst hv'
  have hlt : m < 256 := by omega
  have hs : Lib.bitLen m = len m := len_small ⟨m, hlt⟩
  rw [Lib.len8_of m (by omega) (by omega), Int.toNat_natCast, Int.toNat_natCast, hs]
  rcases hk with rfl | hk
  · rw [← hm]; simp
  · have hp : 0 < n / 2 ^ k := by omega
    have hle : 2 ^ k ≤ n := by
      by_cases h : 2 ^ k ≤ n
      · exact h
      · rw [Nat.div_eq_of_lt (by omega)] at hp; omega
    have hn : n ≠ 0 := Nat.ne_of_gt (Nat.lt_of_lt_of_le (Nat.two_pow_pos k) hle)
    have := log_div n k hle
    unfold len
    rw [if_neg (by omega), if_neg hn, ← hm]
    omega

theorem tab_of (v : Int) (h : v.toNat < Lib.len8tab.size) (k : Int) (h0 : 0 ≤ k) (h1 : k ≤ 56) : wrap64 (k + wrap64 ↑(Lib.len8tab[v.toNat]'h).toNat) = Lib.len8 v + k := by
  have hb := (Lib.len8tab[v.toNat]'h).toNat_lt
  have e : Lib.len8 v = ((Lib.len8tab[v.toNat]'h).toNat : Int) := by
    unfold Lib.len8
    rw [getElem?_pos Lib.len8tab v.toNat h]; rfl
  rw [e]
  unfold wrap64
  omega
theorem tab_of0 (v : Int) (h : v.toNat < Lib.len8tab.size) : wrap64 (wrap64 ↑(Lib.len8tab[v.toNat]'h).toNat) = Lib.len8 v + (0 : Nat) := by
  have := tab_of v h 0 (by omega) (by omega)
  rw [Int.zero_add] at this
  exact this
/-- The degree as an int. -/
def deg (n : Nat) : Int := (len n : Int) - 1

set_option maxHeartbeats 4000000 in
set_option maxRecDepth 100000 in
theorem len64_any (x : Int) (w : World) (h0 : 0 ≤ x) (h1 : x ≤ 18446744073709551615) :
    Calls Tryd.prog 56 #[.int .u64 x] w fun e w' => e = .returned (.int .i64 (len x.toNat)) ∧ w = w' := by
  have hz : (Lib.len8tab.size : Int) = 256 := by rw [Lib.len8tab_size]; rfl
  go_enter Tryd.func56, Tryd.ntmps56
  go_wp2
  all_goals (go_ret; refine ⟨congrArg Ending.returned (congrArg (Value.int IntKind.i64) ?_), rfl⟩)
  · rw [tab_of _ _ 56 (by omega) (by omega)]
    exact len_of x _ 56 h0 (by show _ = x / 72057594037927936; omega) (by omega) (Or.inr (by omega))
  · rw [tab_of _ _ 48 (by omega) (by omega)]
    exact len_of x _ 48 h0 (by show _ = x / 281474976710656; omega) (by omega) (Or.inr (by omega))
  · rw [tab_of _ _ 40 (by omega) (by omega)]
    exact len_of x _ 40 h0 (by show _ = x / 1099511627776; omega) (by omega) (Or.inr (by omega))
  · rw [tab_of _ _ 32 (by omega) (by omega)]
    exact len_of x _ 32 h0 (by show _ = x / 4294967296; omega) (by omega) (Or.inr (by omega))
  · rw [tab_of _ _ 24 (by omega) (by omega)]
    exact len_of x _ 24 h0 (by show _ = x / 16777216; omega) (by omega) (Or.inr (by omega))
  · rw [tab_of _ _ 16 (by omega) (by omega)]
    exact len_of x _ 16 h0 (by show _ = x / 65536; omega) (by omega) (Or.inr (by omega))
  · rw [tab_of _ _ 8 (by omega) (by omega)]
    exact len_of x _ 8 h0 (by show _ = x / 256; omega) (by omega) (Or.inr (by omega))
  · rw [tab_of0]
    exact len_of x _ 0 h0 (by omega) (by omega) (Or.inl rfl)

theorem len_le (n : Nat) (h : n < 2 ^ 64) : len n ≤ 64 := by
  unfold len
  split
  · omega
  · rename_i h0
    have := (Nat.log2_lt h0).2 h
    omega
theorem ret_i64 {a b : Int} (h : a = b) : Ending.returned (.int .i64 a) = .returned (.int .i64 b) := by rw [h]
theorem ret_u64 {a b : Int} (h : a = b) : Ending.returned (.int .u64 a) = .returned (.int .u64 b) := by rw [h]
theorem ret_bool {a b : Bool} (h : a = b) : Ending.returned (.bool a) = .returned (.bool b) := by rw [h]
/-- .. of a word. -/
def dgw (x : W) : Int := deg x.toNat
set_option maxHeartbeats 400000 in
set_option maxRecDepth 100000 in
theorem deg_any (x : W) (w : World) :
    Calls Tryd.prog 43 #[.int .u64 (U x)] w fun e w' => e = .returned (.int .i64 (dgw x)) ∧ w = w' := by
  have h0 := U_nonneg x
  have h1 := U_le x
  have h2 := len_le x.toNat x.isLt
  have h3 : (U x).toNat = x.toNat := by unfold U; exact Int.toNat_natCast _
  go_enter Tryd.func43, Tryd.ntmps43
  go_wp2_with (go_at_call 56; refine (len64_any _ _ h0 h1).mono ?_; rintro e w' ⟨rfl, rfl⟩)
  go_ret
  refine ⟨ret_i64 ?_, rfl⟩
  unfold dgw deg
  first | rfl | (unfold wrap64; omega)

/-- A slice's cells hold these words. -/
def wordsIn (w : World) (a : Option Addr) (l : List W) : Prop := l = [] ∨ ∃ b o, a = some ⟨b, o, none⟩ ∧ ∀ j, j < l.length → w.cell? ⟨b, o + j, none⟩ = some (.int .u64 (U (l.getD j 0)))
/-- The sum of all. -/
def sumAll (l : List W) : W := l.foldl (· ^^^ ·) 0
theorem sumAll_take (l : List W) (k : Nat) (h : k < l.length) : sumAll (l.take (k + 1)) = sumAll (l.take k) ^^^ l.getD k 0 := by
  unfold sumAll
  rw [List.take_succ_eq_append_getElem h, List.foldl_append]
  simp [h]

attribute [local go_sem] U_xor
set_option maxHeartbeats 400000 in
set_option maxRecDepth 100000 in
theorem add_any (a : Option Addr) (l : List W) (c : Nat) (w : World) (hl : l.length ≤ c) (hc : l.length ≤ 1000000) (h : wordsIn w a l) :
    Calls Tryd.prog 57 #[.slice a l.length c] w fun e w' => e = .returned (.int .u64 (U (sumAll l))) ∧ w = w' := by
  have H := Lib.hid h
  clear h
  go_enter Tryd.func57, Tryd.ntmps57
  go_wp2_with fail
  go_loop [3, 5, 8] (fun s _ i => ∃ k : Nat, k ≤ l.length ∧ i = .int .i64 k ∧ s = .int .u64 (U (sumAll (l.take k)))) (fun _ _ i => l.length - (intOf i).toNat)
  case atStart => exact ⟨0, by omega, rfl, rfl⟩
  case round =>
    obtain ⟨k, hk, rfl, rfl⟩ := hrel
    by_cases hlt : k < l.length
    · have HS := Lib.hid (sumAll_take l k hlt)
      rcases H.out with h0 | ⟨b, o, rfl, hcell⟩
      · rw [h0] at hlt; simp at hlt
      have d := hcell k hlt
      have p : 0 ≤ (k : Int) := by omega
      have q : (k : Int) < (l.length : Int) := by omega
      clear hcell
      generalize l.getD k 0 = y at *
      go_wp2_with fail
      go_round
      case rel => exact ⟨k + 1, by omega, by go_num, by rw [HS.out]⟩
      case measure => simp [intOf]; omega
    · obtain rfl : k = l.length := by omega
      go_wp2_with fail
      go_ret
      exact ⟨rfl, rfl⟩
end Go.Proofs.YtaohbpmefcdipaaDoor.Ct
