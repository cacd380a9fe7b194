/- The contracts of the document's Mul, Div, MulMod, Gcd: they answer as the program's. -/
import Derived.Test.YtfbihkfcpgkbmaaLfw
namespace Go.Proofs.Ytfbihkfcpgkbmaa
open Go.RowKit

theorem product_lt (x y : W) : Pm.pm x.toNat y.toNat < 2 ^ 128 := Nat.lt_of_lt_of_le (Pm.pm_lt (m := 64) (n := 63) x.isLt y.isLt) (by decide)
theorem nw_hi (x y : W) : nw 64 (Pm.pm x.toNat y.toNat / 2 ^ 64) = (acc x y 64).1 := by
  apply BitVec.eq_of_toNat_eq
  unfold nw
  rw [acc_hi, BitVec.toNat_ofNat, Nat.mod_mod, Nat.mod_eq_of_lt]
  have := product_lt x y
  omega
theorem nw_lo (x y : W) : nw 64 (Pm.pm x.toNat y.toNat) = (acc x y 64).2 := by
  apply BitVec.eq_of_toNat_eq
  unfold nw
  rw [acc_lo, BitVec.toNat_ofNat, Nat.mod_mod]
theorem number_at (g o c x : Nat) (w : World) (hb : bitBlock w g 128 x) (ho : o + 64 ≤ 128) (hc : 64 ≤ c) :
    Calls Try.prog 28 #[.slice (some ⟨g, o, none⟩) 64 c] w fun e w' => e = .returned (.int .u64 (U (nw 64 (x / 2 ^ o)))) ∧ w' = w := by
  have h : boolsIn w (some ⟨g, o, none⟩) (bitsOf 64 (x / 2 ^ o)) := by
    refine Or.inr ⟨g, o, rfl, fun j hj => ?_⟩
    rw [bitsOf_length] at hj
    rw [hb.cell (o + j) (by omega), bitsOf_getD _ _ _ hj, Nat.testBit_div_two_pow, Nat.add_comm]
  exact (number_any _ c 64 _ w hc (by decide) h).mono fun _ _ h => ⟨h.1, h.2.symm⟩

set_option maxHeartbeats 1000000 in
theorem refMul_any (x y : W) (w : World) :
    Calls Try.prog 16 #[.int .u64 (U x), .int .u64 (U y)] w fun e w' => e = .returned (.tuple #[.int .u64 (U (acc x y 64).1), .int .u64 (U (acc x y 64).2)]) ∧ Below w.heap.size w w' := by
  go_enter Try.func16, Try.ntmps16
  go_wp2_with fail
  refine (product_any x y w).mono ?_
  rintro e w1 ⟨g, rfl, hbit, hb⟩
  have HB := Lib.hid hb
  have HH := Lib.hid hbit
  clear hb hbit
  go_wp2_with fail
  go_quiet ((go_at_call 28; exact Calls.quiet_of_same (number_at _ _ _ _ _ HH.out (by decide) (by decide))))
  have e1 := nw_hi x y
  have e2 : nw 64 (Pm.pm x.toNat y.toNat / 2 ^ 0) = (acc x y 64).2 := by rw [Nat.pow_zero, Nat.div_one]; exact nw_lo x y
  rw [e1, e2]
  clear e1 e2
  go_wp2_with fail
  go_ret2
  exact ⟨by first | rfl | simp, by have := HB.out; exact ⟨this.os, this.tape, this.output, this.size, this.block⟩⟩

theorem pr_lt_of (a b n : Nat) (hb : b ≠ 0) (ha : a < 2 ^ n) : Pm.pr a b < 2 ^ n := by
  by_cases h : Pm.Less a b
  · rw [Pm.pr_less a b hb h]; exact ha
  · have h0 : a ≠ 0 := fun e => h (Or.inl e)
    have h1 : ¬ a.log2 < b.log2 := fun e => h (Or.inr e)
    have h2 := (Nat.log2_lt h0).2 ha
    exact Nat.lt_of_lt_of_le (Pm.pr_lt a b hb) (Nat.pow_le_pow_right (by decide) (by omega))
theorem pq_lt_of (a b n : Nat) (hb : b ≠ 0) (ha : a < 2 ^ n) : Pm.pq a b < 2 ^ n := by
  have hs := Pm.pq_pr a b hb
  by_cases hq : Pm.pq a b = 0
  · rw [hq]; exact Nat.two_pow_pos n
  · have hx : Pm.pm (Pm.pq a b) b = a ^^^ Pm.pr a b := by
      have := congrArg (· ^^^ Pm.pr a b) hs.1
      simpa [Nat.xor_assoc] using this
    have hlt : Pm.pm (Pm.pq a b) b < 2 ^ n := by
      rw [hx]
      exact Nat.xor_lt_two_pow ha (pr_lt_of a b n hb ha)
    have h1 := (Nat.log2_lt (Pm.pm_ne hq hb)).2 hlt
    rw [Pm.pm_log hq hb] at h1
    exact (Nat.log2_lt hq).1 (by omega)
theorem nw_fit (n x : Nat) (h : x < 2 ^ n) (h64 : x < 2 ^ 64) : nw (min n 64) x = BitVec.ofNat 64 x := by
  unfold nw
  rw [Nat.mod_eq_of_lt]
  by_cases e : n ≤ 64
  · rw [Nat.min_eq_left e]; exact h
  · rw [Nat.min_eq_right (by omega)]; exact h64
theorem lt_len (x : Nat) : x < 2 ^ len x := by
  unfold len
  split
  · omega
  · exact Nat.lt_log2_self

theorem refDiv_zero (a : W) (w : World) :
    Calls Try.prog 18 #[.int .u64 (U a), .int .u64 0] w fun e w' => e = .returned (.tuple #[.int .u64 0, .int .u64 0, .int .i64 1]) ∧ w = w' := by
  go_enter Try.func18, Try.ntmps18
  go_wp2_with fail
  exact bodyPost_ret (v := .tuple #[.int .u64 0, .int .u64 0, .int .i64 1]) (by simp [results, Try.results18, go_sem]) rfl ⟨rfl, rfl⟩
set_option maxHeartbeats 1000000 in
theorem refDiv_any (a b : W) (w : World) (hb0 : b ≠ 0) :
    Calls Try.prog 18 #[.int .u64 (U a), .int .u64 (U b)] w fun e w' => e = .returned (.tuple #[.int .u64 (U (wQ a b)), .int .u64 (U (wR a b)), .int .i64 0]) ∧ Below w.heap.size w w' := by
  have t0 : (U b == 0) = false := by rw [U_beq0]; simpa using hb0
  have HB0 := Lib.hid hb0
  have hl := len_le a.toNat a.isLt
  have HE1 : Hid (nw (min (len a.toNat) 64) (Pm.pq a.toNat b.toNat) = wQ a b) := Lib.hid (nw_fit _ _ (pq_lt_of _ _ _ (ne_toNat hb0) (lt_len _)) (pq_lt_of _ _ _ (ne_toNat hb0) a.isLt))
  have HE2 : Hid (nw (min (len a.toNat) 64) (Pm.pr a.toNat b.toNat) = wR a b) := Lib.hid (nw_fit _ _ (pr_lt_of _ _ _ (ne_toNat hb0) (lt_len _)) (pr_lt_of _ _ _ (ne_toNat hb0) a.isLt))
  clear hb0
  go_enter Try.func18, Try.ntmps18
  go_wp2_with fail
  refine (list_any a w).mono ?_
  rintro e w1 ⟨a1, c1, rfl, h1, h2, h3, hb, h8, h9⟩
  have HB1 := Lib.hid hb
  have H1 := Lib.hid (boolsB.of h3)
  have H9 := Lib.hid h9
  clear h1 h2 h3 hb h8 h9
  rw [bitsOf_length] at *
  go_wp2_with fail
  refine (left_any a1 c1 (len a.toNat) a.toNat b w1 (by omega) H9.out (lt_len _) HB0.out H1.out).mono ?_
  rintro e w2 ⟨g, a2, c2, rfl, h1, h2, h3, hb⟩
  have HB2 := Lib.hid (HB1.out.trans (hb.mono HB1.out.size))
  have HQ := Lib.hid h2
  have HR := Lib.hid h3
  clear h2 h3 hb HB1 H1
  go_wp2_with fail
  refine (number_any _ _ _ _ _ (Nat.le_refl _) (by omega) HQ.out).mono ?_
  rintro e w' ⟨rfl, rfl⟩
  rw [HE1.out]
  go_wp2_with fail
  refine (number_any _ _ _ _ _ h1 (by omega) HR.out).mono ?_
  rintro e w' ⟨rfl, rfl⟩
  rw [HE2.out]
  go_wp2_with fail
  exact bodyPost_ret (v := .tuple #[.int .u64 (U (wQ a b)), .int .u64 (U (wR a b)), .int .i64 0]) (by simp [results, Try.results18, go_sem]) rfl ⟨rfl, HB2.out⟩

theorem refMod_zero (a b : W) (w : World) :
    Calls Try.prog 20 #[.int .u64 (U a), .int .u64 (U b), .int .u64 0] w fun e w' => e = .returned (.tuple #[.int .u64 0, .int .i64 1]) ∧ w = w' := by
  go_enter Try.func20, Try.ntmps20
  go_wp2_with fail
  go_ret2
  exact ⟨rfl, rfl⟩
set_option maxHeartbeats 1000000 in
theorem refMod_any (a b m : W) (w : World) (hm0 : m ≠ 0) :
    Calls Try.prog 20 #[.int .u64 (U a), .int .u64 (U b), .int .u64 (U m)] w fun e w' => e = .returned (.tuple #[.int .u64 (U (wM a b m)), .int .i64 0]) ∧ Below w.heap.size w w' := by
  have t0 : (U m == 0) = false := by rw [U_beq0]; simpa using hm0
  have HM0 := Lib.hid hm0
  have HE : Hid (nw (min 128 64) (Pm.pr (Pm.pm a.toNat b.toNat) m.toNat) = wM a b m) := Lib.hid (nw_fit _ _ (pr_lt_of _ _ _ (ne_toNat hm0) (product_lt a b)) (pr_lt64 _ _ (ne_toNat hm0) m.isLt))
  clear hm0
  go_enter Try.func20, Try.ntmps20
  go_wp2_with fail
  refine (product_any a b w).mono ?_
  rintro e w1 ⟨g, rfl, hbit, hb⟩
  have HB1 := Lib.hid hb
  have H1 := Lib.hid (boolsB.of hbit.bools)
  clear hb hbit
  go_wp2_with fail
  refine (left_any (some ⟨g, 0, none⟩) 128 128 (Pm.pm a.toNat b.toNat) m w1 (by decide) (fun h => absurd h (by decide)) (product_lt a b) HM0.out H1.out).mono ?_
  rintro e w2 ⟨g2, a2, c2, rfl, h1, h2, h3, hb⟩
  have HB2 := Lib.hid (HB1.out.trans (hb.mono HB1.out.size))
  have HR := Lib.hid h3
  clear h2 h3 hb HB1 H1
  go_wp2_with fail
  refine (number_any _ _ _ _ _ h1 (by decide) HR.out).mono ?_
  rintro e w' ⟨rfl, rfl⟩
  rw [HE.out]
  go_wp2_with fail
  go_ret2
  exact ⟨rfl, HB2.out⟩

set_option maxHeartbeats 1000000 in
theorem refGcd_any (a b : W) (w : World) :
    Calls Try.prog 21 #[.int .u64 (U a), .int .u64 (U b)] w fun e w' => e = .returned (.int .u64 (U (wG a b))) ∧ Below w.heap.size w w' := by
  go_enter Try.func21, Try.ntmps21
  go_wp2_with fail
  go_loopw [0, 1] (fun x y wd => ∃ g p : W, x = .int .u64 (U g) ∧ y = .int .u64 (U p) ∧ Hid (wG g p = wG a b) ∧ Below w.heap.size w wd) (fun _ y _ => len (intOf y).toNat)
  case atStart => exact ⟨a, b, rfl, rfl, Lib.hid rfl, Below.refl _ _⟩
  case round =>
    obtain ⟨g, p, rfl, rfl, hg, hbel⟩ := hrel
    have HB := Lib.hid hbel
    clear hbel
    by_cases h0 : p = 0
    · have t0 : (U p == 0) = true := by rw [U_beq0]; simpa using h0
      have t1 : (U p != 0) = false := by simp [bne, t0]
      have HG : Hid (g = wG a b) := Lib.hid (by have := hg.out; rw [h0, wG_zero] at this; exact this)
      clear hg h0 t0
      go_wp2_with fail
      go_ret
      exact ⟨ret_u64 (by rw [HG.out]), HB.out⟩
    · have t0 : (U p == 0) = false := by rw [U_beq0]; simpa using h0
      have t1 : (U p != 0) = true := by simp [bne, t0]
      have HG := Lib.hid ((wG_step g p h0).symm.trans hg.out)
      have hln := len_lt (ne_toNat h0) (Pm.pq_pr g.toNat p.toNat (ne_toNat h0)).2
      rw [← wR_toNat _ _ h0] at hln
      have HL := Lib.hid hln
      have H0 := Lib.hid h0
      clear hln hg h0 t0
      go_wp2_with fail
      refine (refDiv_any _ _ _ H0.out).mono ?_
      rintro e w1 ⟨rfl, hb1⟩
      have HB1 := Lib.hid (HB.out.trans (hb1.mono HB.out.size))
      clear hb1 HB
      go_wp2_with fail
      go_roundw
      case rel => exact ⟨_, _, rfl, rfl, HG, HB1.out⟩
      case measure =>
        have := HL.out
        simpa [intOf, Utn] using this
end Go.Proofs.Ytfbihkfcpgkbmaa
