/- The contracts of Ints and cuts. -/
import Derived.Test.YtigknaefdnejfaaSizes
namespace Go.Proofs.Ytigknaefdnejfaa
open Go.RowKit

set_option maxRecDepth 100000 in
set_option maxHeartbeats 1000000 in
theorem ints_any (a1 : Option Addr) (c1 : Nat) (xs : List Nat) (a2 : Option Addr) (c2 : Nat) (ys : List Nat) (w : World) (h1 : valsIn w a1 (ivals xs)) (h2 : valsIn w a2 (ivals ys)) (hx : xs.length ≤ 1000000) :
    Calls Try.prog 21 #[.slice a1 xs.length c1, .slice a2 ys.length c2] w fun e w' => e = .returned (.bool (decide (xs = ys))) ∧ Below w.heap.size w w' := by
  have HX := Lib.hid h1
  have HY := Lib.hid h2
  clear h1 h2
  by_cases hl : xs.length = ys.length
  · have t1 : ((xs.length : Int) == (ys.length : Int)) = true := by simp; omega
    go_enter Try.func21, Try.ntmps21
    go_wp2_with fail
    go_loopw [5] (fun i wr => ∃ j : Nat, j ≤ xs.length ∧ i = .int .i64 j ∧ Hid (xs.take j = ys.take j) ∧ Hid (Below w.heap.size w wr)) (fun i _ => xs.length - (intOf i).toNat)
    case atStart => exact ⟨0, Nat.zero_le _, rfl, Lib.hid rfl, Lib.hid (Below.refl _ _)⟩
    case round =>
      obtain ⟨j, hj, rfl, E1, B1⟩ := hrel
      have p0 : 0 ≤ (j : Int) := by omega
      by_cases hlt : j < xs.length
      · have q0 : (j : Int) < (xs.length : Int) := by omega
        have q1 : (j : Int) < (ys.length : Int) := by omega
        obtain ⟨b1, o1, rfl, d1⟩ := (HX.out.below B1.out (Nat.le_refl _)).at j (by rw [ivals_length]; exact hlt)
        obtain ⟨b2, o2, rfl, d2⟩ := (HY.out.below B1.out (Nat.le_refl _)).at j (by rw [ivals_length]; omega)
        have e1 : (ivals xs)[j]'(by rw [ivals_length]; exact hlt) = .int .i64 ((xs.getD j 0 : Nat) : Int) := by simp [ivals, hlt]
        have e2 : (ivals ys)[j]'(by rw [ivals_length]; omega) = .int .i64 ((ys.getD j 0 : Nat) : Int) := by simp [ivals, show j < ys.length by omega]
        rw [e1] at d1
        rw [e2] at d2
        clear e1 e2
        have T1 : Hid (xs.take (j + 1) = xs.take j ++ [xs.getD j 0]) := Lib.hid (by rw [List.take_succ_eq_append_getElem hlt]; simp [hlt])
        have T2 : Hid (ys.take (j + 1) = ys.take j ++ [ys.getD j 0]) := Lib.hid (by rw [List.take_succ_eq_append_getElem (by omega)]; simp [show j < ys.length by omega])
        generalize xs.getD j 0 = p at *
        generalize ys.getD j 0 = q at *
        by_cases hpq : p = q
        · subst hpq
          go_wp2_with fail
          go_region
          all_goals
            go_wp2_with fail
            go_roundw
            case rel => exact ⟨j + 1, by omega, by go_num, Lib.hid (by rw [T1.out, T2.out, E1.out]), Lib.hid B1.out.drew⟩
            case measure => simp [intOf]; omega
        · have t2 : ((p : Int) == (q : Int)) = false := by simp; omega
          have E : Hid (xs ≠ ys) := Lib.hid (by
            intro h
            have := T1.out
            rw [h, T2.out] at this
            have h2 := List.append_inj_right' this rfl
            simp at h2
            exact hpq h2.symm)
          go_wp2_with fail
          go_region
          all_goals
            go_wp2_with fail
            go_ret
            exact ⟨ret_bool (by symm; simp; exact E.out), B1.out.drew⟩
      · obtain rfl : j = xs.length := by omega
        have E : Hid (xs = ys) := Lib.hid (by
          have := E1.out
          rw [List.take_length, hl, List.take_length] at this
          exact this)
        go_wp2_with fail
        go_ret
        exact ⟨ret_bool (by symm; simp; exact E.out), B1.out⟩
  · have t1 : ((xs.length : Int) == (ys.length : Int)) = false := by simp; omega
    go_enter Try.func21, Try.ntmps21
    go_wp2_with fail
    go_ret
    exact ⟨ret_bool (by symm; simp; intro h; exact hl (by rw [h])), Below.refl _ _⟩
end Go.Proofs.Ytigknaefdnejfaa
