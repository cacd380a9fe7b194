/- The contracts of the document's Right and Of, and of the law's rolls. -/
import Derived.Test.YtigknaefdnejfaaVal
namespace Go.Proofs.Ytigknaefdnejfaa
open Go.RowKit

set_option maxHeartbeats 400000 in
theorem right_any (m : W) (w : World) :
    Calls Try.prog 42 #[.int .u64 (U m)] w fun e w' => e = .returned (.bool (decide (8 ≤ dgw m))) ∧ Below w.heap.size w w' := by
  have h1 := dgw_le m
  by_cases h : 8 ≤ dgw m
  · have t1 : decide (8 ≤ dgw m) = true := by simpa using h
    have t2 : decide (dgw m ≤ 63) = true := by simpa using h1
    clear h h1
    go_enter Try.func42, Try.ntmps42
    go_wp2_with fail
    refine (refDeg_any _ _).mono ?_
    rintro e w1 ⟨rfl, hb⟩
    have H1 := Lib.hid hb
    clear hb
    go_wp2_with fail
    refine (refDeg_any _ _).mono ?_
    rintro e w2 ⟨rfl, hb⟩
    have H2 := Lib.hid (H1.out.trans (hb.mono H1.out.size))
    clear hb
    go_wp2_with fail
    go_ret
    exact ⟨ret_bool t1.symm, H2.out⟩
  · have t1 : decide (8 ≤ dgw m) = false := by simpa using h
    clear h h1
    go_enter Try.func42, Try.ntmps42
    go_wp2_with fail
    refine (refDeg_any _ _).mono ?_
    rintro e w1 ⟨rfl, hb⟩
    have H1 := Lib.hid hb
    clear hb
    go_wp2_with fail
    go_ret
    exact ⟨ret_bool t1.symm, H1.out⟩
theorem doc_bad (m : W) (a : Option Addr) (n c : Nat) (w : World) (hm : ¬ 8 ≤ dgw m) :
    Calls Try.prog 37 #[.int .u64 (U m), .slice a n c] w fun e w' => e = .returned (.tuple #[.int .u64 0, .int .i64 1]) ∧ Below w.heap.size w w' := by
  have t1 : decide (8 ≤ dgw m) = false := by simpa using hm
  clear hm
  go_enter Try.func37, Try.ntmps37
  go_wp2_with fail
  refine (right_any _ _).mono ?_
  rintro e w1 ⟨rfl, hb⟩
  have H1 := Lib.hid hb
  clear hb
  go_wp2_with fail
  go_ret2
  exact ⟨rfl, H1.out⟩
theorem U_dbl' (x : W) : IntKind.u64.wrap (U x * 2) = U (x <<< 1) := U_shlw x 1
attribute [local go_sem] U_dbl' U_xor U_shr
set_option maxRecDepth 100000 in
set_option maxHeartbeats 1000000 in
theorem doc_any (m : W) (a : Option Addr) (l : List UInt8) (c : Nat) (w : World) (hm : 8 ≤ dgw m) (hl : l.length ≤ c) (hc : l.length ≤ 1000000) (h : bytesIn w a l) :
    Calls Try.prog 37 #[.int .u64 (U m), .slice a l.length c] w fun e w' => e = .returned (.tuple #[.int .u64 (U (ofW m l)), .int .i64 0]) ∧ Below w.heap.size w w' := by
  have t1 : decide (8 ≤ dgw m) = true := by simpa using hm
  have HM := Lib.hid hm
  have H := Lib.hid h
  have d1 := dgw_le m
  have d2 : 0 ≤ dgw m - 1 := by omega
  have d3 : dgw m - 1 ≤ 64 := by omega
  have d4 : (dgw m - 1).toNat = m.toNat.log2 - 1 := by rw [dgw_log (ne_of_deg hm)]; omega
  clear hm h
  go_enter Try.func37, Try.ntmps37
  go_wp2_with fail
  refine (right_any _ _).mono ?_
  rintro e w1 ⟨rfl, hb⟩
  have H1 := Lib.hid hb
  clear hb
  go_wp2_with fail
  refine (refDeg_any _ _).mono ?_
  rintro e w2 ⟨rfl, hb⟩
  have H2 := Lib.hid (H1.out.trans (hb.mono H1.out.size))
  have HI := Lib.hid (H.out.below H2.out (Nat.le_refl _))
  clear hb H1 H
  go_wp2_with fail
  go_loop [6, 8, 9, 10] (fun s i _ _ => ∃ k : Nat, k ≤ l.length ∧ i = .int .i64 k ∧ s = .int .u64 (U (ofW m (l.take k)))) (fun _ i _ _ => l.length - (intOf i).toNat)
  case atStart => exact ⟨0, Nat.zero_le _, rfl, rfl⟩
  case round =>
    obtain ⟨k, hk, rfl, rfl⟩ := hrel
    have p0 : 0 ≤ (k : Int) := by omega
    by_cases hlt : k < l.length
    · have q0 : (k : Int) < (l.length : Int) := by omega
      rcases HI.out with h0 | ⟨b, o, rfl, hcell⟩
      · rw [h0] at hlt; simp at hlt
      have d := hcell k hlt
      have HT : Hid (l.take (k + 1) = l.take k ++ [l.getD k 0]) := Lib.hid (by rw [List.take_succ_eq_append_getElem hlt]; simp [hlt])
      clear hcell
      generalize l.getD k 0 = x at *
      have HS := Lib.hid (of_val m HM.out (l.take k))
      generalize l.take k = pre at *
      go_wp2_with fail
      go_loop [6, 9, 10] (fun s i _ => ∃ (j : Nat) (t : W), j ≤ 8 ∧ i = .int .i64 ((j : Int) - 1) ∧ s = .int .u64 (U t) ∧ Hid (Within m (bv pre) x j t)) (fun _ i _ => (intOf i + 1).toNat)
      case atStart => exact ⟨8, ofW m pre, Nat.le_refl _, rfl, rfl, Lib.hid (Within.start HM.out HS.out)⟩
      case round =>
        obtain ⟨j, t, hj, rfl, rfl, K1⟩ := hrel
        cases j with
        | zero =>
          have e0 : (((0 : Nat) : Int) - 1) = -1 := rfl
          rw [e0]
          have e1 := K1.out.done HM.out
          rw [← HT.out] at e1
          have E1 := Lib.hid e1
          clear e0 e1
          go_wp2_with fail
          go_round
          case rel => exact ⟨k + 1, by omega, by go_num, by rw [E1.out]⟩
          case measure => simp [intOf]; omega
        | succ j =>
          have e0 : (((j + 1 : Nat) : Int) - 1) = (j : Int) := by omega
          rw [e0]
          clear e0
          have p1 : 0 ≤ (j : Int) := by omega
          have p2 : (j : Int) ≤ 8 := by omega
          have K2 := Lib.hid (K1.out.next HM.out (by omega))
          have vn := V_nonneg x
          have hbw : IntKind.u64.wrap ((V x / 2 ^ j).tmod 2) = U (bitW x j) := by
            rw [Int.tmod_eq_emod_of_nonneg (Int.ediv_nonneg vn (Int.le_of_lt (Int.pow_pos (by decide)))), U_bitW, U_wrap]
          have ht := U_nonneg (t >>> (m.toNat.log2 - 1))
          cases hb : t.toNat.testBit (m.toNat.log2 - 1) with
          | true =>
            have t3 : (U (t >>> (m.toNat.log2 - 1)) % 2 == 1) = true := by rw [U_odd, hb]
            have E1 : Hid (bitOn m t x j = ((t <<< 1) ^^^ bitW x j) ^^^ m) := Lib.hid (by unfold bitOn; rw [hb]; rfl)
            clear hb
            go_wp2_with fail
            go_round
            case rel => exact ⟨j, _, by omega, rfl, by rw [← E1.out], K2⟩
            case measure => simp [intOf]
          | false =>
            have t3 : (U (t >>> (m.toNat.log2 - 1)) % 2 == 1) = false := by rw [U_odd, hb]
            have E1 : Hid (bitOn m t x j = (t <<< 1) ^^^ bitW x j) := Lib.hid (by unfold bitOn; rw [hb]; rfl)
            clear hb
            go_wp2_with fail
            go_round
            case rel => exact ⟨j, _, by omega, rfl, by rw [← E1.out], K2⟩
            case measure => simp [intOf]
    · obtain rfl : k = l.length := by omega
      rw [List.take_length]
      go_wp2_with fail
      go_ret2
      exact ⟨rfl, H2.out⟩

theorem row_two {w : World} {x y : UInt8} {vx vy : Int} (t : TypeId) (hx : vx = V x) (hy : vy = V y) : bytesIn (w.alloc (.cells #[.int .u8 vx, .int .u8 vy] t (0, 0))) (some ⟨w.heap.size, 0, none⟩) [x, y] := by
  subst hx hy
  refine Or.inr ⟨_, _, rfl, fun j hj => ?_⟩
  match j, hj with
  | 0, _ => rw [World.cell?_alloc_at _ _ _ _ rfl]; rfl
  | 1, _ => rw [World.cell?_alloc_at _ _ _ _ rfl]; rfl
end Go.Proofs.Ytigknaefdnejfaa
