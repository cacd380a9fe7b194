/- PolyMuls: for all words the law returns true, and its arguments read as before. No condition. -/
import Derived.Test.YtfbihkfcpgkbmaaGm
namespace Go.Proofs.Ytfbihkfcpgkbmaa
open Go.RowKit

set_option maxRecDepth 100000 in
set_option maxHeartbeats 4000000 in
theorem law_polyMuls (a b : W) (w : World) :
    Calls Try.prog 4 #[.int .u64 (U a), .int .u64 (U b)] w fun e w' => e = .returned (.bool true) ∧ Below w.heap.size w w' := by
  have da := dgw_ge a
  have db := dgw_ge b
  have ea := dgw_le a
  have eb := dgw_le b
  go_enter Try.func4, Try.ntmps4
  go_wp2_with fail
  refine (mul_any a b _).mono ?_
  rintro e w1 ⟨rfl, hb⟩
  have H1 := Lib.hid (hb)
  clear hb
  go_wp2_with fail
  refine (refMul_any a b _).mono ?_
  rintro e w2 ⟨rfl, hb⟩
  have H2 := Lib.hid (H1.out.trans (hb.mono H1.out.size))
  clear hb H1
  go_wp2_with fail
  refine (mul_any b a _).mono ?_
  rintro e w3 ⟨rfl, hb⟩
  have H3 := Lib.hid (H2.out.trans (hb.mono H2.out.size))
  clear hb H2
  rw [acc_comm b a]
  have Z1 : Hid (a = 0 → (acc a b 64).1 = 0 ∧ (acc a b 64).2 = 0) := Lib.hid fun h => by rw [h, acc_zero_left]; exact ⟨rfl, rfl⟩
  have Z2 : Hid (b = 0 → (acc a b 64).1 = 0 ∧ (acc a b 64).2 = 0) := Lib.hid fun h => by rw [h, acc_zero_right]; exact ⟨rfl, rfl⟩
  have Z3 : Hid (a ≠ 0 → b ≠ 0 → (acc a b 64).1 = 0 → dgw (acc a b 64).2 = dgw a + dgw b) := Lib.hid fun h1 h2 h3 => deg_mul h1 h2 h3
  have Z4 : Hid (a ≠ 0 → b ≠ 0 → (acc a b 64).1 ≠ 0 → 64 + dgw (acc a b 64).1 = dgw a + dgw b) := Lib.hid fun h1 h2 h3 => deg_mul_hi h1 h2 h3
  generalize (acc a b 64).1 = x at *
  generalize (acc a b 64).2 = y at *
  have t1 : (U x != U x) = false := by simp
  have t2 : (U y != U y) = false := by simp
  go_wp2_with fail
  refine (bits_any _).mono ?_
  rintro e w4 ⟨rfl, hb⟩
  have H4 := Lib.hid (H3.out.trans (hb.mono H3.out.size))
  clear hb H3
  by_cases ha : a = 0
  · obtain ⟨e1, e2⟩ := Z1.out ha
    have t3 : (U a == 0) = true := by rw [U_beq0]; simpa using ha
    have t4 : (U x == 0) = true := by rw [U_beq0]; simpa using e1
    have t5 : (U y == 0) = true := by rw [U_beq0]; simpa using e2
    clear ha e1 e2
    go_wp2_with fail
    go_ret
    exact ⟨rfl, H4.out⟩
  by_cases hb : b = 0
  · obtain ⟨e1, e2⟩ := Z2.out hb
    have t3 : (U a == 0) = false := by rw [U_beq0]; simpa using ha
    have t6 : (U b == 0) = true := by rw [U_beq0]; simpa using hb
    have t4 : (U x == 0) = true := by rw [U_beq0]; simpa using e1
    have t5 : (U y == 0) = true := by rw [U_beq0]; simpa using e2
    clear ha hb e1 e2
    go_wp2_with fail
    go_ret
    exact ⟨rfl, H4.out⟩
  have t3 : (U a == 0) = false := by rw [U_beq0]; simpa using ha
  have t6 : (U b == 0) = false := by rw [U_beq0]; simpa using hb
  have dy := dgw_ge y
  have dx := dgw_ge x
  have ey := dgw_le y
  have ex := dgw_le x
  by_cases hx : x = 0
  · have t7 : (U x == 0) = true := by rw [U_beq0]; simpa using hx
    have t8 : (U x != 0) = false := by simp [bne, t7]
    have e := Z3.out ha hb hx
    have t9 : (dgw y == dgw a + dgw b) = true := by simpa using e
    clear e hx ha hb t7
    go_wp2_with ((with_reducible refine (deg_any _ _).mono ?_); rintro e w' ⟨rfl, rfl⟩)
    refine (refDeg_any a _).mono ?_
    rintro e w5 ⟨rfl, hb⟩
    have H5 := Lib.hid (H4.out.trans (hb.mono H4.out.size))
    clear hb H4
    go_wp2_with fail
    refine (refDeg_any b _).mono ?_
    rintro e w6 ⟨rfl, hb⟩
    have H6 := Lib.hid (H5.out.trans (hb.mono H5.out.size))
    clear hb H5
    go_wp2_with fail
    go_ret
    exact ⟨rfl, H6.out⟩
  · have t7 : (U x == 0) = false := by rw [U_beq0]; simpa using hx
    have t8 : (U x != 0) = true := by simp [bne, t7]
    have e := Z4.out ha hb hx
    have t9 : (64 + dgw x == dgw a + dgw b) = true := by simpa using e
    clear e hx ha hb t7
    go_wp2_with ((with_reducible refine (deg_any _ _).mono ?_); rintro e w' ⟨rfl, rfl⟩)
    refine (refDeg_any a _).mono ?_
    rintro e w5 ⟨rfl, hb⟩
    have H5 := Lib.hid (H4.out.trans (hb.mono H4.out.size))
    clear hb H4
    go_wp2_with fail
    refine (refDeg_any b _).mono ?_
    rintro e w6 ⟨rfl, hb⟩
    have H6 := Lib.hid (H5.out.trans (hb.mono H5.out.size))
    clear hb H5
    go_wp2_with fail
    go_ret
    exact ⟨rfl, H6.out⟩
namespace polyMuls
open Go.ChangeShapes Go.WideShapes Go.ChangeAt Go.RowKit
set_option maxRecDepth 100000 in
theorem lifted (os : Os) (started : os.Started) (H : Type) (enc : TypeId × Value → H) :
    ReturnsInHanded {} Try.checked os 4 .any (Rows.polyMulsSpec.pre6 enc Try.prog Try.f4 Rows.polyMulsRow.domain false) (Rows.polyMulsSpec.post enc Try.prog Try.f4 false true false false) := by
  refine returnsInHanded_of_change (C := Try.checked) own started (by kernel_rfl) Try.func4
    (ChangeSpec.witness6 (enc := enc) (C := Try.checked) false ⟨#[], #[.int .u64 0, .int .u64 0], []⟩ 8 (by kernel_rfl) (by kernel_rfl) (by kernel_rfl) (by kernel_rfl)) ?_
  intro W base args ds gs before hval0 hW hcnd _
  have hval : ∀ (j : Nat) t v, Try.f4.params[j]? = some t → args[j]? = some v → Value.okWide Try.prog W .any base t v := hval0
  have hW' := hW
  obtain ⟨p, q, hA0, hV, rfl, hfz, hnd⟩ := hW
  have hA : DataW.TrodAll enc Try.prog W 0 (fun _ => true) true Try.f4.params.toList args.toList ds p := hA0
  rw [Try.params4] at hA hval
  obtain ⟨v0, vs0, d0, ds0, p0, q0, hargs, rfl, rfl, h0, r0⟩ := trodAll_cons hA
  obtain ⟨v1, vs1, d1, ds1, p1, q1, rfl, rfl, rfl, h1, r1⟩ := trodAll_cons r0
  obtain ⟨rfl, rfl, rfl⟩ := trodAll_nil r1
  obtain rfl : args = #[v0, v1] := by cases args; simp_all
  obtain ⟨rfl, rfl⟩ := trodVars_none hV
  obtain ⟨a0, rfl, rfl, rfl, w0⟩ := open_int Try.underlying24 (hval 0 24 v0 rfl rfl) h0
  obtain ⟨a1, rfl, rfl, rfl, w1⟩ := open_int Try.underlying24 (hval 1 24 v1 rfl rfl) h1
  clear hA0 hval0
  simp only [List.append_nil] at hW'
  obtain ⟨x0, rfl⟩ := word_of a0 w0
  obtain ⟨x1, rfl⟩ := word_of a1 w1
  refine (law_polyMuls x0 x1 W).mono fun e W' ⟨he, hb⟩ => ?_
  subst he
  exact ⟨_, rfl, _, [], _, _, _, _, hW', trodAll_cons_mk (shut_bool Try.underlying4 _) trodAll_mk0, (trodAll_cons_mk (shut_int Try.underlying24 w0) (trodAll_cons_mk (shut_int Try.underlying24 w1) trodAll_mk0)), rfl, hb.frame _, fun h => by cases h⟩

theorem proved : Rows.PolyMulsSaid :=
  OpenClaim.holds_of_wide 4 Try.f4 rfl rfl rfl rfl rfl rfl rfl ⟨rfl, rfl, rfl, rfl, rfl⟩ rfl rfl rfl rfl rfl (by kernel_rfl) Try.func4 (by kernel_rfl)
    (of_decide_eq_true (by kernel_rfl)) (by unfold Func.isWrapper; first | (rw [if_pos (by decide +kernel)]; kernel_rfl) | (rw [if_neg (by decide +kernel)]; exact ⟨rfl, rfl⟩))
    (fun os started H enc _ => lifted os started H enc)
end polyMuls
end Go.Proofs.Ytfbihkfcpgkbmaa
