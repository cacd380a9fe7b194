/- PolyGcds: for all words the law returns true, and its arguments read as before. No condition. -/
import Derived.Test.YtfbihkfcpgkbmaaGm
namespace Go.Proofs.Ytfbihkfcpgkbmaa
open Go.RowKit

theorem gcd_mem (l : List W) (vs : Array Value) (hv : vs = (l.map fun x => Value.int .u64 (U x)).toArray) (n : Nat) (hn : n = l.length) (h63 : n ≤ 1000) (t : TypeId) (w : World) :
    Calls Try.prog 22 #[.slice (some ⟨w.heap.size, 0, none⟩) n n] (w.alloc (.cells vs t (0, 0))) fun e w' => e = .returned (.int .u64 (U (gcdAll l))) ∧ Below w.heap.size w w' := by
  subst hn
  have h : wordsIn (w.alloc (.cells vs t (0, 0))) (some ⟨w.heap.size, 0, none⟩) l := by
    refine Or.inr ⟨_, _, rfl, fun j hj => ?_⟩
    rw [World.cell?_alloc_at _ _ _ _ rfl, hv]
    simp [hj]
  refine (gcd_any _ l l.length _ (Nat.le_refl _) (by omega) h).mono ?_
  rintro e w' ⟨rfl, hb⟩
  exact ⟨rfl, ((Below.refl _ _).alloc (Nat.le_refl _) _).trans (hb.mono (by simp))⟩
theorem gcd_none (w : World) : Calls Try.prog 22 #[.slice none 0 0] w fun e w' => e = .returned (.int .u64 0) ∧ Below w.heap.size w w' :=
  gcd_any none [] 0 w (Nat.le_refl _) (by decide) (Or.inl rfl)
theorem gcd_one (p : W) : gcdAll [p] = p := wG_left_zero p
theorem gcd_three (p q s : W) : gcdAll [p, q, s] = wG (wG p q) s := by
  show wG (wG (wG 0 p) q) s = _
  rw [wG_left_zero]
theorem gcd_four (p q s : W) : gcdAll [s, 0, q, p] = wG (wG p q) s := by
  show wG (wG (wG (wG 0 s) 0) q) p = _
  rw [wG_left_zero, wG_zero, wG_turn]

set_option maxRecDepth 100000 in
set_option maxHeartbeats 4000000 in
theorem law_polyGcds (a b c : W) (w : World) :
    Calls Try.prog 7 #[.int .u64 (U a), .int .u64 (U b), .int .u64 (U c)] w fun e w' => e = .returned (.bool true) ∧ Below w.heap.size w w' := by
  have H3g := Lib.hid (gcd_three a b c)
  have H4g := Lib.hid (gcd_four a b c)
  have H1g := Lib.hid (gcd_one a)
  have HD := Lib.hid (all_dv a b c)
  go_enter Try.func7, Try.ntmps7
  go_wp2_with fail
  refine (refGcd_any a b _).mono ?_
  rintro e w1 ⟨rfl, hb⟩
  have H1 := Lib.hid (hb)
  clear hb
  go_wp2_with fail
  refine (refGcd_any (wG a b) c _).mono ?_
  rintro e w2 ⟨rfl, hb⟩
  have H2 := Lib.hid (H1.out.trans (hb.mono H1.out.size))
  clear hb H1
  go_wp2_with fail
  refine (gcd_mem [a, b, c] _ rfl 3 rfl (by decide) _ _).mono ?_
  rintro e w3 ⟨rfl, hb⟩
  have H3 := Lib.hid (H2.out.trans (hb.mono H2.out.size))
  clear hb H2
  rw [H3g.out]
  generalize wG (wG a b) c = g at *
  have t1 : (U g != U g) = false := by simp
  have t2 : (U a != U a) = false := by simp
  go_wp2_with fail
  refine (bits_any _).mono ?_
  rintro e w4 ⟨rfl, hb⟩
  have H4 := Lib.hid (H3.out.trans (hb.mono H3.out.size))
  clear hb H3
  go_wp2_with fail
  refine (gcd_mem [c, 0, b, a] _ rfl 4 rfl (by decide) _ _).mono ?_
  rintro e w5 ⟨rfl, hb⟩
  have H5 := Lib.hid (H4.out.trans (hb.mono H4.out.size))
  clear hb H4
  rw [H4g.out]
  go_wp2_with fail
  refine (gcd_none _).mono ?_
  rintro e w6 ⟨rfl, hb⟩
  have H6 := Lib.hid (H5.out.trans (hb.mono H5.out.size))
  clear hb H5
  go_wp2_with fail
  refine (gcd_mem [a] _ rfl 1 rfl (by decide) _ _).mono ?_
  rintro e w7 ⟨rfl, hb⟩
  have H7 := Lib.hid (H6.out.trans (hb.mono H6.out.size))
  clear hb H6
  rw [H1g.out]
  by_cases hg : g = 0
  · have e1 := zero_dv hg HD.out.1
    have e2 := zero_dv hg HD.out.2.1
    have e3 := zero_dv hg HD.out.2.2
    have t3 : (U g == 0) = true := by rw [U_beq0]; simpa using hg
    have t4 : (U a == 0) = true := by rw [U_beq0]; simpa using e1
    have t5 : (U b == 0) = true := by rw [U_beq0]; simpa using e2
    have t6 : (U c == 0) = true := by rw [U_beq0]; simpa using e3
    clear hg e1 e2 e3
    go_wp2_with fail
    go_ret
    exact ⟨rfl, H7.out⟩
  · have HG := Lib.hid hg
    have t3 : (U g == 0) = false := by rw [U_beq0]; simpa using hg
    have E1 := Lib.hid (wR_dv hg HD.out.1)
    have E2 := Lib.hid (wR_dv hg HD.out.2.1)
    have E3 := Lib.hid (wR_dv hg HD.out.2.2)
    have t4 : (U (0 : W) == 0) = true := rfl
    clear hg
    go_wp2_with fail
    refine (div_any _ _ _ HG.out).mono ?_
    rintro e w8 ⟨rfl, hb⟩
    have H8 := Lib.hid (H7.out.trans (hb.mono H7.out.size))
    clear hb H7
    rw [E1.out]
    go_wp2_with fail
    refine (div_any _ _ _ HG.out).mono ?_
    rintro e w9 ⟨rfl, hb⟩
    have H9 := Lib.hid (H8.out.trans (hb.mono H8.out.size))
    clear hb H8
    rw [E2.out]
    go_wp2_with fail
    refine (div_any _ _ _ HG.out).mono ?_
    rintro e w10 ⟨rfl, hb⟩
    have H10 := Lib.hid (H9.out.trans (hb.mono H9.out.size))
    clear hb H9
    rw [E3.out]
    go_wp2_with fail
    go_ret
    exact ⟨rfl, H10.out⟩
namespace polyGcds
open Go.ChangeShapes Go.WideShapes Go.ChangeAt Go.RowKit
set_option maxRecDepth 100000 in
theorem lifted (os : Os) (started : os.Started) (H : Type) (enc : TypeId × Value → H) :
    ReturnsInHanded {} Try.checked os 7 .any (Rows.polyGcdsSpec.pre6 enc Try.prog Try.f7 Rows.polyGcdsRow.domain false) (Rows.polyGcdsSpec.post enc Try.prog Try.f7 false true false false) := by
  refine returnsInHanded_of_change (C := Try.checked) own started (by kernel_rfl) Try.func7
    (ChangeSpec.witness6 (enc := enc) (C := Try.checked) false ⟨#[], #[.int .u64 0, .int .u64 0, .int .u64 0], []⟩ 8 (by kernel_rfl) (by kernel_rfl) (by kernel_rfl) (by kernel_rfl)) ?_
  intro W base args ds gs before hval0 hW hcnd _
  have hval : ∀ (j : Nat) t v, Try.f7.params[j]? = some t → args[j]? = some v → Value.okWide Try.prog W .any base t v := hval0
  have hW' := hW
  obtain ⟨p, q, hA0, hV, rfl, hfz, hnd⟩ := hW
  have hA : DataW.TrodAll enc Try.prog W 0 (fun _ => true) true Try.f7.params.toList args.toList ds p := hA0
  rw [Try.params7] at hA hval
  obtain ⟨v0, vs0, d0, ds0, p0, q0, hargs, rfl, rfl, h0, r0⟩ := trodAll_cons hA
  obtain ⟨v1, vs1, d1, ds1, p1, q1, rfl, rfl, rfl, h1, r1⟩ := trodAll_cons r0
  obtain ⟨v2, vs2, d2, ds2, p2, q2, rfl, rfl, rfl, h2, r2⟩ := trodAll_cons r1
  obtain ⟨rfl, rfl, rfl⟩ := trodAll_nil r2
  obtain rfl : args = #[v0, v1, v2] := by cases args; simp_all
  obtain ⟨rfl, rfl⟩ := trodVars_none hV
  obtain ⟨a0, rfl, rfl, rfl, w0⟩ := open_int Try.underlying24 (hval 0 24 v0 rfl rfl) h0
  obtain ⟨a1, rfl, rfl, rfl, w1⟩ := open_int Try.underlying24 (hval 1 24 v1 rfl rfl) h1
  obtain ⟨a2, rfl, rfl, rfl, w2⟩ := open_int Try.underlying24 (hval 2 24 v2 rfl rfl) h2
  clear hA0 hval0
  simp only [List.append_nil] at hW'
  obtain ⟨x0, rfl⟩ := word_of a0 w0
  obtain ⟨x1, rfl⟩ := word_of a1 w1
  obtain ⟨x2, rfl⟩ := word_of a2 w2
  refine (law_polyGcds x0 x1 x2 W).mono fun e W' ⟨he, hb⟩ => ?_
  subst he
  exact ⟨_, rfl, _, [], _, _, _, _, hW', trodAll_cons_mk (shut_bool Try.underlying4 _) trodAll_mk0, (trodAll_cons_mk (shut_int Try.underlying24 w0) (trodAll_cons_mk (shut_int Try.underlying24 w1) (trodAll_cons_mk (shut_int Try.underlying24 w2) trodAll_mk0))), rfl, hb.frame _, fun h => by cases h⟩

theorem proved : Rows.PolyGcdsSaid :=
  OpenClaim.holds_of_wide 7 Try.f7 rfl rfl rfl rfl rfl rfl rfl ⟨rfl, rfl, rfl, rfl, rfl⟩ rfl rfl rfl rfl rfl (by kernel_rfl) Try.func7 (by kernel_rfl)
    (of_decide_eq_true (by kernel_rfl)) (by unfold Func.isWrapper; first | (rw [if_pos (by decide +kernel)]; kernel_rfl) | (rw [if_neg (by decide +kernel)]; exact ⟨rfl, rfl⟩))
    (fun os started H enc _ => lifted os started H enc)
end polyGcds
end Go.Proofs.Ytfbihkfcpgkbmaa
