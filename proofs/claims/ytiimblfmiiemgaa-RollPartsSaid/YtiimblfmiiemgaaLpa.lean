/- RollParts: for every window, all bytes and every cut the law returns true, and its arguments read as before. No condition. -/
import Derived.Test.YtiimblfmiiemgaaClr
import Derived.Test.YtiimblfmiiemgaaTwo
namespace Go.Proofs.Ytiimblfmiiemgaa
open Go.RowKit

set_option maxRecDepth 100000 in
set_option maxHeartbeats 4000000 in
theorem law_rollParts (n : Int) (a : Option Addr) (c : Nat) (L : List UInt8) (cut : Int) (w : World) (hn : (Lit.int .i64 n).wf = true) (hl : L.length ≤ c) (hin : bytesIn w a L) (hz : a = none → c = 0) (hcut : (Lit.int .i64 cut).wf = true) :
    Calls Try.prog 5 #[.int .i64 n, .slice a L.length c, .int .i64 cut] w fun e w' => e = .returned (.bool true) ∧ Below w.heap.size w w' := by
  have H := Lib.hid (hin.take 500)
  have HZ := Lib.hid hz
  clear hin hz
  go_enter Try.func5, Try.ntmps5
  go_wp2_with fail
  have e2 : (min (L.length : Int) 500).toNat = (L.take 500).length := by rw [List.length_take]; omega
  have e3 : max (min (L.length : Int) 500) 0 = ((L.take 500).length : Int) := by rw [List.length_take]; omega
  have e4 : (L.take 500).length ≤ 500 := by rw [List.length_take]; omega
  have e5 : (L.take 500).length ≤ c := by rw [List.length_take]; omega
  rw [e2, e3]
  clear e2 e3
  generalize min (L.length : Int) 500 = z at *
  generalize L.take 500 = l at *
  obtain ⟨N, hN, hN1, hN2⟩ : ∃ N : Nat, wrap64 (1 + wrap64 ((IntKind.u64.wrap n).tmod 100)) = (N : Int) ∧ 1 ≤ N ∧ N ≤ 100 := by
    have h0 : 0 ≤ IntKind.u64.wrap n := by rw [IntKind.wrap_u64]; omega
    rw [Int.tmod_eq_emod_of_nonneg h0]
    have h1 : 0 ≤ IntKind.u64.wrap n % 100 ∧ IntKind.u64.wrap n % 100 < 100 := ⟨Int.emod_nonneg _ (by decide), Int.emod_lt_of_pos _ (by decide)⟩
    refine ⟨(1 + IntKind.u64.wrap n % 100).toNat, ?_, by omega, by omega⟩
    generalize IntKind.u64.wrap n % 100 = y at *
    have e1 : wrap64 y = y := by unfold wrap64; omega
    rw [e1]
    unfold wrap64
    omega
  obtain ⟨K, hK, hK1⟩ : ∃ K : Nat, wrap64 ((IntKind.u64.wrap cut).tmod ((l.length : Int) + 1)) = (K : Int) ∧ K ≤ l.length := by
    have h0 : 0 ≤ IntKind.u64.wrap cut := by rw [IntKind.wrap_u64]; omega
    rw [Int.tmod_eq_emod_of_nonneg h0]
    have h1 : 0 ≤ IntKind.u64.wrap cut % ((l.length : Int) + 1) ∧ IntKind.u64.wrap cut % ((l.length : Int) + 1) < (l.length : Int) + 1 := ⟨Int.emod_nonneg _ (by omega), Int.emod_lt_of_pos _ (by omega)⟩
    refine ⟨(IntKind.u64.wrap cut % ((l.length : Int) + 1)).toNat, ?_, by omega⟩
    generalize IntKind.u64.wrap cut % ((l.length : Int) + 1) = y at *
    unfold wrap64
    omega
  rw [hN, hK]
  clear hN hK hn hcut
  generalize (IntKind.u64.wrap cut).tmod ((l.length : Int) + 1) = y1 at *
  generalize (IntKind.u64.wrap n).tmod 100 = y2 at *
  generalize IntKind.u64.wrap cut = y3 at *
  generalize IntKind.u64.wrap n = y4 at *
  generalize wrap64 y2 = y5 at *
  have HM : Hid (8 ≤ dgw 17349423945073011#64) := Lib.hid (by decide +kernel)
  refine (new_any 17349423945073011#64 N w HM.out hN1 (by omega)).mono ?_
  rintro e w1 ⟨g1, b1, rfl, hg, hw, hr, hb⟩
  have G1 : Hid (w.heap.size ≤ g1 ∧ w.heap.size ≤ b1) := Lib.hid ⟨hg, hw⟩
  have H1 := Lib.hid hb
  have R1 := Lib.hid hr
  clear hb hr hg hw
  go_wp2_with fail
  refine (new_any 17349423945073011#64 N w1 HM.out hN1 (by omega)).mono ?_
  rintro e w2 ⟨g2, b2, rfl, hg, hw, hr, hb⟩
  have G2 : Hid (w.heap.size ≤ g2 ∧ w.heap.size ≤ b2) := Lib.hid ⟨Nat.le_trans H1.out.size hg, Nat.le_trans H1.out.size hw⟩
  have GD : Hid (g1 ≠ g2 ∧ g1 ≠ b2 ∧ b1 ≠ g2 ∧ b1 ≠ b2) := Lib.hid (by have := R1.out.lt; exact ⟨by omega, by omega, by omega, by omega⟩)
  have H2 := Lib.hid (H1.out.trans (hb.mono H1.out.size))
  have R2 := Lib.hid (R1.out.below hb)
  have S2 := Lib.hid hr
  clear hb hr hg hw H1 R1
  go_wp2_with fail
  refine (rolls_any _).mono ?_
  rintro e w3 ⟨rfl, hb⟩
  have H3 := Lib.hid (H2.out.trans (hb.mono H2.out.size))
  have R3 := Lib.hid (R2.out.below hb)
  have S3 := Lib.hid (S2.out.below hb)
  clear hb H2 R2 S2
  go_wp2_with fail
  refine (push_any g1 b1 _ _ a l c w3 R3.out e5 (by omega) (H.out.off G1.out.1 G1.out.2 H3.out)).mono ?_
  rintro e w4 ⟨rfl, hr, hb⟩
  have H4 := Lib.hid (H3.out.trans (hb.below G1.out.1 G1.out.2 H3.out.size))
  have R4 := Lib.hid hr
  have S4 := Lib.hid (S3.out.but hb (Ne.symm GD.out.1) (Ne.symm GD.out.2.2.1) (Ne.symm GD.out.2.1) (Ne.symm GD.out.2.2.2))
  clear hb hr H3 R3 S3
  have HX : Hid (slides (slides (List.replicate N 0) (l.take K)) (l.drop K) = slides (List.replicate N 0) l) := Lib.hid (by rw [← slides_append, List.take_append_drop])
  generalize hq1 : ofW 17349423945073011#64 (slides (List.replicate N 0) l) = q1 at *
  have HQ1 := Lib.hid hq1
  clear hq1
  have hk0 : 0 ≤ (K : Int) := by omega
  have hk1 : (K : Int) ≤ (l.length : Int) := by omega
  have hk2 : (K : Int) ≤ (c : Int) := by omega
  go_wp2_with fail
  have P1 := push_any g2 b2 _ _ a (l.take K) c w4 S4.out (by rw [List.length_take]; omega) (by rw [List.length_take]; omega) ((H.out.take K).off G2.out.1 G2.out.2 H4.out)
  rw [List.length_take, Nat.min_eq_left hK1] at P1
  refine P1.mono ?_
  clear P1
  rintro e w5 ⟨rfl, hr, hb⟩
  have H5 := Lib.hid (H4.out.trans (hb.below G2.out.1 G2.out.2 H4.out.size))
  have S5 := Lib.hid hr
  have R5 := Lib.hid (R4.out.but hb GD.out.1 GD.out.2.1 GD.out.2.2.1 GD.out.2.2.2)
  clear hb hr H4 R4 S4
  generalize ofW 17349423945073011#64 (slides (List.replicate N 0) (l.take K)) = q2 at *
  go_wp2_with fail
  refine (push_any g2 b2 _ _ none [] 0 w5 S5.out (Nat.le_refl 0) (by simp) (Or.inl rfl)).mono ?_
  rintro e w6 ⟨rfl, hr, hb⟩
  have H6 := Lib.hid (H5.out.trans (hb.below G2.out.1 G2.out.2 H5.out.size))
  have hs0 : slides (slides (List.replicate N 0) (l.take K)) [] = slides (List.replicate N 0) (l.take K) := rfl
  rw [hs0] at hr ⊢
  have S6 := Lib.hid hr
  have R6 := Lib.hid (R5.out.but hb GD.out.1 GD.out.2.1 GD.out.2.2.1 GD.out.2.2.2)
  clear hb hr H5 R5 S5 hs0
  generalize ofW 17349423945073011#64 (slides (List.replicate N 0) (l.take K)) = q3 at *
  go_wp2_with fail
  have P2 := push_any g2 b2 _ _ a (l.drop K) 0 w6 S6.out (by rw [List.length_drop]; omega) (by rw [List.length_drop]; omega) (Or.inl (List.drop_of_length_le (by omega)))
  rw [List.length_drop] at P2
  refine P2.mono ?_
  clear P2
  have hck : c = K := by assumption
  subst hck
  rotate_left
  have P2 := push_any g2 b2 _ _ (Option.map (fun x => x.add K) a) (l.drop K) (c - K) w6 S6.out (by rw [List.length_drop]; omega) (by rw [List.length_drop]; omega) (by
      rcases H.out with h0 | ⟨bb, bo, rfl, hc⟩
      · exact Or.inl (by rw [h0, List.drop_nil])
      · have e : Option.map (fun x : Addr => x.add K) (some ⟨bb, bo, none⟩) = some ⟨bb, bo + K, none⟩ := by
          show some (Addr.add _ K) = _
          rw [Addr.add_lit]
        rw [e]
        exact (bytesIn.drop H.out K).off G2.out.1 G2.out.2 H6.out)
  rw [List.length_drop] at P2
  refine P2.mono ?_
  clear P2
  all_goals
    rintro e w7 ⟨rfl, hr, hb⟩
    rw [HX.out] at hr ⊢
    rw [HQ1.out]
    have H7 := Lib.hid (H6.out.trans (hb.below G2.out.1 G2.out.2 H6.out.size))
    have R7 := Lib.hid (R6.out.but hb GD.out.1 GD.out.2.1 GD.out.2.2.1 GD.out.2.2.2)
    clear hb hr H6 R6 S6
    go_wp2_with fail
    refine (sum_any g1 b1 _ _ w7 R7.out).mono ?_
    rintro e w8 ⟨rfl, rfl⟩
    rw [HQ1.out]
    go_wp2_with fail
    refine (push_any g1 b1 _ _ none [] 0 w7 R7.out (Nat.le_refl 0) (by simp) (Or.inl rfl)).mono ?_
    rintro e w8 ⟨rfl, hr, hb⟩
    have hs0 : slides (slides (List.replicate N 0) l) [] = slides (List.replicate N 0) l := rfl
    rw [hs0] at hr ⊢
    rw [HQ1.out]
    have H8 := Lib.hid (H7.out.trans (hb.below G1.out.1 G1.out.2 H7.out.size))
    have R8 := Lib.hid hr
    clear hb hr H7 R7 hs0
    go_wp2_with fail
    refine (clear_any g1 b1 _ _ w8 R8.out).mono ?_
    rintro e w9 ⟨rfl, hr, hb⟩
    have hln : (slides (List.replicate N 0) l).length = N := by rw [slides_length _ _ (by rw [List.length_replicate]; exact hN1), List.length_replicate]
    rw [hln] at hr
    have H9 := Lib.hid (H8.out.trans (hb.below G1.out.1 G1.out.2 H8.out.size))
    have R9 := Lib.hid hr
    clear hb hr H8 R8 hln
    go_wp2_with fail
    refine (new_any 17349423945073011#64 N w9 HM.out hN1 (by omega)).mono ?_
    rintro e w10 ⟨g3, b3, rfl, hg, hw, hr, hb⟩
    have G3 : Hid (w.heap.size ≤ g3 ∧ w.heap.size ≤ b3) := Lib.hid ⟨Nat.le_trans H9.out.size hg, Nat.le_trans H9.out.size hw⟩
    have GE : Hid (g3 ≠ g1 ∧ g3 ≠ b1 ∧ b3 ≠ g1 ∧ b3 ≠ b1) := Lib.hid (by have := R9.out.lt; exact ⟨by omega, by omega, by omega, by omega⟩)
    have H10 := Lib.hid (H9.out.trans (hb.mono H9.out.size))
    have R10 := Lib.hid (R9.out.below hb)
    have S10 := Lib.hid hr
    clear hb hr hg hw H9 R9
    go_wp2_with fail
    refine (sum_any g1 b1 _ _ w10 R10.out).mono ?_
    rintro e w11 ⟨rfl, rfl⟩
    rw [of_noughts _ HM.out, show U (0 : W) = 0 from rfl]
    go_wp2_with fail
    refine (push_any g1 b1 _ _ a l c w10 R10.out e5 (by omega) (H.out.off G1.out.1 G1.out.2 H10.out)).mono ?_
    rintro e w11 ⟨rfl, hr, hb⟩
    rw [HQ1.out]
    have H11 := Lib.hid (H10.out.trans (hb.below G1.out.1 G1.out.2 H10.out.size))
    have S11 := Lib.hid (S10.out.but hb GE.out.1 GE.out.2.1 GE.out.2.2.1 GE.out.2.2.2)
    clear hb hr H10 R10 S10
    go_wp2_with fail
    refine (push_any g3 b3 _ _ a l c w11 S11.out e5 (by omega) (H.out.off G3.out.1 G3.out.2 H11.out)).mono ?_
    rintro e w12 ⟨rfl, hr, hb⟩
    rw [HQ1.out]
    have H12 := Lib.hid (H11.out.trans (hb.below G3.out.1 G3.out.2 H11.out.size))
    clear hb hr
    have t1 : (U q1 == U q1) = true := by simp
    go_wp2_with fail
    go_ret
    exact ⟨rfl, H12.out⟩
namespace rollParts
open Go.ChangeShapes Go.WideShapes Go.ChangeAt Go.RowKit
set_option maxRecDepth 100000 in
theorem lifted (os : Os) (started : os.Started) (H : Type) (enc : TypeId × Value → H) :
    ReturnsInHanded {} Try.checked os 5 .any (Rows.rollPartsSpec.pre6 enc Try.prog Try.f5 Rows.rollPartsRow.domain false) (Rows.rollPartsSpec.post enc Try.prog Try.f5 false true false false) := by
  refine returnsInHanded_of_change (C := Try.checked) own started (by kernel_rfl) Try.func5
    (ChangeSpec.witness6 (enc := enc) (C := Try.checked) false ⟨#[], #[.int .i64 0, .slice none 0 0, .int .i64 0], []⟩ 8 (by kernel_rfl) (by kernel_rfl) (by kernel_rfl) (by kernel_rfl)) ?_
  intro W base args ds gs before hval0 hW hcnd _
  have hval : ∀ (j : Nat) t v, Try.f5.params[j]? = some t → args[j]? = some v → Value.okWide Try.prog W .any base t v := hval0
  have hW' := hW
  obtain ⟨p, q, hA0, hV, rfl, hfz, hnd⟩ := hW
  have hA : DataW.TrodAll enc Try.prog W 0 (fun _ => true) true Try.f5.params.toList args.toList ds p := hA0
  rw [Try.params5] at hA hval
  obtain ⟨v0, vs0, d0, ds0, p0, q0, hargs, rfl, rfl, h0, r0⟩ := trodAll_cons hA
  obtain ⟨v1, vs1, d1, ds1, p1, q1, rfl, rfl, rfl, h1, r1⟩ := trodAll_cons r0
  obtain ⟨v2, vs2, d2, ds2, p2, q2, rfl, rfl, rfl, h2, r2⟩ := trodAll_cons r1
  obtain ⟨rfl, rfl, rfl⟩ := trodAll_nil r2
  obtain rfl : args = #[v0, v1, v2] := by cases args; simp_all
  obtain ⟨rfl, rfl⟩ := trodVars_none hV
  obtain ⟨a0, rfl, rfl, rfl, w0⟩ := open_int Try.underlying3 (hval 0 3 v0 rfl rfl) h0
  obtain ⟨a1, l1, c1, rfl⟩ := okWide_slice Try.underlying23 (hval 1 23 v1 rfl rfl)
  have h1k := h1
  obtain ⟨n1, g1⟩ := h1
  obtain ⟨b1, k1, F1, e1, hF1, hin1, hz1⟩ := open_bytes (v := .slice a1 l1 c1) (by simpa [Value.cells] using g1)
  obtain ⟨a2, rfl, rfl, rfl, w2⟩ := open_int Try.underlying3 (hval 2 3 v2 rfl rfl) h2
  clear hA0 hval0
  simp only [List.append_nil, List.nil_append] at hW'
  have hlt : ∀ x ∈ p1, x.block < W.heap.size := fun x hx => hW'.lt x (by simpa using hx)
  rw [e1]
  refine (law_rollParts a0 b1 k1 F1 a2 W w0 hF1 hin1 hz1 w2).mono fun e W' ⟨he, hb⟩ => ?_
  rw [← e1]
  subst he
  refine ⟨_, rfl, [_, d1, _], [], p1, [], p1, [], by simpa using hW', ?_, ?_, ?_, hb.frame _, fun h => by cases h⟩
  · exact trodAll_cons_mk (shut_bool Try.underlying4 _) trodAll_mk0
  · have := (trodAll_cons_mk (shut_int Try.underlying3 w0) (trodAll_cons_mk (Below.trod laidOut (by kernel_rfl) (of_decide_eq_true (by kernel_rfl)) h1k hb (fun x hx => hlt x (by simp [hx]))) (trodAll_cons_mk (shut_int Try.underlying3 w2) trodAll_mk0)))
    simp only [List.append_nil, List.nil_append] at this
    exact this
  · rfl

theorem proved : Rows.RollPartsSaid :=
  OpenClaim.holds_of_wide 5 Try.f5 rfl rfl rfl rfl rfl rfl rfl ⟨rfl, rfl, rfl, rfl, rfl⟩ rfl rfl rfl rfl rfl (by kernel_rfl) Try.func5 (by kernel_rfl)
    (of_decide_eq_true (by kernel_rfl)) (by unfold Func.isWrapper; first | (rw [if_pos (by decide +kernel)]; kernel_rfl) | (rw [if_neg (by decide +kernel)]; exact ⟨rfl, rfl⟩))
    (fun os started H enc _ => lifted os started H enc)
end rollParts
end Go.Proofs.Ytiimblfmiiemgaa
