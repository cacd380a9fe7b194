/- RollOf: for every polynomial and all bytes the law returns true, and its arguments read as before. No condition. -/
import Derived.Test.YtiimblfmiiemgaaRow
namespace Go.Proofs.Ytiimblfmiiemgaa
open Go.RowKit

set_option maxRecDepth 100000 in
set_option maxHeartbeats 2000000 in
theorem law_rollOf (m : W) (a : Option Addr) (c : Nat) (L : List UInt8) (w : World) (hl : L.length ≤ c) (hin : bytesIn w a L) (hz : a = none → c = 0) :
    Calls Try.prog 3 #[.int .u64 (U m), .slice a L.length c] w fun e w' => e = .returned (.bool true) ∧ Below w.heap.size w w' := by
  have H := Lib.hid (hin.take 2000)
  have HZ := Lib.hid hz
  clear hin hz
  go_enter Try.func3, Try.ntmps3
  go_wp2_with fail
  have e2 : (min (L.length : Int) 2000).toNat = (L.take 2000).length := by rw [List.length_take]; omega
  have e4 : (L.take 2000).length ≤ 2000 := by rw [List.length_take]; omega
  have e5 : (L.take 2000).length ≤ c := by rw [List.length_take]; omega
  rw [e2]
  clear e2
  generalize min (L.length : Int) 2000 = z at *
  generalize L.take 2000 = l at *
  by_cases hm : 8 ≤ dgw m
  · have HM := Lib.hid hm
    have HE : Hid (ofW m (0 :: 0 :: l) = ofW m l) := Lib.hid (of_zeros m hm 2 l)
    clear hm
    refine (of_any m a l c w HM.out e5 (by omega) H.out).mono ?_
    rintro e w1 ⟨rfl, hb⟩
    have H1 := Lib.hid hb
    have I1 := Lib.hid (H.out.below hb (Nat.le_refl _))
    clear hb
    go_wp2_with fail
    refine (doc_any m a l c w1 HM.out e5 (by omega) I1.out).mono ?_
    rintro e w2 ⟨rfl, hb⟩
    have H2 := Lib.hid (H1.out.trans (hb.mono H1.out.size))
    have I2 := Lib.hid (I1.out.below hb (Nat.le_refl _))
    clear hb H1 I1
    go_wp2_with (at_builtin; refine append_bytes rfl _ _ rfl w.heap.size _ [0, 0] rfl (rowIs.lit w2 w.heap.size [0, 0] _ rfl 2 rfl H2.out.size (by decide)) a l.length c l rfl rfl HZ.out (I2.out.below ((Below.refl _ _).alloc (Nat.le_refl _) _) (Nat.le_refl _)) (by simp; omega) (by have := H2.out.size; simp; omega) ?_)
    intro v' w3 hown hgrow
    have H3 := Lib.hid (own_below (H2.out.alloc H2.out.size _) (rowIs.lit w2 w.heap.size [0, 0] _ rfl 2 rfl H2.out.size (by decide)) hgrow (by have := H2.out.size; simp; omega))
    obtain ⟨a3, c3, rfl, h5, h6, h7⟩ := hown.bytes
    have I3 := Lib.hid h6
    have L3 := Lib.hid h5
    have HLN : Hid ((0 :: 0 :: l).length ≤ 2002) := Lib.hid (by simp; omega)
    clear hown hgrow h5 h6 h7
    generalize 0 :: 0 :: l = zl at *
    go_wp2_with fail
    refine (of_any m a3 zl c3 w3 HM.out L3.out (by have := HLN.out; omega) I3.out).mono ?_
    rintro e w4 ⟨rfl, hb⟩
    have H4 := Lib.hid (H3.out.trans (hb.mono H3.out.size))
    clear hb H3 I3
    rw [HE.out]
    generalize ofW m l = s at *
    have t1 : (U s == U s) = true := by simp
    go_wp2_with fail
    refine (rolls_any _).mono ?_
    rintro e w5 ⟨rfl, hb⟩
    have H5 := Lib.hid (H4.out.trans (hb.mono H4.out.size))
    clear hb H4
    go_wp2_with fail
    go_ret
    exact ⟨rfl, H5.out⟩
  · have HM := Lib.hid hm
    clear hm
    refine (of_bad m a l.length c w (by have := HM.out; omega)).mono ?_
    rintro e w1 ⟨rfl, rfl⟩
    go_wp2_with fail
    refine (doc_bad m a l.length c w (by have := HM.out; omega)).mono ?_
    rintro e w2 ⟨rfl, hb⟩
    have H2 := Lib.hid hb
    have I2 := Lib.hid (H.out.below hb (Nat.le_refl _))
    clear hb
    go_wp2_with (at_builtin; refine append_bytes rfl _ _ rfl w.heap.size _ [0, 0] rfl (rowIs.lit w2 w.heap.size [0, 0] _ rfl 2 rfl H2.out.size (by decide)) a l.length c l rfl rfl HZ.out (I2.out.below ((Below.refl _ _).alloc (Nat.le_refl _) _) (Nat.le_refl _)) (by simp; omega) (by have := H2.out.size; simp; omega) ?_)
    intro v' w3 hown hgrow
    have H3 := Lib.hid (own_below (H2.out.alloc H2.out.size _) (rowIs.lit w2 w.heap.size [0, 0] _ rfl 2 rfl H2.out.size (by decide)) hgrow (by have := H2.out.size; simp; omega))
    obtain ⟨a3, c3, rfl, h5, h6, h7⟩ := hown.bytes
    clear hown hgrow h5 h6 h7
    generalize 0 :: 0 :: l = zl at *
    go_wp2_with fail
    refine (of_bad m a3 zl.length c3 w3 (by have := HM.out; omega)).mono ?_
    rintro e w4 ⟨rfl, rfl⟩
    go_wp2_with fail
    refine (rolls_any _).mono ?_
    rintro e w5 ⟨rfl, hb⟩
    have H5 := Lib.hid (H3.out.trans (hb.mono H3.out.size))
    clear hb
    go_wp2_with fail
    go_ret
    exact ⟨rfl, H5.out⟩

namespace rollOf
open Go.ChangeShapes Go.WideShapes Go.ChangeAt Go.RowKit
set_option maxRecDepth 100000 in
theorem lifted (os : Os) (started : os.Started) (H : Type) (enc : TypeId × Value → H) :
    ReturnsInHanded {} Try.checked os 3 .any (Rows.rollOfSpec.pre6 enc Try.prog Try.f3 Rows.rollOfRow.domain false) (Rows.rollOfSpec.post enc Try.prog Try.f3 false true false false) := by
  refine returnsInHanded_of_change (C := Try.checked) own started (by kernel_rfl) Try.func3
    (ChangeSpec.witness6 (enc := enc) (C := Try.checked) false ⟨#[], #[.int .u64 0, .slice none 0 0], []⟩ 8 (by kernel_rfl) (by kernel_rfl) (by kernel_rfl) (by kernel_rfl)) ?_
  intro W base args ds gs before hval0 hW hcnd _
  have hval : ∀ (j : Nat) t v, Try.f3.params[j]? = some t → args[j]? = some v → Value.okWide Try.prog W .any base t v := hval0
  have hW' := hW
  obtain ⟨p, q, hA0, hV, rfl, hfz, hnd⟩ := hW
  have hA : DataW.TrodAll enc Try.prog W 0 (fun _ => true) true Try.f3.params.toList args.toList ds p := hA0
  rw [Try.params3] at hA hval
  obtain ⟨v0, vs0, d0, ds0, p0, q0, hargs, rfl, rfl, h0, r0⟩ := trodAll_cons hA
  obtain ⟨v1, vs1, d1, ds1, p1, q1, rfl, rfl, rfl, h1, r1⟩ := trodAll_cons r0
  obtain ⟨rfl, rfl, rfl⟩ := trodAll_nil r1
  obtain rfl : args = #[v0, v1] := by cases args; simp_all
  obtain ⟨rfl, rfl⟩ := trodVars_none hV
  obtain ⟨a0, rfl, rfl, rfl, w0⟩ := open_int Try.underlying22 (hval 0 22 v0 rfl rfl) h0
  obtain ⟨x0, rfl⟩ := word_of a0 w0
  obtain ⟨a1, l1, c1, rfl⟩ := okWide_slice Try.underlying23 (hval 1 23 v1 rfl rfl)
  have h1k := h1
  obtain ⟨n1, g1⟩ := h1
  obtain ⟨b1, k1, F1, e1, hF1, hin1, hz1⟩ := open_bytes (v := .slice a1 l1 c1) (by simpa [Value.cells] using g1)
  clear hA0 hval0
  simp only [List.append_nil, List.nil_append] at hW'
  have hlt : ∀ x ∈ p1, x.block < W.heap.size := fun x hx => hW'.lt x (by simpa using hx)
  rw [e1]
  refine (law_rollOf x0 b1 k1 F1 W hF1 hin1 hz1).mono fun e W' ⟨he, hb⟩ => ?_
  rw [← e1]
  subst he
  refine ⟨_, rfl, [_, d1], [], p1, [], p1, [], by simpa using hW', ?_, ?_, ?_, hb.frame _, fun h => by cases h⟩
  · exact trodAll_cons_mk (shut_bool Try.underlying4 _) trodAll_mk0
  · have := (trodAll_cons_mk (shut_int Try.underlying22 w0) (trodAll_cons_mk (Below.trod laidOut (by kernel_rfl) (of_decide_eq_true (by kernel_rfl)) h1k hb (fun x hx => hlt x (by simp [hx]))) trodAll_mk0))
    simp only [List.append_nil, List.nil_append] at this
    exact this
  · rfl

theorem proved : Rows.RollOfSaid :=
  OpenClaim.holds_of_wide 3 Try.f3 rfl rfl rfl rfl rfl rfl rfl ⟨rfl, rfl, rfl, rfl, rfl⟩ rfl rfl rfl rfl rfl (by kernel_rfl) Try.func3 (by kernel_rfl)
    (of_decide_eq_true (by kernel_rfl)) (by unfold Func.isWrapper; first | (rw [if_pos (by decide +kernel)]; kernel_rfl) | (rw [if_neg (by decide +kernel)]; exact ⟨rfl, rfl⟩))
    (fun os started H enc _ => lifted os started H enc)
end rollOf
end Go.Proofs.Ytiimblfmiiemgaa
