/- The law NodeDecodes: its walk. -/
import Derived.Test.YtjgmhaajcglpmaaDdc
import Derived.Test.YtjgmhaajcglpmaaNs
namespace Go.Proofs.Ytjgmhaajcglpmaa
open Go.RowKit

set_option maxRecDepth 100000 in
set_option maxHeartbeats 8000000 in
theorem law_nodeDecodes (a : Option Addr) (c : Nat) (L : List UInt8) (w : World) (hlc : L.length ≤ c) (hc : c ≤ 9223372036854775807) (hz : a = none → c = 0) (h : bytesIn w a L) :
    Calls Try.prog 5 #[.slice a L.length c] w fun e w' => e = .returned (.bool true) ∧ Below w.heap.size w w' := by
  have HIN := Lib.hid h
  have HZ := Lib.hid hz
  clear h hz
  by_cases hbig : 5000 < L.length
  · have qb : (5000 : Int) < (L.length : Int) := by omega
    have PNO := nodes_any w
    go_enter Try.func5, Try.ntmps5
    go_wp2_with fail
    with_reducible refine PNO.mono ?_
    rintro e w1 ⟨rfl, b1⟩
    go_wp2_with fail
    go_ret
    exact ⟨rfl, b1⟩
  · have qb : ¬ (5000 : Int) < (L.length : Int) := by omega
    have cv := conv_string w a L c HIN.out
    have PD := docDecode_any L w (by omega)
    go_enter Try.func5, Try.ntmps5
    go_wp2_with fail
    with_reducible refine PD.mono ?_
    clear PD cv
    rintro e w1 ⟨hd, b1⟩
    have B1 := Lib.hid b1
    have IN1 := Lib.hid (HIN.out.below b1 (Nat.le_refl _))
    have PE := decode_any a c L w1 hlc hc HZ.out IN1.out (by omega)
    clear b1 HIN
    rcases hd with ⟨v1, Q1, rfl, hdi, hA1⟩ | ⟨rfl, hno⟩
    · go_wp2_with fail
      with_reducible refine PE.mono ?_
      clear PE
      rintro e w2 ⟨he, b2⟩
      obtain ⟨v2, Q2, rfl, hdj, hA2⟩ := he.resolve_right (fun h => h.2 _ hdi)
      have hS := hdj.det hdi
      have hdl := hdi.shape
      obtain ⟨S, hSS⟩ : ∃ S, S = Q1.map Prod.fst := ⟨_, rfl⟩
      rw [← hSS] at hdi hS hdl
      obtain ⟨a1, c1, rfl, p1, p2, p3, p4⟩ := (hA1.below b2).slice
      obtain ⟨a2, c2, rfl, r1, r2, r3, r4⟩ := hA2.slice
      have h1 : Q1.length = S.length := by rw [hSS, List.length_map]
      have h2 : Q2.length = S.length := by rw [← hS, List.length_map]
      rw [← hSS] at p4
      rw [hS] at r4
      rw [h1, h2]
      have R1 := Lib.hid p4
      have R2 := Lib.hid r4
      have HDI := Lib.hid hdi
      have HSL : S.length ≤ 2000 := hdl.1
      have HWT : Hid (weight S ≤ 20000) := Lib.hid (by
        have h3 := weight_flat S hdl.2
        have h4 := congrArg List.length hdi.2.2
        unfold encBytes at h4
        simp only [List.length_append] at h4
        omega)
      have B2 := Lib.hid (B1.out.trans (b2.mono B1.out.size))
      have IN2 := Lib.hid (IN1.out.below b2 (Nat.le_refl _))
      clear he hdj hA2 hA1 hdi hS hdl hSS p4 r4 p1 p2 p3 r1 r2 r3 h1 h2 b2 B1 IN1 Q1 Q2
      have PNO := nodes_any w2
      go_wp2_with fail
      with_reducible refine PNO.mono ?_
      clear PNO
      rintro e w3 ⟨rfl, b3⟩
      have B3 := Lib.hid (B2.out.trans (b3.mono B2.out.size))
      have IN3 := Lib.hid (IN2.out.below b3 (Nat.le_refl _))
      have R3 := Lib.hid (R1.out.below b3 (Nat.le_refl _))
      have M3 := Lib.hid (R2.out.below b3 (Nat.le_refl _))
      clear b3 B2 IN2 R1 R2
      have PFR := from_any a2 c2 S w3 (by omega) M3.out
      go_wp2_with fail
      with_reducible refine PFR.mono ?_
      clear PFR
      rintro e w4 ⟨⟨v4, rfl, hv4⟩, b4⟩
      obtain ⟨a4, c4, rfl, -, -, -, hr4⟩ := hv4.row
      have B4 := Lib.hid (B3.out.trans (b4.mono B3.out.size))
      have IN4 := Lib.hid (IN3.out.below b4 (Nat.le_refl _))
      have R4 := Lib.hid (R3.out.below b4 (Nat.le_refl _))
      have M4 := Lib.hid (M3.out.below b4 (Nat.le_refl _))
      have PSA := same_any a1 a4 c1 c4 S w4 (by omega) R4.out hr4
      clear b4 B3 IN3 R3 M3 hv4 hr4
      go_wp2_with fail
      with_reducible refine PSA.mono ?_
      clear PSA
      rintro e w5 ⟨rfl, b5⟩
      have B5 := Lib.hid (B4.out.trans (b5.mono B4.out.size))
      have IN5 := Lib.hid (IN4.out.below b5 (Nat.le_refl _))
      have M5 := Lib.hid (M4.out.below b5 (Nat.le_refl _))
      have PEN := encode_any a2 c2 S w5 (by omega) HWT.out M5.out
      clear b5 B4 IN4 R4 M4
      go_wp2_with fail
      with_reducible refine PEN.mono ?_
      clear PEN
      rintro e w6 ⟨he, b6⟩
      obtain ⟨-, v6, rfl, hrow⟩ := he.resolve_right (fun h => h.1 HDI.out.1)
      rw [← HDI.out.2.2] at hrow
      obtain ⟨va, vc, rfl, -, hin6, -⟩ := hrow.bytes
      have cv1 := conv_string w6 va L vc hin6
      have cv2 := conv_string w6 a L c (IN5.out.below b6 (Nat.le_refl _))
      have B6 := Lib.hid (B5.out.trans (b6.mono B5.out.size))
      have hself : ((str L).toList == (str L).toList) = true := by simp
      clear he hrow hin6 b6 B5 IN5 M5
      go_wp2_with fail
      go_ret
      exact ⟨rfl, B6.out⟩
    · have HNO := Lib.hid hno
      clear hno
      go_wp2_with fail
      with_reducible refine PE.mono ?_
      clear PE
      rintro e w2 ⟨he, b2⟩
      obtain ⟨rfl, -⟩ := he.resolve_left (fun ⟨_, Q, _, h, _⟩ => HNO.out _ h)
      have B2 := Lib.hid (B1.out.trans (b2.mono B1.out.size))
      clear he b2 B1 IN1
      have PNO := nodes_any w2
      go_wp2_with fail
      with_reducible refine PNO.mono ?_
      clear PNO
      rintro e w3 ⟨rfl, b3⟩
      have B3 := Lib.hid (B2.out.trans (b3.mono B2.out.size))
      have PFR : Calls Try.prog 20 #[.slice none 0 0] w3 fun e w' => (∃ v, e = .returned v ∧ ownN w' w3.heap.size 26 v []) ∧ Below w3.heap.size w3 w' := from_any none 0 [] w3 (by simp) (Or.inl rfl)
      clear b3 B2
      go_wp2_with fail
      with_reducible refine PFR.mono ?_
      clear PFR
      rintro e w4 ⟨⟨v4, rfl, hv4⟩, b4⟩
      obtain ⟨a4, c4, e4, -, -, -, hr4⟩ := hv4.row
      have e4 : v4 = .slice a4 0 c4 := e4
      subst e4
      have B4 := Lib.hid (B3.out.trans (b4.mono B3.out.size))
      have PSA : Calls Try.prog 19 #[.slice none 0 0, .slice a4 0 c4] w4 fun e w' => e = .returned (.bool true) ∧ Below w4.heap.size w4 w' := same_any none a4 0 c4 [] w4 (by simp) (Or.inl rfl) hr4
      clear b4 B3 hv4 hr4
      go_wp2_with fail
      with_reducible refine PSA.mono ?_
      clear PSA
      rintro e w5 ⟨rfl, b5⟩
      have B5 := Lib.hid (B4.out.trans (b5.mono B4.out.size))
      clear b5
      go_wp2_with fail
      go_ret
      exact ⟨rfl, B5.out⟩
end Go.Proofs.Ytjgmhaajcglpmaa
