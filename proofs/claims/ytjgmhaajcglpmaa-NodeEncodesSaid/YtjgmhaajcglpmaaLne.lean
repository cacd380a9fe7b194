/- The law NodeEncodes: its walk. -/
import Derived.Test.YtjgmhaajcglpmaaNde
import Derived.Test.YtjgmhaajcglpmaaNs
namespace Go.Proofs.Ytjgmhaajcglpmaa
open Go.RowKit

theorem few_len (L : List Nd) : (fewL L).length ≤ 60 := Nat.le_trans (List.length_filter_le _ _) (by rw [List.length_take]; omega)
theorem few_mem {L : List Nd} {n : Nd} (h : n ∈ fewL L) : n.parts.length ≤ 300 ∧ n.target.length < 10000 := by
  have := (List.mem_filter.1 h).2
  simpa [fewOk] using this
theorem weight_le (M : Nat) : ∀ L : List Nd, (∀ n ∈ L, n.parts.length ≤ M) → weight L ≤ M * L.length
  | [], _ => by simp [weight]
  | n :: L, h => by
    have h1 := weight_le M L (fun m hm => h m (List.mem_cons_of_mem _ hm))
    have h2 := h n List.mem_cons_self
    simp only [weight, List.map_cons, List.sum_cons, List.length_cons, Nat.mul_succ] at *
    omega
theorem few_weight (L : List Nd) : weight (fewL L) ≤ 20000 := by
  have h1 := weight_le 300 (fewL L) (fun n hn => (few_mem hn).1)
  have h2 := few_len L
  omega
set_option maxRecDepth 100000 in
set_option maxHeartbeats 4000000 in
theorem law_nodeEncodes (a : Option Addr) (c : Nat) (L : List Nd) (w : World) (hlc : L.length ≤ c) (hc : c ≤ 9223372036854775807) (h : rowN w a L) :
    Calls Try.prog 4 #[.slice a L.length c] w fun e w' => e = .returned (.bool true) ∧ Below w.heap.size w w' := by
  have PF := Lib.hid (few_any a c L w (by omega) h)
  have HFL := few_len L
  have HFW := Lib.hid (few_weight L)
  have HFM : Hid (∀ n ∈ fewL L, n.parts.length * 32 ≤ 140737488355328) := Lib.hid (fun n hn => by have := (few_mem hn).1; omega)
  clear h
  go_enter Try.func4, Try.ntmps4
  go_wp2_with fail
  with_reducible refine PF.out.mono ?_
  rintro e w1 ⟨⟨v1, rfl, hv1⟩, b1⟩
  have B1 := Lib.hid b1
  clear b1 PF
  generalize fewL L = M at *
  obtain ⟨a1, c1, rfl, hlc1, hcc1, hz1, hr1⟩ := hv1.row
  have R1 := Lib.hid hr1
  clear hv1 hr1
  have PT := Lib.hid (to_any a1 c1 M w1 (by omega) HFM.out R1.out)
  go_wp2_with fail
  with_reducible refine PT.out.mono ?_
  rintro e w2 ⟨⟨v2, rfl, hv2⟩, b2⟩
  have B2 := Lib.hid (B1.out.trans (b2.mono B1.out.size))
  have R2 := Lib.hid (R1.out.below b2 (Nat.le_refl _))
  clear b2 PT B1 R1
  obtain ⟨a2, c2, rfl, hlc2, hcc2, hz2, hr2⟩ := hv2.row
  have S2 := Lib.hid hr2
  clear hv2 hr2
  have PD := Lib.hid (docEncode_any a1 c1 M w2 (by omega) HFW.out R2.out)
  go_wp2_with fail
  with_reducible refine PD.out.mono ?_
  rintro e w3 ⟨rfl, b3⟩
  have B3 := Lib.hid (B2.out.trans (b3.mono B2.out.size))
  have R3 := Lib.hid (R2.out.below b3 (Nat.le_refl _))
  have S3 := Lib.hid (S2.out.below b3 (Nat.le_refl _))
  clear b3 PD B2 R2 S2
  have PE := Lib.hid (encode_any a2 c2 M w3 (by omega) HFW.out S3.out)
  by_cases h0 : checkL M = 0
  · rw [if_pos h0]
    rw [h0] at PE
    rw [h0]
    clear h0
    go_wp2_with fail
    with_reducible refine PE.out.mono ?_
    rintro e w4 ⟨he, b4⟩
    obtain ⟨-, v, rfl, hrow⟩ := he.resolve_right (fun h => h.1 rfl)
    have B4 := Lib.hid (B3.out.trans (b4.mono B3.out.size))
    have R4 := Lib.hid (R3.out.below b4 (Nat.le_refl _))
    have S4 := Lib.hid (S3.out.below b4 (Nat.le_refl _))
    obtain ⟨va, vc, rfl, -, hin, -⟩ := hrow.bytes
    have IN4 := Lib.hid hin
    clear b4 PE B3 R3 S3 he hrow hin
    go_wp2_with fail
    with_reducible refine (nodes_any w4).mono ?_
    rintro e w5 ⟨rfl, b5⟩
    have B5 := Lib.hid (B4.out.trans (b5.mono B4.out.size))
    have R5 := Lib.hid (R4.out.below b5 (Nat.le_refl _))
    have S5 := Lib.hid (S4.out.below b5 (Nat.le_refl _))
    have cv := conv_string w5 va (encBytes M) vc (IN4.out.below b5 (Nat.le_refl _))
    clear b5 B4 R4 S4 IN4
    generalize encBytes M = X at *
    have hself : ((str X).toList == (str X).toList) = true := by simp
    have PFr := Lib.hid (from_any a2 c2 M w5 (by omega) S5.out)
    go_wp2_with fail
    with_reducible refine PFr.out.mono ?_
    rintro e w6 ⟨⟨v3, rfl, hv3⟩, b6⟩
    have B6 := Lib.hid (B5.out.trans (b6.mono B5.out.size))
    have R6 := Lib.hid (R5.out.below b6 (Nat.le_refl _))
    obtain ⟨a3, c3, rfl, -, -, -, hr3⟩ := hv3.row
    have PS := Lib.hid (same_any a3 a1 c3 c1 M w6 (by omega) hr3 R6.out)
    clear b6 B5 R5 S5 cv hv3 hr3 PFr
    go_wp2_with fail
    with_reducible refine PS.out.mono ?_
    rintro e w7 ⟨rfl, b7⟩
    have B7 := Lib.hid (B6.out.trans (b7.mono B6.out.size))
    clear b7
    go_wp2_with fail
    go_ret
    exact ⟨rfl, B7.out⟩
  · rw [if_neg h0]
    have HN := Lib.hid h0
    obtain ⟨C, hC⟩ : ∃ C, C = checkL M := ⟨_, rfl⟩
    rw [← hC] at PE HN ⊢
    clear hC h0
    go_wp2_with fail
    with_reducible refine PE.out.mono ?_
    rintro e w4 ⟨he, b4⟩
    obtain ⟨-, rfl⟩ := he.resolve_left (fun h => HN.out h.1)
    have B4 := Lib.hid (B3.out.trans (b4.mono B3.out.size))
    have R4 := Lib.hid (R3.out.below b4 (Nat.le_refl _))
    have S4 := Lib.hid (S3.out.below b4 (Nat.le_refl _))
    clear b4 PE B3 R3 S3 he
    go_wp2_with fail
    with_reducible refine (nodes_any w4).mono ?_
    rintro e w5 ⟨rfl, b5⟩
    have B5 := Lib.hid (B4.out.trans (b5.mono B4.out.size))
    have R5 := Lib.hid (R4.out.below b5 (Nat.le_refl _))
    have S5 := Lib.hid (S4.out.below b5 (Nat.le_refl _))
    have cv : (convert 40 9 (.slice none 0 0)).run Try.prog w5 = .ok (.string (str [])) w5 := conv_string w5 none [] 0 (Or.inl rfl)
    clear b5 B4 R4 S4
    have hself : ((str []).toList == (str []).toList) = true := by simp
    have PFr := Lib.hid (from_any a2 c2 M w5 (by omega) S5.out)
    have hse : (C == C) = true := by simp
    go_wp2_with fail
    with_reducible refine PFr.out.mono ?_
    rintro e w6 ⟨⟨v3, rfl, hv3⟩, b6⟩
    have B6 := Lib.hid (B5.out.trans (b6.mono B5.out.size))
    have R6 := Lib.hid (R5.out.below b6 (Nat.le_refl _))
    obtain ⟨a3, c3, rfl, -, -, -, hr3⟩ := hv3.row
    have PS := Lib.hid (same_any a3 a1 c3 c1 M w6 (by omega) hr3 R6.out)
    clear b6 B5 R5 S5 cv hv3 hr3 PFr
    go_wp2_with fail
    with_reducible refine PS.out.mono ?_
    rintro e w7 ⟨rfl, b7⟩
    have B7 := Lib.hid (B6.out.trans (b7.mono B6.out.size))
    clear b7
    go_wp2_with fail
    go_ret
    exact ⟨rfl, B7.out⟩
end Go.Proofs.Ytjgmhaajcglpmaa
