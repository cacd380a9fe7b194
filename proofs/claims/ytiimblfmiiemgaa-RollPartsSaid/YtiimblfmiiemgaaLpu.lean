/- RollPushes: for every polynomial, every window and all bytes the law returns true, and its arguments read as before. No condition. -/
import Derived.Test.YtiimblfmiiemgaaPush
namespace Go.Proofs.Ytiimblfmiiemgaa
open Go.RowKit

theorem rollIs.below {w w' : World} {g b : Nat} {m : W} {L : List UInt8} (h : rollIs w g b m L) (hb : Below w.heap.size w w') : rollIs w' g b m L := by
  obtain ⟨ld, p, rg, hr⟩ := h
  exact ⟨ld, p, rg, hr.below hb⟩
theorem rollIs.lt {w : World} {g b : Nat} {m : W} {L : List UInt8} (h : rollIs w g b m L) : g < w.heap.size ∧ b < w.heap.size := by
  obtain ⟨ld, p, rg, hr⟩ := h
  exact ⟨hr.cells.lt, hr.bytes.lt⟩
theorem none_any (w : World) : Calls Try.prog 12 #[] w fun e w' => e = .returned (.pointer none) ∧ w = w' := by
  go_enter Try.func12, Try.ntmps12
  go_wp2_with fail
  go_ret
  exact ⟨rfl, rfl⟩
set_option maxRecDepth 100000 in
set_option maxHeartbeats 4000000 in
theorem law_rollPushes (m : W) (n : Int) (a : Option Addr) (c : Nat) (L : List UInt8) (w : World) (hn : (Lit.int .i64 n).wf = true) (hl : L.length ≤ c) (hin : bytesIn w a L) (hz : a = none → c = 0) :
    Calls Try.prog 4 #[.int .u64 (U m), .int .i64 n, .slice a L.length c] w fun e w' => e = .returned (.bool true) ∧ Below w.heap.size w w' := by
  have H := Lib.hid (hin.take 150)
  have HZ := Lib.hid hz
  have HN := Lib.hid hn
  clear hin hz hn
  go_enter Try.func4, Try.ntmps4
  go_wp2_with fail
  refine (rolls_any _).mono ?_
  rintro e w1 ⟨rfl, hb⟩
  have H1 := Lib.hid hb
  clear hb
  go_wp2_with (first | ((with_reducible refine (none_any _).mono ?_); rintro e w' ⟨rfl, rfl⟩) | ((with_reducible refine (push_none _ _ _ _).mono ?_); rintro e w' ⟨rfl, rfl⟩) | ((with_reducible refine (sum_none _).mono ?_); rintro e w' ⟨rfl, rfl⟩) | ((with_reducible refine (clear_none _).mono ?_); rintro e w' ⟨rfl, rfl⟩))
  have H2 := Lib.hid (H1.out.alloc H1.out.size (.cells #[.int .u8 5] 5 (0, 0)))
  generalize w1.alloc (.cells #[.int .u8 5] 5 (0, 0)) = w2 at *
  clear H1
  by_cases hok : 8 ≤ dgw m ∧ 1 ≤ n ∧ n ≤ 1024
  · obtain ⟨hm, hn1, hn2⟩ := hok
    obtain ⟨N, rfl⟩ : ∃ N : Nat, n = (N : Int) := ⟨n.toNat, by omega⟩
    have HM := Lib.hid hm
    have t1 : decide (8 ≤ dgw m) = true := by simpa using hm
    have t2 : decide ((N : Int) < 1) = false := by simp; omega
    have t3 : decide (1024 < (N : Int)) = false := by simp; omega
    have hN1 : 1 ≤ N := by omega
    have hN2 : N ≤ 1024 := by omega
    clear hm
    refine (new_any m N w2 HM.out hN1 hN2).mono ?_
    rintro e w3 ⟨g, wb, rfl, hg, hw, hr, hb⟩
    have G0 : Hid (w.heap.size ≤ g ∧ w.heap.size ≤ wb) := Lib.hid ⟨Nat.le_trans H2.out.size hg, Nat.le_trans H2.out.size hw⟩
    have H3 := Lib.hid (H2.out.trans (hb.mono H2.out.size))
    have R3 := Lib.hid hr
    clear hb hr hg hw H2
    go_wp2_with fail
    refine (right_any _ _).mono ?_
    rintro e w4 ⟨rfl, hb⟩
    have H4 := Lib.hid (H3.out.trans (hb.mono H3.out.size))
    have R4 := Lib.hid (R3.out.below hb)
    clear hb H3 R3
    go_wp2_with fail
    refine (sum_any g wb m _ w4 R4.out).mono ?_
    rintro e w5 ⟨rfl, rfl⟩
    rw [of_noughts m HM.out, show U (0 : W) = 0 from rfl]
    go_wp2_with fail
    have e2 : (min (L.length : Int) 150).toNat = (L.take 150).length := by rw [List.length_take]; omega
    have e4 : (L.take 150).length ≤ 150 := by rw [List.length_take]; omega
    have e5 : (L.take 150).length ≤ c := by rw [List.length_take]; omega
    rw [e2]
    clear e2
    generalize min (L.length : Int) 150 = z at *
    generalize L.take 150 = l at *
    have I4 := Lib.hid (H.out.below H4.out (Nat.le_refl _))
    go_loopw [9] (fun i wr => ∃ k : Nat, k ≤ l.length ∧ i = .int .i64 k ∧ Hid (rollIs wr g wb m (slides (List.replicate N 0) (l.take k))) ∧ Hid (Below w.heap.size w wr)) (fun i _ => l.length - (intOf i).toNat)
    case atStart => exact ⟨0, Nat.zero_le _, rfl, R4, H4⟩
    case round =>
      obtain ⟨k, hk, rfl, K1, K2⟩ := hrel
      have p0 : 0 ≤ (k : Int) := by omega
      by_cases hlt : k < l.length
      · have q0 : (k : Int) < (l.length : Int) := by omega
        have q1 : (l.length : Int) ≤ 150 := by omega
        rcases (H.out.below K2.out (Nat.le_refl _)) with h0 | ⟨bb, bo, rfl, hcell⟩
        · rw [h0] at hlt; simp at hlt
        have HC := Lib.hid hcell
        clear hcell
        have hmx : max ((k : Int) + 1 - (N : Int)) 0 = ((k + 1 - N : Nat) : Int) := by omega
        have hmy : max 0 ((k : Int) + 1 - (N : Int)) = ((k + 1 - N : Nat) : Int) := by omega
        have HF : Hid (k + 1 - N ≤ k) := Lib.hid (by omega)
        go_wp2_with fail
        have hwl : k + 1 - (k + 1 - N) = ((l.take (k + 1)).drop (k + 1 - N)).length := by rw [List.length_drop, List.length_take]; omega
        have HW : Hid (bytesIn wr (some ⟨bb, bo + (k + 1 - N), none⟩) ((l.take (k + 1)).drop (k + 1 - N))) := Lib.hid (Or.inr ⟨bb, bo + (k + 1 - N), rfl, fun j hj => by
          rw [← hwl] at hj
          have e := HC.out (k + 1 - N + j) (by omega)
          rw [← Nat.add_assoc] at e
          rw [e, List.getD_eq_getElem?_getD, List.getD_eq_getElem?_getD, List.getElem?_drop, List.getElem?_take, if_pos (by omega)]⟩)
        have HV : Hid (ofW m (slides (List.replicate N 0) (l.take (k + 1))) = ofW m ((l.take (k + 1)).drop (k + 1 - N))) := Lib.hid (by
          rw [slides_new m HM.out N hN1, List.length_take, Nat.min_eq_left (by omega)])
        have hwl2 : ((l.take (k + 1)).drop (k + 1 - N)).length ≤ c - (k + 1 - N) := by rw [← hwl]; omega
        have hwl3 : ((l.take (k + 1)).drop (k + 1 - N)).length ≤ 1000000 := by rw [← hwl]; omega
        rw [hwl]
        clear hwl
        generalize (l.take (k + 1)).drop (k + 1 - N) = wl at *
        generalize k + 1 - N = F at *
        refine (doc_any m _ wl _ wr HM.out hwl2 hwl3 HW.out).mono ?_
        rintro e w5 ⟨rfl, hb⟩
        have L1 := Lib.hid (K1.out.below hb)
        have L2 := Lib.hid (K2.out.trans (hb.mono K2.out.size))
        have d : w5.cell? ⟨bb, bo + k, none⟩ = some (.int .u8 (V (l.getD k 0))) := by
          have e := HC.out k hlt
          rw [← e]
          exact hb.cell (p := ⟨bb, bo + k, none⟩) (block_lt_of_cell e)
        have HT := Lib.hid (slides_take (List.replicate N 0) l k hlt)
        clear hb K1 K2 HW hwl2 hwl3
        generalize l.getD k 0 = x at *
        go_wp2_with fail
        have LA := Lib.hid (L1.out.below ((Below.refl w5.heap.size w5).alloc (Nat.le_refl _) (.cells #[.int .u8 (V x)] 5 (0, 0))))
        have L3 := Lib.hid (L2.out.alloc L2.out.size (.cells #[.int .u8 (V x)] 5 (0, 0)))
        have LO : Hid (bytesOff (w5.alloc (.cells #[.int .u8 (V x)] 5 (0, 0))) g wb (some ⟨w5.heap.size, 0, none⟩) [x]) := Lib.hid (Or.inr ⟨w5.heap.size, 0, rfl, by have := L1.out.lt; omega, by have := L1.out.lt; omega, fun j hj => by
          match j, hj with
          | 0, _ => exact (World.cell?_alloc_at (w := w5) #[.int .u8 (V x)] 5 _ 0 rfl).trans rfl⟩)
        clear L1 L2
        refine (push_any g wb m _ _ [x] 1 _ LA.out (Nat.le_refl 1) (by simp) LO.out).mono ?_
        rintro e w6 ⟨rfl, hr, hb⟩
        have hsl : slides (slides (List.replicate N 0) (l.take k)) [x] = slides (List.replicate N 0) (l.take (k + 1)) := by rw [HT.out]; rfl
        rw [hsl] at hr ⊢
        have M1 := Lib.hid hr
        have M2 := Lib.hid (L3.out.trans (hb.below G0.out.1 G0.out.2 L3.out.size))
        clear hr hb hsl LA LO L3
        rw [HV.out]
        generalize hS : ofW m wl = S at *
        have HS := Lib.hid hS
        clear hS
        have t7 : (U S == U S) = true := by simp
        go_wp2_with fail
        refine (sum_any g wb m _ _ M1.out).mono ?_
        rintro e w7 ⟨rfl, rfl⟩
        rw [HV.out]
        go_wp2_with fail
        go_roundw
        case rel => exact ⟨k + 1, by omega, by go_num, M1, M2⟩
        case measure => simp [intOf]; omega
      · obtain rfl : k = l.length := by omega
        go_wp2_with fail
        go_ret
        exact ⟨rfl, K2.out⟩
  · refine (new_bad m n w2 hok).mono ?_
    rintro e w3 ⟨rfl, rfl⟩
    go_wp2_with fail
    refine (right_any _ _).mono ?_
    rintro e w4 ⟨rfl, hb⟩
    have H4 := Lib.hid (H2.out.trans (hb.mono H2.out.size))
    clear hb
    by_cases h1 : 8 ≤ dgw m
    · have t1 : decide (8 ≤ dgw m) = true := by simpa using h1
      by_cases h2 : n < 1
      · have t2 : decide (n < 1) = true := by simpa using h2
        clear hok h1 h2
        go_wp2_with fail
        go_ret
        exact ⟨rfl, H4.out⟩
      · have t2 : decide (n < 1) = false := by simpa using h2
        have t3 : decide (1024 < n) = true := by simp; omega
        clear hok h1 h2
        go_wp2_with fail
        go_ret
        exact ⟨rfl, H4.out⟩
    · have t1 : decide (8 ≤ dgw m) = false := by simpa using h1
      clear hok h1
      go_wp2_with fail
      go_ret
      exact ⟨rfl, H4.out⟩
namespace rollPushes
open Go.ChangeShapes Go.WideShapes Go.ChangeAt Go.RowKit
set_option maxRecDepth 100000 in
theorem lifted (os : Os) (started : os.Started) (H : Type) (enc : TypeId × Value → H) :
    ReturnsInHanded {} Try.checked os 4 .any (Rows.rollPushesSpec.pre6 enc Try.prog Try.f4 Rows.rollPushesRow.domain false) (Rows.rollPushesSpec.post enc Try.prog Try.f4 false true false false) := by
  refine returnsInHanded_of_change (C := Try.checked) own started (by kernel_rfl) Try.func4
    (ChangeSpec.witness6 (enc := enc) (C := Try.checked) false ⟨#[], #[.int .u64 0, .int .i64 0, .slice none 0 0], []⟩ 8 (by kernel_rfl) (by kernel_rfl) (by kernel_rfl) (by kernel_rfl)) ?_
  intro W base args ds gs before hval0 hW hcnd _
  have hval : ∀ (j : Nat) t v, Try.f4.params[j]? = some t → args[j]? = some v → Value.okWide Try.prog W .any base t v := hval0
  have hW' := hW
  obtain ⟨p, q, hA0, hV, rfl, hfz, hnd⟩ := hW
  have hA : DataW.TrodAll enc Try.prog W 0 (fun _ => true) true Try.f4.params.toList args.toList ds p := hA0
  rw [Try.params4] at hA hval
  obtain ⟨v0, vs0, d0, ds0, p0, q0, hargs, rfl, rfl, h0, r0⟩ := trodAll_cons hA
  obtain ⟨v1, vs1, d1, ds1, p1, q1, rfl, rfl, rfl, h1, r1⟩ := trodAll_cons r0
  obtain ⟨v2, vs2, d2, ds2, p2, q2, rfl, rfl, rfl, h2, r2⟩ := trodAll_cons r1
  obtain ⟨rfl, rfl, rfl⟩ := trodAll_nil r2
  obtain rfl : args = #[v0, v1, v2] := by cases args; simp_all
  obtain ⟨rfl, rfl⟩ := trodVars_none hV
  obtain ⟨a0, rfl, rfl, rfl, w0⟩ := open_int Try.underlying22 (hval 0 22 v0 rfl rfl) h0
  obtain ⟨x0, rfl⟩ := word_of a0 w0
  obtain ⟨a1, rfl, rfl, rfl, w1⟩ := open_int Try.underlying3 (hval 1 3 v1 rfl rfl) h1
  obtain ⟨a2, l2, c2, rfl⟩ := okWide_slice Try.underlying23 (hval 2 23 v2 rfl rfl)
  have h2k := h2
  obtain ⟨n2, g2⟩ := h2
  obtain ⟨b2, k2, F2, e2, hF2, hin2, hz2⟩ := open_bytes (v := .slice a2 l2 c2) (by simpa [Value.cells] using g2)
  clear hA0 hval0
  simp only [List.append_nil, List.nil_append] at hW'
  have hlt : ∀ x ∈ p2, x.block < W.heap.size := fun x hx => hW'.lt x (by simpa using hx)
  rw [e2]
  refine (law_rollPushes x0 a1 b2 k2 F2 W w1 hF2 hin2 hz2).mono fun e W' ⟨he, hb⟩ => ?_
  rw [← e2]
  subst he
  refine ⟨_, rfl, [_, _, d2], [], p2, [], p2, [], by simpa using hW', ?_, ?_, ?_, hb.frame _, fun h => by cases h⟩
  · exact trodAll_cons_mk (shut_bool Try.underlying4 _) trodAll_mk0
  · have := (trodAll_cons_mk (shut_int Try.underlying22 w0) (trodAll_cons_mk (shut_int Try.underlying3 w1) (trodAll_cons_mk (Below.trod laidOut (by kernel_rfl) (of_decide_eq_true (by kernel_rfl)) h2k hb (fun x hx => hlt x (by simp [hx]))) trodAll_mk0)))
    simp only [List.append_nil, List.nil_append] at this
    exact this
  · rfl

theorem proved : Rows.RollPushesSaid :=
  OpenClaim.holds_of_wide 4 Try.f4 rfl rfl rfl rfl rfl rfl rfl ⟨rfl, rfl, rfl, rfl, rfl⟩ rfl rfl rfl rfl rfl (by kernel_rfl) Try.func4 (by kernel_rfl)
    (of_decide_eq_true (by kernel_rfl)) (by unfold Func.isWrapper; first | (rw [if_pos (by decide +kernel)]; kernel_rfl) | (rw [if_neg (by decide +kernel)]; exact ⟨rfl, rfl⟩))
    (fun os started H enc _ => lifted os started H enc)
end rollPushes
end Go.Proofs.Ytiimblfmiiemgaa
