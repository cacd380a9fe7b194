/- RollAdds: for every polynomial and all bytes the law returns true, and its arguments read as before. No condition. -/
import Derived.Test.YtiimblfmiiemgaaRow
import Derived.Deep.AppendLies

namespace Go.Proofs.Ytiimblfmiiemgaa
open Go.RowKit

theorem V_xor (x y : UInt8) : bits .xor .u8 (V x) (V y) = V (x ^^^ y) := by
  unfold V; rw [u8_xor_nat _ _ x.toNat_lt y.toNat_lt, UInt8.toNat_xor]
theorem row_one {w : World} {x : UInt8} (t : TypeId) : bytesIn (w.alloc (.cells #[.int .u8 (V x)] t (0, 0))) (some ⟨w.heap.size, 0, none⟩) [x] := by
  refine Or.inr ⟨_, _, rfl, fun j hj => ?_⟩
  match j, hj with
  | 0, _ => rw [World.cell?_alloc_at _ _ _ _ rfl]; rfl
theorem mix_all {l r : List UInt8} {n : Nat} (h1 : l.length = n) (h2 : r.length = n) : List.zipWith (· ^^^ ·) (l.take n) (r.take n) = List.zipWith (· ^^^ ·) l r := by
  rw [List.take_of_length_le (by omega), List.take_of_length_le (by omega)]
def mix (l r : List UInt8) : List UInt8 := List.zipWith (· ^^^ ·) l r
theorem mix_take (l r : List UInt8) (k : Nat) (h1 : k < l.length) (h2 : k < r.length) : mix (l.take (k + 1)) (r.take (k + 1)) = mix (l.take k) (r.take k) ++ [l.getD k 0 ^^^ r.getD k 0] := by
  unfold mix
  rw [List.take_succ_eq_append_getElem h1, List.take_succ_eq_append_getElem h2, List.zipWith_append (by simp; omega)]
  simp [h1, h2]
theorem mix_length (l r : List UInt8) (k : Nat) (h1 : k ≤ l.length) (h2 : k ≤ r.length) : (mix (l.take k) (r.take k)).length = k := by
  unfold mix
  rw [List.length_zipWith, List.length_take, List.length_take]
  omega
attribute [local go_sem] V_xor
set_option maxRecDepth 100000 in
set_option maxHeartbeats 2000000 in
theorem law_rollAdds (m : W) (a1 : Option Addr) (c1 : Nat) (L1 : List UInt8) (a2 : Option Addr) (c2 : Nat) (L2 : List UInt8) (w : World) (hl1 : L1.length ≤ c1) (hin1 : bytesIn w a1 L1) (hz1 : a1 = none → c1 = 0) (hl2 : L2.length ≤ c2) (hin2 : bytesIn w a2 L2) (hz2 : a2 = none → c2 = 0) :
    Calls Try.prog 7 #[.int .u64 (U m), .slice a1 L1.length c1, .slice a2 L2.length c2] w fun e w' => e = .returned (.bool true) ∧ Below w.heap.size w w' := by
  obtain ⟨n, hn⟩ : ∃ n, n = min (min L1.length L2.length) 200 := ⟨_, rfl⟩
  have e3 : (L1.take n).length = n := by rw [List.length_take]; omega
  have e4 : (L2.take n).length = n := by rw [List.length_take]; omega
  have I1 := Lib.hid (hin1.take n)
  have I2 := Lib.hid (hin2.take n)
  have hn1 : n ≤ c1 := by omega
  have hn2 : n ≤ c2 := by omega
  have hn3 : n ≤ 200 := by omega
  have hn4 : n ≤ L1.length := by omega
  have hn5 : n ≤ L2.length := by omega
  have hx1 : (n : Int) ≤ (c1 : Int) := by omega
  have hx2 : (n : Int) ≤ (c2 : Int) := by omega
  have hx0 : 0 ≤ (n : Int) := by omega
  have HN := Lib.hid hn
  generalize L1.take n = l at *
  generalize L2.take n = r at *
  have E3 := Lib.hid e3
  have E4 := Lib.hid e4
  clear hn e3 e4 hin1 hin2 hz1 hz2
  go_enter Try.func7, Try.ntmps7
  go_wp2_with fail
  all_goals first
    | rw [show (200 : Int) = (n : Int) by have := HN.out; omega]
    | rw [show (L2.length : Int) = (n : Int) by have := HN.out; omega]
    | rw [show (L1.length : Int) = (n : Int) by have := HN.out; omega]
  all_goals clear HN hl1 hl2
  all_goals
    refine (rolls_any _).mono ?_
    rintro e w1 ⟨rfl, hb⟩
    have H1 := Lib.hid hb
    clear hb
    go_wp2_with fail
    refine (right_any _ _).mono ?_
    rintro e w2 ⟨rfl, hb⟩
    have H2 := Lib.hid (H1.out.trans (hb.mono H1.out.size))
    clear hb H1
    by_cases hm : 8 ≤ dgw m
    · have t1 : decide (8 ≤ dgw m) = true := by simpa using hm
      have HM := Lib.hid hm
      clear hm
      go_wp2_with fail
      clear t1
      go_loopw [8, 9] (fun v i wr => ∃ k : Nat, k ≤ n ∧ i = .int .i64 k ∧ Hid (rowIs wr w.heap.size v (mix (l.take k) (r.take k))) ∧ Hid (Below w.heap.size w wr)) (fun _ i _ => n - (intOf i).toNat)
      case atStart => exact ⟨0, Nat.zero_le _, rfl, Lib.hid (World.ownsRow_nil _ _ _ _), H2⟩
      case round =>
        obtain ⟨k, hk, rfl, K1, K2⟩ := hrel
        have p0 : 0 ≤ (k : Int) := by omega
        by_cases hlt : k < n
        · have q0 : (k : Int) < (n : Int) := by omega
          have q1 : (k : Int) < (L1.length : Int) := by omega
          have q2 : (k : Int) < (L2.length : Int) := by omega
          have HM1 := Lib.hid (mix_take l r k (by have := E3.out; omega) (by have := E4.out; omega))
          have HLN := Lib.hid (mix_length l r k (by have := E3.out; omega) (by have := E4.out; omega))
          rcases (I1.out.below K2.out (Nat.le_refl _)) with h0 | ⟨b1, o1, rfl, hc1⟩
          · have := E3.out; rw [h0] at this; simp at this; omega
          rcases (I2.out.below K2.out (Nat.le_refl _)) with h0 | ⟨b2, o2, rfl, hc2⟩
          · have := E4.out; rw [h0] at this; simp at this; omega
          have d1 := hc1 k (by have := E3.out; omega)
          have d2 := hc2 k (by have := E4.out; omega)
          clear hc1 hc2
          generalize l.getD k 0 = x at *
          generalize r.getD k 0 = y at *
          generalize mix (l.take k) (r.take k) = M at *
          have lb1 : b1 < w.heap.size := by
            rcases I1.out with h0 | ⟨b, o, e, hc⟩
            · have := E3.out; rw [h0] at this; simp at this; omega
            · cases e; exact block_lt_of_cell (hc 0 (by have := E3.out; omega))
          have lb2 : b2 < w.heap.size := by
            rcases I2.out with h0 | ⟨b, o, e, hc⟩
            · have := E4.out; rw [h0] at this; simp at this; omega
            · cases e; exact block_lt_of_cell (hc 0 (by have := E4.out; omega))
          have LB := Lib.hid (And.intro lb1 lb2)
          have lw := K2.out.size
          have A1 : Hid (u8.ownBlock ≠ some b1) := Lib.hid fun e => by have := (K1.out.lt b1 e).1; omega
          have A2 : Hid (u8.ownBlock ≠ some b2) := Lib.hid fun e => by have := (K1.out.lt b2 e).1; omega
          have lw1 : b1 < wr.heap.size := by omega
          have lw2 : b2 < wr.heap.size := by omega
          clear lb1 lb2
          obtain ⟨i0, hi, hz0, hz1, hz2⟩ := info_parts info_u8
          go_wp2_with fail
          go_region_held3 (fun w' => w'.cell? ⟨b1, o1 + k, none⟩ = some (.int .u8 (V x)) ∧ w'.cell? ⟨b2, o2 + k, none⟩ = some (.int .u8 (V y)))
            (first
              | go_keep
              | (go_split_ands
                 refine ⟨?_, ?_⟩
                 · (rw [hgrow.cell_far _ (by simp; omega) (Ne.symm A1.out)]; assumption)
                 · (rw [hgrow.cell_far _ (by simp; omega) (Ne.symm A2.out)]; assumption)))
            ((refine step_append_lies _ (by rfl) _ _ _ (by rfl) w.heap.size 5 i0 _ 1 1 Try.underlying23 hi hz0 hz1 hz2 rfl (by omega) u8 M.length (bvals M) (by rfl) ((K1.out.alloc _).drew)
                ⟨wr.heap.size, 0, none⟩ 1 1 [.int .u8 (V (x ^^^ y))] (by rfl) (by rfl) (World.news_of_block (cs := #[.int .u8 (V (x ^^^ y))]) (t := 5) (fr := (0, 0)) (heap_alloc_new wr _)) (by simp [Value.oneCell'])
                (by omega) (by have := HLN.out; unfold maxLen; omega) (by have := HLN.out; omega) (by simp; omega) (wr.heap.size + 1) (by simp) ?_; intro gg cap w4 hown hgrow hat hlt4))
          have L2' := Lib.hid (own_below ((K2.out.alloc K2.out.size (.cells #[.int .u8 (V (x ^^^ y))] 5)).drew) ((K1.out.alloc _).drew) hgrow (by simp; omega))
          have L1' : Hid (rowIs w4 w.heap.size (.slice (some ⟨gg, 0, none⟩) (M.length + 1) cap) (M ++ [x ^^^ y])) := Lib.hid (by unfold rowIs; rw [List.length_append, bvals_append]; exact hown)
          clear hown hgrow hat hlt4
          go_wp2_with fail
          go_roundw
          case rel => exact ⟨k + 1, by omega, by go_num, Lib.hid (by rw [HM1.out]; exact L1'.out), L2'⟩
          case measure => simp [intOf]; omega
        · obtain rfl : k = n := by omega
          have HX := Lib.hid (show ofW m (mix (l.take k) (r.take k)) = ofW m l ^^^ ofW m r by unfold mix; rw [mix_all E3.out E4.out]; exact of_xor m HM.out l r (by rw [E3.out, E4.out]))
          have HLN := Lib.hid (mix_length l r k (by have := E3.out; omega) (by have := E4.out; omega))
          obtain ⟨a3, c3, e3, h5, h6, h7⟩ := K1.out.bytes
          subst e3
          generalize mix (l.take k) (r.take k) = M at *
          have I3 := Lib.hid h6
          have HL3 := Lib.hid h5
          have J1 := Lib.hid (I1.out.below K2.out (Nat.le_refl _))
          have J2 := Lib.hid (I2.out.below K2.out (Nat.le_refl _))
          clear h5 h6 h7 K1
          have o1 := fun w hc h => of_any m a1 l c1 w HM.out (by have := E3.out; omega) hc h
          have o2 := fun w hc h => of_any m a2 r c2 w HM.out (by have := E4.out; omega) hc h
          rw [E3.out] at o1
          rw [E4.out] at o2
          have O1 := Lib.hid o1
          have O2 := Lib.hid o2
          have O3 := Lib.hid (fun w h => of_any m a3 M c3 w HM.out HL3.out (by have := HLN.out; omega) h)
          clear o1 o2
          go_wp2_with fail
          refine (O1.out _ (by omega) J1.out).mono ?_
          rintro e w5 ⟨rfl, hb⟩
          have H5 := Lib.hid (K2.out.trans (hb.mono K2.out.size))
          have Q2 := Lib.hid (J2.out.below hb (Nat.le_refl _))
          have Q3 := Lib.hid (I3.out.below hb (Nat.le_refl _))
          clear hb J1 J2 I3
          go_wp2_with fail
          refine (O2.out _ (by omega) Q2.out).mono ?_
          rintro e w6 ⟨rfl, hb⟩
          have H6 := Lib.hid (H5.out.trans (hb.mono H5.out.size))
          have R3 := Lib.hid (Q3.out.below hb (Nat.le_refl _))
          clear hb Q2 Q3
          go_wp2_with fail
          refine (O3.out _ R3.out).mono ?_
          rintro e w7 ⟨rfl, hb⟩
          have H7 := Lib.hid (H6.out.trans (hb.mono H6.out.size))
          clear hb
          rw [HX.out]
          generalize ofW m l = s1 at *
          generalize ofW m r = s2 at *
          have t2 : (U (s1 ^^^ s2) == U (s1 ^^^ s2)) = true := by simp
          go_wp2_with fail
          refine (add_new _ _ _ _).mono ?_
          rintro e w8 ⟨rfl, hb⟩
          have H8 := Lib.hid (H7.out.trans (hb.mono H7.out.size))
          clear hb
          go_wp2_with fail
          go_ret
          exact ⟨rfl, H8.out⟩
    · have t1 : decide (8 ≤ dgw m) = false := by simpa using hm
      clear hm
      go_wp2_with fail
      refine (rolls_any _).mono ?_
      rintro e w3 ⟨rfl, hb⟩
      have H3 := Lib.hid (H2.out.trans (hb.mono H2.out.size))
      clear hb
      go_wp2_with fail
      go_ret
      exact ⟨rfl, H3.out⟩

namespace rollAdds
open Go.ChangeShapes Go.WideShapes Go.ChangeAt Go.RowKit
set_option maxRecDepth 100000 in
theorem lifted (os : Os) (started : os.Started) (H : Type) (enc : TypeId × Value → H) :
    ReturnsInHanded {} Try.checked os 7 .any (Rows.rollAddsSpec.pre6 enc Try.prog Try.f7 Rows.rollAddsRow.domain false) (Rows.rollAddsSpec.post enc Try.prog Try.f7 false true false false) := by
  refine returnsInHanded_of_change (C := Try.checked) own started (by kernel_rfl) Try.func7
    (ChangeSpec.witness6 (enc := enc) (C := Try.checked) false ⟨#[], #[.int .u64 0, .slice none 0 0, .slice none 0 0], []⟩ 8 (by kernel_rfl) (by kernel_rfl) (by kernel_rfl) (by kernel_rfl)) ?_
  intro W base args ds gs before hval0 hW hcnd _
  have hval : ∀ (j : Nat) t v, Try.f7.params[j]? = some t → args[j]? = some v → Value.okWide Try.prog W .any base t v := hval0
  have hW' := hW
  obtain ⟨p, q, hA0, hV, rfl, hfz, hnd⟩ := hW
  have hA : DataW.TrodAll enc Try.prog W 0 (fun _ => true) true Try.f7.params.toList args.toList ds p := hA0
  rw [Try.params7] at hA hval
  obtain ⟨v0, vs0, d0, ds0, p0, q0, hargs, rfl, rfl, h0, r0⟩ := trodAll_cons hA
  obtain ⟨v1, vs1, d1, ds1, p1, q1, rfl, rfl, rfl, h1, r1⟩ := trodAll_cons r0
  obtain ⟨v2, vs2, d2, ds2, p2, q2, rfl, rfl, rfl, h2, r2⟩ := trodAll_cons r1
  obtain ⟨rfl, rfl, rfl⟩ := trodAll_nil r2
  obtain rfl : args = #[v0, v1, v2] := by cases args; simp_all
  obtain ⟨rfl, rfl⟩ := trodVars_none hV
  obtain ⟨a0, rfl, rfl, rfl, w0⟩ := open_int Try.underlying22 (hval 0 22 v0 rfl rfl) h0
  obtain ⟨x0, rfl⟩ := word_of a0 w0
  obtain ⟨a1, l1, c1, rfl⟩ := okWide_slice Try.underlying23 (hval 1 23 v1 rfl rfl)
  have h1k := h1
  obtain ⟨n1, g1⟩ := h1
  obtain ⟨b1, k1, F1, e1, hF1, hin1, hz1⟩ := open_bytes (v := .slice a1 l1 c1) (by simpa [Value.cells] using g1)
  obtain ⟨a2, l2, c2, rfl⟩ := okWide_slice Try.underlying23 (hval 2 23 v2 rfl rfl)
  have h2k := h2
  obtain ⟨n2, g2⟩ := h2
  obtain ⟨b2, k2, F2, e2, hF2, hin2, hz2⟩ := open_bytes (v := .slice a2 l2 c2) (by simpa [Value.cells] using g2)
  clear hA0 hval0
  simp only [List.append_nil, List.nil_append] at hW'
  have hlt : ∀ x ∈ p1 ++ p2, x.block < W.heap.size := fun x hx => hW'.lt x (by simpa using hx)
  rw [e1, e2]
  refine (law_rollAdds x0 b1 k1 F1 b2 k2 F2 W hF1 hin1 hz1 hF2 hin2 hz2).mono fun e W' ⟨he, hb⟩ => ?_
  rw [← e1, ← e2]
  subst he
  refine ⟨_, rfl, [_, d1, d2], [], p1 ++ p2, [], p1 ++ p2, [], by simpa using hW', ?_, ?_, ?_, hb.frame _, fun h => by cases h⟩
  · exact trodAll_cons_mk (shut_bool Try.underlying4 _) trodAll_mk0
  · have := (trodAll_cons_mk (shut_int Try.underlying22 w0) (trodAll_cons_mk (Below.trod laidOut (by kernel_rfl) (of_decide_eq_true (by kernel_rfl)) h1k hb (fun x hx => hlt x (by simp [hx]))) (trodAll_cons_mk (Below.trod laidOut (by kernel_rfl) (of_decide_eq_true (by kernel_rfl)) h2k hb (fun x hx => hlt x (by simp [hx]))) trodAll_mk0)))
    simp only [List.append_nil, List.nil_append] at this
    exact this
  · rfl

theorem proved : Rows.RollAddsSaid :=
  OpenClaim.holds_of_wide 7 Try.f7 rfl rfl rfl rfl rfl rfl rfl ⟨rfl, rfl, rfl, rfl, rfl⟩ rfl rfl rfl rfl rfl (by kernel_rfl) Try.func7 (by kernel_rfl)
    (of_decide_eq_true (by kernel_rfl)) (by unfold Func.isWrapper; first | (rw [if_pos (by decide +kernel)]; kernel_rfl) | (rw [if_neg (by decide +kernel)]; exact ⟨rfl, rfl⟩))
    (fun os started H enc _ => lifted os started H enc)
end rollAdds
end Go.Proofs.Ytiimblfmiiemgaa
