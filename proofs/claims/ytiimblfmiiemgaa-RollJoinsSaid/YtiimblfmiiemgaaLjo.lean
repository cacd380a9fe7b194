/- RollJoins: for every polynomial and all bytes the law returns true, and its arguments read as before. No condition. -/
import Derived.Test.YtiimblfmiiemgaaRow
import Derived.Lib.AppendZeros
namespace Go.Proofs.Ytiimblfmiiemgaa
open Go.RowKit

/-- Noughts put behind one byte. -/
theorem run_one_zeros (w : World) (g n : Nat) (ty : TypeId) (h0 : 0 < n) (hn : n ≤ 1000) (hc : w.cell? ⟨g, 0, none⟩ = some (.int .u8 1)) :
    ∃ cap, 1 + n ≤ cap ∧ cap ≤ maxLen ∧ (Builtin.append_ #[23, 3] ty #[.slice (some ⟨g, 0, none⟩) 1 1, .int .i64 (n : Int)]).run Try.prog w =
      .ok (.slice (some ⟨w.heap.size, 0, none⟩) (1 + n) cap) (w.drew.alloc (.cells (#[.int .u8 1] ++ Builtin.zeroCells (Value.int .u8 0).cells n ++ Builtin.zeroCells (Value.int .u8 0).cells (cap - (1 + n))) 5)) := by
  obtain ⟨i, hi, hz, hz1, hz2⟩ := info_parts info_u8
  refine ⟨grownCap w (1 + n) 1 5, ?_, ?_, ?_⟩
  · exact grownCap_ge _ _ _ _
  · exact grownCap_le_maxLen _ _ _ _ (by unfold maxLen; omega)
  have hn' : n ≠ 0 := by omega
  have hw : IntKind.i64.wrap (n : Int) = n := by rw [IntKind.wrap_i64]; omega
  have hl : (loadCells ⟨g, 0, none⟩ 1).run Try.prog w.drew = .ok #[.int .u8 1] w.drew := by
    have := run_loadCells_list (P := Try.prog) w.drew ⟨g, 0, none⟩ [.int .u8 1] (fun j v hj => by
      match j, hj with
      | 0, hj => simp at hj; subst hj; simpa [Addr.add] using hc)
    simpa using this
  have hneg : ¬ ((n : Int) < 0) := by omega
  have hcap : Builtin.nextslicecap (1 + n) 1 ≤ 1001 := by
    unfold Builtin.nextslicecap
    split
    · omega
    · rw [if_pos (by decide)]; decide
  have h48 : ¬ (281474976710656 < Builtin.nextslicecap (1 + n) 1) := by omega
  have h63 : ¬ (9223372036854775807 < 1 + (n : Int)) := by omega
  have h48i : ¬ (281474976710656 < (n : Int)) := by omega
  simp [Builtin.append_, run_underlying Try.underlying23, run_underlying Try.underlying3, sizeOf, typeInfo, zeroValue, hi, hz, hz1, hz2, asInt, asIntOf, hw, hn', hneg, h48, h63, h48i, Question.forced, newRow, grownCap, Builtin.firstCells, hl]
  intro h
  omega
theorem run_no_zeros (w : World) (g : Nat) (ty : TypeId) : (Builtin.append_ #[23, 3] ty #[.slice (some ⟨g, 0, none⟩) 1 1, .int .i64 ((0 : Nat) : Int)]).run Try.prog w = .ok (.slice (some ⟨g, 0, none⟩) 1 1) w := by
  obtain ⟨i, hi, hz, hz1, hz2⟩ := info_parts info_u8
  simp [Builtin.append_, run_underlying Try.underlying23, run_underlying Try.underlying3, sizeOf, typeInfo, hi, hz1, hz2, asInt, asIntOf, IntKind.wrap_i64, storeCells]
theorem zeroCells_u8 (n : Nat) : (Builtin.zeroCells (Value.int .u8 0).cells n).toList = bvals (List.replicate n 0) := by
  unfold Builtin.zeroCells bvals
  apply List.ext_getElem
  · simp [Value.cells]
  · intro j h1 h2
    simp [Value.cells, Nat.mod_one]
    rfl
theorem append_zeros {w : World} {ops : Array Oper} {rest : List Oper} {o : Oper} {a : Act} {Q : Exit → Act → World → Prop} (hgd : o.guard = none) (s x : Operand)
    (ho : o.op = .call { callee := .builtin .append, args := #[s, x], argTypes := #[23, 3] })
    (base g n : Nat) (hs : a.eval s = .slice (some ⟨g, 0, none⟩) 1 1) (hx : a.eval x = .int .i64 (n : Int)) (hown : rowIs w base (.slice (some ⟨g, 0, none⟩) 1 1) [1]) (hn : n ≤ 1000) (hbase : base ≤ w.heap.size)
    (h : ∀ v' w', rowIs w' base v' (1 :: List.replicate n 0) → Below w.heap.size w w' → wpList Try.prog ops Q rest (a.put o.dst v') w') : wpList Try.prog ops Q (o :: rest) a w := by
  by_cases h0 : n = 0
  · subst h0
    exact Lib.wpList_append_run w hgd s x _ _ ho _ _ hs hx _ _ (run_no_zeros w g _) (h _ w hown (Below.refl _ _))
  · have hc : w.cell? ⟨g, 0, none⟩ = some (.int .u8 1) := by
      have := World.ownsRow.cellAt hown 0 (by decide)
      rw [this]; rfl
    obtain ⟨cap, h1, h2, hr⟩ := run_one_zeros w g n o.type (by omega) hn hc
    refine Lib.wpList_append_run w hgd s x _ _ ho _ _ hs hx _ _ hr (h _ _ ?_ (((Below.refl _ _).drew).alloc (Nat.le_refl _) _))
    unfold rowIs
    refine ⟨by simp [bvals], Or.inr ⟨w.heap.size, cap, _, by rw [List.length_cons, List.length_replicate, Nat.add_comm], hbase, heap_alloc_new w.drew _, by rw [List.length_cons, List.length_replicate]; omega, h2, ?_, ?_⟩⟩
    · have e1 : ∀ k, (Builtin.zeroCells (Value.int .u8 0).cells k).size = k := fun k => by
        have := congrArg List.length (zeroCells_u8 k)
        simpa [bvals] using this
      simp only [Array.size_append, e1]
      simp
      omega
    · rw [Array.toList_append, Array.toList_append, zeroCells_u8, zeroCells_u8]
      have e2 : [Value.int .u8 1] ++ bvals (List.replicate n 0) = bvals (1 :: List.replicate n 0) := by simp [bvals]; rfl
      rw [show (#[Value.int IntKind.u8 1] : Array Value).toList = [Value.int .u8 1] from rfl, e2]
      rw [List.take_append_of_le_length (by simp [bvals]), List.take_of_length_le (by simp [bvals])]

set_option maxRecDepth 100000 in
set_option maxHeartbeats 4000000 in
theorem law_rollJoins (m : W) (a1 : Option Addr) (c1 : Nat) (L1 : List UInt8) (a2 : Option Addr) (c2 : Nat) (L2 : List UInt8) (w : World) (hl1 : L1.length ≤ c1) (hin1 : bytesIn w a1 L1) (hz1 : a1 = none → c1 = 0) (hl2 : L2.length ≤ c2) (hin2 : bytesIn w a2 L2) (hz2 : a2 = none → c2 = 0) :
    Calls Try.prog 8 #[.int .u64 (U m), .slice a1 L1.length c1, .slice a2 L2.length c2] w fun e w' => e = .returned (.bool true) ∧ Below w.heap.size w w' := by
  have I1 := Lib.hid (hin1.take 200)
  have I2 := Lib.hid (hin2.take 200)
  have Z1 := Lib.hid hz1
  have Z2 := Lib.hid hz2
  have x1 : 0 ≤ min (L1.length : Int) 200 := by omega
  have x2 : min (L1.length : Int) 200 ≤ (c1 : Int) := by omega
  have x3 : 0 ≤ min (L2.length : Int) 200 := by omega
  have x4 : min (L2.length : Int) 200 ≤ (c2 : Int) := by omega
  clear hin1 hin2 hz1 hz2
  go_enter Try.func8, Try.ntmps8
  go_wp2_with fail
  go_quiet (fail)
  go_wp2_with fail
  have e1 : (min (L1.length : Int) 200).toNat = (L1.take 200).length := by rw [List.length_take]; omega
  have e2 : (min (L2.length : Int) 200).toNat = (L2.take 200).length := by rw [List.length_take]; omega
  have m1 : (L1.take 200).length ≤ 200 := by rw [List.length_take]; omega
  have m2 : (L2.take 200).length ≤ 200 := by rw [List.length_take]; omega
  have n1 : (L1.take 200).length ≤ c1 := by rw [List.length_take]; omega
  have n2 : (L2.take 200).length ≤ c2 := by rw [List.length_take]; omega
  rw [e1, e2]
  clear e1 e2 x1 x2 x3 x4
  generalize min (L1.length : Int) 200 = z1 at *
  generalize min (L2.length : Int) 200 = z2 at *
  generalize L1.take 200 = l at *
  generalize L2.take 200 = r at *
  have J1 : Hid (bytesIn (w.drewN nq) a1 l) := I1
  have J2 : Hid (bytesIn (w.drewN nq) a2 r) := I2
  have H0 : Hid (Below w.heap.size w (w.drewN nq)) := Lib.hid ⟨rfl, rfl, rfl, Nat.le_refl _, fun _ _ => rfl⟩
  generalize w.drewN nq = w0 at *
  refine (rolls_any _).mono ?_
  rintro e w1 ⟨rfl, hb⟩
  have H1 := Lib.hid (H0.out.trans (hb.mono H0.out.size))
  have Q1 := Lib.hid (J1.out.below hb (Nat.le_refl _))
  have Q2 := Lib.hid (J2.out.below hb (Nat.le_refl _))
  clear hb H0 J1 J2
  go_wp2_with fail
  refine (right_any _ _).mono ?_
  rintro e w2 ⟨rfl, hb⟩
  have H2 := Lib.hid (H1.out.trans (hb.mono H1.out.size))
  have J1 := Lib.hid (Q1.out.below hb (Nat.le_refl _))
  have J2 := Lib.hid (Q2.out.below hb (Nat.le_refl _))
  clear hb H1 Q1 Q2
  by_cases hm : 8 ≤ dgw m
  · have t1 : decide (8 ≤ dgw m) = true := by simpa using hm
    have HM := Lib.hid hm
    have HJ := Lib.hid (of_join m hm l r)
    have HM0 := Lib.hid (ne_of_deg hm)
    clear hm
    go_wp2_with fail
    clear t1
    refine (of_any m a1 l c1 _ HM.out n1 (by omega) J1.out).mono ?_
    rintro e w3 ⟨rfl, hb⟩
    have H3 := Lib.hid (H2.out.trans (hb.mono H2.out.size))
    have Q1 := Lib.hid (J1.out.below hb (Nat.le_refl _))
    have Q2 := Lib.hid (J2.out.below hb (Nat.le_refl _))
    clear hb H2 J1 J2
    go_wp2_with fail
    refine (of_any m a2 r c2 _ HM.out n2 (by omega) Q2.out).mono ?_
    rintro e w4 ⟨rfl, hb⟩
    have H4 := Lib.hid (H3.out.trans (hb.mono H3.out.size))
    have J1 := Lib.hid (Q1.out.below hb (Nat.le_refl _))
    have J2 := Lib.hid (Q2.out.below hb (Nat.le_refl _))
    clear hb H3 Q1 Q2
    go_wp2_with (at_builtin; refine append_bytes rfl _ _ rfl w.heap.size _ [] rfl (rowIs.lit w4 w.heap.size [] #[] rfl 0 rfl H4.out.size (by decide)) a1 l.length c1 l rfl rfl Z1.out (J1.out.below ((Below.refl _ _).alloc (Nat.le_refl _) _) (Nat.le_refl _)) (by simp; omega) (by have := H4.out.size; simp; omega) ?_)
    intro v1 w5 hown hgrow
    have H5 := Lib.hid (own_below (H4.out.alloc H4.out.size _) (rowIs.lit w4 w.heap.size [] #[] rfl 0 rfl H4.out.size (by decide)) hgrow (by have := H4.out.size; simp; omega))
    have R5 := Lib.hid hown
    clear hown hgrow H4 J1 J2
    go_wp2_with (at_builtin; refine append_bytes rfl _ _ rfl w.heap.size v1 l rfl R5.out a2 r.length c2 r rfl rfl Z2.out (I2.out.below H5.out (Nat.le_refl _)) (by omega) H5.out.size ?_)
    intro v2 w6 hown hgrow
    have H6 := Lib.hid (own_below H5.out R5.out hgrow H5.out.size)
    obtain ⟨a3, c3, e3, h5, h6, h7⟩ := hown.bytes
    have HLR : Hid ((l ++ r).length ≤ 400) := Lib.hid (by rw [List.length_append]; omega)
    subst e3
    have I3 := Lib.hid h6
    have N3 := Lib.hid h5
    clear hown hgrow h5 h6 h7 R5 H5
    generalize l ++ r = lr at *
    go_wp2_with fail
    refine (of_any m a3 lr c3 _ HM.out N3.out (by have := HLR.out; omega) I3.out).mono ?_
    rintro e w7 ⟨rfl, hb⟩
    have H7 := Lib.hid (H6.out.trans (hb.mono H6.out.size))
    clear hb H6 I3
    go_wp2_with (at_builtin; refine append_zeros rfl _ _ rfl w.heap.size w7.heap.size r.length rfl rfl (rowIs.lit w7 w.heap.size [1] #[.int .u8 1] rfl 1 rfl H7.out.size (by decide)) (by omega) (by have := H7.out.size; simp; omega) ?_)
    intro v3 w8 hown hb
    have H8 := Lib.hid ((H7.out.alloc H7.out.size _).trans (hb.mono (by have := H7.out.size; simp; omega)))
    obtain ⟨a4, c4, e4, h5, h6, h7⟩ := hown.bytes
    have HLZ : Hid ((1 :: List.replicate r.length 0 : List UInt8).length ≤ 400) := Lib.hid (by rw [List.length_cons, List.length_replicate]; omega)
    subst e4
    have I4 := Lib.hid h6
    have N4 := Lib.hid h5
    clear hown hb h5 h6 h7 H7
    generalize (1 :: List.replicate r.length 0 : List UInt8) = zz at *
    go_wp2_with fail
    refine (of_any m a4 zz c4 _ HM.out N4.out (by have := HLZ.out; omega) I4.out).mono ?_
    rintro e w9 ⟨rfl, hb⟩
    have H9 := Lib.hid (H8.out.trans (hb.mono H8.out.size))
    clear hb H8 I4
    go_wp2_with fail
    refine (mod_any _ _ _ _ HM0.out).mono ?_
    rintro e w10 ⟨rfl, hb⟩
    have H10 := Lib.hid (H9.out.trans (hb.mono H9.out.size))
    clear hb H9
    rw [HJ.out]
    generalize wM (ofW m l) (ofW m zz) m = s1 at *
    generalize ofW m r = s2 at *
    have t2 : (U (s1 ^^^ s2) == U (s1 ^^^ s2)) = true := by simp
    go_wp2_with fail
    refine (add_new _ _ _ _).mono ?_
    rintro e w11 ⟨rfl, hb⟩
    have H11 := Lib.hid (H10.out.trans (hb.mono H10.out.size))
    clear hb
    go_wp2_with fail
    go_ret
    exact ⟨rfl, H11.out⟩
  · have t1 : decide (8 ≤ dgw m) = false := by simpa using hm
    clear hm
    go_wp2_with fail
    refine (rolls_any _).mono ?_
    rintro e w3 ⟨rfl, hb⟩
    have H3 := Lib.hid (H2.out.trans (hb.mono H2.out.size))
    clear hb
    go_wp2_with fail
    go_ret
    exact ⟨rfl, H3.out⟩

namespace rollJoins
open Go.ChangeShapes Go.WideShapes Go.ChangeAt Go.RowKit
set_option maxRecDepth 100000 in
theorem lifted (os : Os) (started : os.Started) (H : Type) (enc : TypeId × Value → H) :
    ReturnsInHanded {} Try.checked os 8 .any (Rows.rollJoinsSpec.pre6 enc Try.prog Try.f8 Rows.rollJoinsRow.domain false) (Rows.rollJoinsSpec.post enc Try.prog Try.f8 false true false false) := by
  refine returnsInHanded_of_change (C := Try.checked) own started (by kernel_rfl) Try.func8
    (ChangeSpec.witness6 (enc := enc) (C := Try.checked) false ⟨#[], #[.int .u64 0, .slice none 0 0, .slice none 0 0], []⟩ 8 (by kernel_rfl) (by kernel_rfl) (by kernel_rfl) (by kernel_rfl)) ?_
  intro W base args ds gs before hval0 hW hcnd _
  have hval : ∀ (j : Nat) t v, Try.f8.params[j]? = some t → args[j]? = some v → Value.okWide Try.prog W .any base t v := hval0
  have hW' := hW
  obtain ⟨p, q, hA0, hV, rfl, hfz, hnd⟩ := hW
  have hA : DataW.TrodAll enc Try.prog W 0 (fun _ => true) true Try.f8.params.toList args.toList ds p := hA0
  rw [Try.params8] at hA hval
  obtain ⟨v0, vs0, d0, ds0, p0, q0, hargs, rfl, rfl, h0, r0⟩ := trodAll_cons hA
  obtain ⟨v1, vs1, d1, ds1, p1, q1, rfl, rfl, rfl, h1, r1⟩ := trodAll_cons r0
  obtain ⟨v2, vs2, d2, ds2, p2, q2, rfl, rfl, rfl, h2, r2⟩ := trodAll_cons r1
  obtain ⟨rfl, rfl, rfl⟩ := trodAll_nil r2
  obtain rfl : args = #[v0, v1, v2] := by cases args; simp_all
  obtain ⟨rfl, rfl⟩ := trodVars_none hV
  obtain ⟨a0, rfl, rfl, rfl, w0⟩ := open_int Try.underlying22 (hval 0 22 v0 rfl rfl) h0
  obtain ⟨x0, rfl⟩ := word_of a0 w0
  obtain ⟨a1, l1, c1, rfl⟩ := okWide_slice Try.underlying23 (hval 1 23 v1 rfl rfl)
  have h1k := h1
  obtain ⟨n1, g1⟩ := h1
  obtain ⟨b1, k1, F1, e1, hF1, hin1, hz1⟩ := open_bytes (v := .slice a1 l1 c1) (by simpa [Value.cells] using g1)
  obtain ⟨a2, l2, c2, rfl⟩ := okWide_slice Try.underlying23 (hval 2 23 v2 rfl rfl)
  have h2k := h2
  obtain ⟨n2, g2⟩ := h2
  obtain ⟨b2, k2, F2, e2, hF2, hin2, hz2⟩ := open_bytes (v := .slice a2 l2 c2) (by simpa [Value.cells] using g2)
  clear hA0 hval0
  simp only [List.append_nil, List.nil_append] at hW'
  have hlt : ∀ x ∈ p1 ++ p2, x.block < W.heap.size := fun x hx => hW'.lt x (by simpa using hx)
  rw [e1, e2]
  refine (law_rollJoins x0 b1 k1 F1 b2 k2 F2 W hF1 hin1 hz1 hF2 hin2 hz2).mono fun e W' ⟨he, hb⟩ => ?_
  rw [← e1, ← e2]
  subst he
  refine ⟨_, rfl, [_, d1, d2], [], p1 ++ p2, [], p1 ++ p2, [], by simpa using hW', ?_, ?_, ?_, hb.frame _, fun h => by cases h⟩
  · exact trodAll_cons_mk (shut_bool Try.underlying4 _) trodAll_mk0
  · have := (trodAll_cons_mk (shut_int Try.underlying22 w0) (trodAll_cons_mk (Below.trod laidOut (by kernel_rfl) (of_decide_eq_true (by kernel_rfl)) h1k hb (fun x hx => hlt x (by simp [hx]))) (trodAll_cons_mk (Below.trod laidOut (by kernel_rfl) (of_decide_eq_true (by kernel_rfl)) h2k hb (fun x hx => hlt x (by simp [hx]))) trodAll_mk0)))
    simp only [List.append_nil, List.nil_append] at this
    exact this
  · rfl

theorem proved : Rows.RollJoinsSaid :=
  OpenClaim.holds_of_wide 8 Try.f8 rfl rfl rfl rfl rfl rfl rfl ⟨rfl, rfl, rfl, rfl, rfl⟩ rfl rfl rfl rfl rfl (by kernel_rfl) Try.func8 (by kernel_rfl)
    (of_decide_eq_true (by kernel_rfl)) (by unfold Func.isWrapper; first | (rw [if_pos (by decide +kernel)]; kernel_rfl) | (rw [if_neg (by decide +kernel)]; exact ⟨rfl, rfl⟩))
    (fun os started H enc _ => lifted os started H enc)
end rollJoins
end Go.Proofs.Ytiimblfmiiemgaa
