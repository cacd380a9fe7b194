/- The law SumTexts: its walk. -/
import Derived.Test.YthgmebdbccjmlaaDoorDig
import Derived.Test.YthgmebdbccjmlaaDoorEq
namespace Go.Proofs.YthgmebdbccjmlaaDoor
open Go.RowKit Sha

theorem wpList_load_mid_if {P : Program} {ops : Array Oper} {rest : List Oper} {op : Oper} {a : Act} {w : World} {Q : Exit → Act → World → Prop} (hw : Region.wanted op (yielded ops a.tmps) = true) (ty : TypeId) (x : Operand) (ho : op.op = .load ty x)
    (b o : Nat) (hx : a.eval x = .pointer (some ⟨b, o, none⟩)) (cs : List Value) (d : TypeDesc) (hc : w.rangeAt b o cs)
    (hu : P.underlying ty = some d) (hd : d.isRow = true) (hi : (P.info? ty).map (·.size) = some cs.length)
    (h : wpList P ops Q rest (a.put op.dst (.agg cs.toArray)) w) : wpList P ops Q (op :: rest) a w :=
  BigFrame.wpList_want hw fun _ hK => wp_load_mid ty x ho b o hx cs d hc hu hd hi (hK _ _ h)
theorem wpList_build_if {P : Program} {ops : Array Oper} {rest : List Oper} {o : Oper} {a : Act} {w : World} {Q : Exit → Act → World → Prop} (hw : Region.wanted o (yielded ops a.tmps) = true) (ty : TypeId) (ho : o.op = .build ty #[])
    (v : Value) (hrun : (Instr.build ty #[]).run P w = .ok v w) (h : wpList P ops Q rest (a.put o.dst v) w) : wpList P ops Q (o :: rest) a w := by
  refine BigFrame.wpList_want hw fun K hK => ?_
  unfold Oper.wp execOp
  simp only [ho, Sem.run_bind, List.map_toArray, List.map_nil, hrun, Result.andThen_ok, Sem.run_pure]
  exact hK _ _ h
theorem neq_sums (l : List UInt8) (hl : l.length = 32) (w : World) : (binOp .neq 28 (.agg (byteCells l).toArray) (.agg (byteCells l).toArray)).run Tryd.prog w = .ok (.bool false) w := by
  rw [run_neq_struct, same_sums l hl]
  rfl

set_option maxRecDepth 100000 in
set_option maxHeartbeats 2000000 in
theorem law_sumTexts (S : List UInt8) (L : List UInt8) (w : World) (hS : S.length = 32) (hT : L.length ≤ 9223372036854775807) (ht : tables w) :
    Calls Tryd.prog 5 #[.agg (byteCells S).toArray, .string (str L)] w fun e w' => e = .returned (.bool true) ∧ Below w.heap.size w w' := by
  have hsz := str_size L
  have HS := Lib.hid hS
  have G1 := Lib.hid (blockIs.new w (byteCells S) 28)
  have B1 := Lib.hid (alloc_below w (.cells (byteCells S).toArray 28 (0, 0)))
  have R1 := Lib.hid (range_of G1.out)
  have T1 := Lib.hid (ht.below B1.out ht.2.2.1 ht.2.2.2)
  have Z1 : Hid (w.heap.size < (w.alloc (.cells (byteCells S).toArray 28 (0, 0))).heap.size) := Lib.hid G1.out.lt
  clear hS ht
  go_enter Tryd.func5, Tryd.ntmps5
  go_wp2_with (refine wpList_load_mid rfl 28 _ rfl w.heap.size 0 rfl (byteCells S) _ R1.out Tryd.underlying28 rfl (by rw [info28, byteCells_length, HS.out]) ?_)
  generalize w.alloc (.cells (byteCells S).toArray 28 (0, 0)) = w1 at *
  clear R1
  with_reducible refine (stext_any S w1 HS.out).mono ?_
  rintro e w2 ⟨rfl, k2⟩
  have G2 := Lib.hid (G1.out.below k2 Z1.out)
  have T2 := Lib.hid (T1.out.below k2 T1.out.2.2.1 T1.out.2.2.2)
  have B2 := Lib.hid (B1.out.trans (k2.mono B1.out.size))
  have Z2 := Lib.hid (Nat.lt_of_lt_of_le Z1.out k2.size)
  clear G1 T1 B1 Z1 k2
  go_wp2_with fail
  with_reducible refine (sread_any (hexL S) w2 (by rw [hexL_length, HS.out]; omega)).mono ?_
  rintro e w3 ⟨rfl, k3⟩
  rw [okHex_hexL S HS.out, readL_hexL S HS.out]
  have G3 := Lib.hid (G2.out.below k3 Z2.out)
  have T3 := Lib.hid (T2.out.below k3 T2.out.2.2.1 T2.out.2.2.2)
  have B3 := Lib.hid (B2.out.trans (k3.mono B2.out.size))
  have Z3 := Lib.hid (Nat.lt_of_lt_of_le Z2.out k3.size)
  clear G2 T2 B2 Z2 k3
  have hz28 := zero28
  have N3 := Lib.hid (blockIs.new w3 (zeros 32) 28)
  have A3 := Lib.hid (alloc_below w3 (.cells (zeros 32).toArray 28 (0, 0)))
  go_wp2_with (refine wpList_store_block rfl 28 _ _ rfl w3.heap.size 0 (byteCells S) rfl rfl (zeros 32) 28 N3.out (by rw [info28, byteCells_length, HS.out]) (by simp [zeros, byteCells_length, HS.out]) (byteCells_one _) ?_)
  intro w4 h1 h2 h3
  have h1 := h1.out
  rw [splice_all _ _ (by simp [zeros, byteCells_length, HS.out])] at h1
  have B34 : Hid (Below w3.heap.size w3 w4) := Lib.hid (A3.out.trans (h2.out.below (Nat.le_refl _) A3.out.size))
  have P4 := Lib.hid h1
  have G4 := Lib.hid (G3.out.below B34.out Z3.out)
  have T4 := Lib.hid (T3.out.below B34.out T3.out.2.2.1 T3.out.2.2.2)
  have B4 := Lib.hid (B3.out.trans (B34.out.mono B3.out.size))
  have Z4 := Lib.hid P4.out.lt
  have Y4 := Lib.hid G4.out.lt
  clear h1 h2 h3 G3 T3 B3 Z3 N3 A3 B34 hz28
  generalize w3.heap.size = g at *
  go_wp2_with fail
  with_reducible refine (sums_any w4 T4.out).mono ?_
  rintro e w5 ⟨rfl, k5⟩
  have P5 := Lib.hid (P4.out.below k5 Z4.out)
  have G5 := Lib.hid (G4.out.below k5 Y4.out)
  have B5 := Lib.hid (B4.out.trans (k5.mono B4.out.size))
  have Z5 := Lib.hid (Nat.lt_of_lt_of_le Z4.out k5.size)
  have Y5 := Lib.hid (Nat.lt_of_lt_of_le Y4.out k5.size)
  have R5 := Lib.hid (range_of G5.out)
  clear P4 G4 T4 B4 Z4 Y4 k5
  go_wp2_with (first | (refine wpList_load_mid_if (by rfl) 28 _ rfl w.heap.size 0 rfl (byteCells S) _ R5.out Tryd.underlying28 rfl (by rw [info28, byteCells_length, HS.out]) ?_))
  with_reducible refine (text_any S w5 HS.out).mono ?_
  rintro e w6 ⟨rfl, k6⟩
  have P6 := Lib.hid (P5.out.below k6 Z5.out)
  have G6 := Lib.hid (G5.out.below k6 Y5.out)
  have B6 := Lib.hid (B5.out.trans (k6.mono B5.out.size))
  have Z6 := Lib.hid (Nat.lt_of_lt_of_le Z5.out k6.size)
  have Y6 := Lib.hid (Nat.lt_of_lt_of_le Y5.out k6.size)
  clear P5 G5 B5 Z5 Y5 R5 k6
  go_wp2_with fail
  with_reducible refine (rtext_any S w6 (by rw [HS.out]; omega)).mono ?_
  rintro e w7 ⟨rfl, k7⟩
  have P7 := Lib.hid (P6.out.below k7 Z6.out)
  have G7 := Lib.hid (G6.out.below k7 Y6.out)
  have B7 := Lib.hid (B6.out.trans (k7.mono B6.out.size))
  have R7 := Lib.hid (range_of P7.out)
  have R8 := Lib.hid (range_of G7.out)
  have hq := neq_sums S HS.out
  have hgt := egt28
  clear P6 G6 B6 Z6 Y6 k7 P7 G7
  generalize hexL S = HX at *
  by_cases hlong : 1000 < L.length
  · have s1 : (1000 : Int) < (L.length : Int) := by omega
    go_wp2_with (first | (refine wpList_load_mid_if (by rfl) 28 _ rfl g 0 rfl (byteCells S) _ R7.out Tryd.underlying28 rfl (by rw [info28, byteCells_length, HS.out]) ?_) | (refine wpList_load_mid_if (by rfl) 28 _ rfl w.heap.size 0 rfl (byteCells S) _ R8.out Tryd.underlying28 rfl (by rw [info28, byteCells_length, HS.out]) ?_))
    go_ret
    exact ⟨rfl, B7.out⟩
  · have s1 : ¬ (1000 : Int) < (L.length : Int) := by omega
    go_wp2_with (first | (refine wpList_load_mid_if (by rfl) 28 _ rfl g 0 rfl (byteCells S) _ R7.out Tryd.underlying28 rfl (by rw [info28, byteCells_length, HS.out]) ?_) | (refine wpList_load_mid_if (by rfl) 28 _ rfl w.heap.size 0 rfl (byteCells S) _ R8.out Tryd.underlying28 rfl (by rw [info28, byteCells_length, HS.out]) ?_))
    with_reducible refine (sread_any L w7 (by omega)).mono ?_
    rintro e w8 ⟨rfl, k8⟩
    have B8 := Lib.hid (B7.out.trans (k8.mono B7.out.size))
    clear B7 R7 R8 hq s1 k8
    have HRL := Lib.hid (readL_length L)
    have hz28 := zero28
    have N8 := Lib.hid (blockIs.new w8 (zeros 32) 28)
    have A8 := Lib.hid (alloc_below w8 (.cells (zeros 32).toArray 28 (0, 0)))
    have HE : Hid (okHex L = (decide (L.length = 64) && digTo L L.length)) := Lib.hid (okHex_digTo L)
    have HR1 : Hid (okHex L = true → readL L = unhex L ∧ hexL (unhex L) = L) := Lib.hid (fun h => ⟨by unfold readL; rw [if_pos h], hexL_unhex L h⟩)
    have HR0 : Hid (okHex L = false → readL L = List.replicate 32 0) := Lib.hid (fun h => by unfold readL; rw [h]; rfl)
    generalize readL L = RL at *
    generalize okHex L = ok at *
    go_wp2_with (refine wpList_store_block rfl 28 _ _ rfl w8.heap.size 0 (byteCells RL) rfl rfl (zeros 32) 28 N8.out (by rw [info28, byteCells_length, HRL.out]) (by simp [zeros, byteCells_length, HRL.out]) (byteCells_one _) ?_)
    intro w9 h1 h2 h3
    have h1 := h1.out
    rw [splice_all _ _ (by simp [zeros, byteCells_length, HRL.out])] at h1
    have R9 := Lib.hid (range_of h1)
    have B9 := Lib.hid (B8.out.trans ((A8.out.trans (h2.out.below (Nat.le_refl _) A8.out.size)).mono B8.out.size))
    clear h1 h2 h3 N8 A8 B8 hz28
    generalize w8.heap.size = xb at *
    have e64 : ((L.length : Int) == 64) = decide (L.length = 64) := by
      rw [Bool.eq_iff_iff, beq_iff_eq, decide_eq_true_eq]; omega
    go_wp2_with fail
    clear e64
    go_loopw [10, 9] (fun i r wr => ∃ k : Nat, k ≤ L.length ∧ i = .int .i64 (k : Int) ∧ r = .bool (decide (L.length = 64) && digTo L k) ∧ wr = w9) (fun i _ _ => L.length - (intOf i).toNat)
    case atStart => exact ⟨0, by omega, rfl, by simp [digTo], rfl⟩
    case round =>
      obtain ⟨k, hk, rfl, rfl, rfl⟩ := hrel
      have p : 0 ≤ (k : Int) := by omega
      have hE := HE.out
      have hno : Hid (digTo L k = false → digTo L L.length = false) := Lib.hid (fun h => digTo_no h hk)
      by_cases hgo : k < L.length ∧ (decide (L.length = 64) && digTo L k) = true
      · obtain ⟨hlt, hb⟩ := hgo
        have q : (k : Int) < (L.length : Int) := by omega
        have ix := index_str L k hlt
        have hsu := digTo_succ L k
        have ht := ixd_test (L.getD k 0)
        have hd : Hid (∀ b : Bool, ((decide (48 ≤ V (L.getD k 0)) && decide (V (L.getD k 0) ≤ 57)) || (decide (97 ≤ V (L.getD k 0)) && decide (V (L.getD k 0) ≤ 102))) = b → b = (decide (L.length = 64) && digTo L (k + 1))) := Lib.hid (fun b hx => by
          rw [hsu, ← Bool.and_assoc, hb, Bool.true_and, ht, hx])
        clear hsu ht hE hno
        generalize (decide (L.length = 64) && digTo L k) = r at *
        subst hb
        generalize V (L.getD k 0) = x at *
        by_cases c1 : 48 ≤ x <;> by_cases c2 : x ≤ 57 <;> by_cases c3 : 97 ≤ x <;> by_cases c4 : x ≤ 102
        all_goals first | (exfalso; omega) | skip
        all_goals
          go_wp2_with fail
          go_roundw
          case rel => exact ⟨k + 1, by omega, by go_num, congrArg Value.bool (hd.out _ (by simp [c1, c2, c3, c4])), by trivial⟩
          case measure => simp [intOf]; omega
      · have hr : (decide (L.length = 64) && digTo L k) = ok := by
          rw [hE]
          by_cases hlt : k < L.length
          · have hb : (decide (L.length = 64) && digTo L k) = false := by
              cases hx : (decide (L.length = 64) && digTo L k)
              · rfl
              · exact absurd ⟨hlt, hx⟩ hgo
            rw [hb]
            rcases Bool.and_eq_false_iff.1 hb with h | h
            · rw [h]; rfl
            · rw [hno.out h, Bool.and_false]
          · obtain rfl : k = L.length := by omega
            rfl
        have hc : ¬ ((k : Int) < (L.length : Int)) ∨ ok = false := by
          rw [← hr]
          by_cases hlt : k < L.length
          · right
            cases hx : (decide (L.length = 64) && digTo L k)
            · rfl
            · exact absurd ⟨hlt, hx⟩ hgo
          · left; omega
        rw [hr]
        clear hr hgo hE hno HE
        have hgt := egt28
        cases ok
        · have hb : ∀ wx, (Instr.build 28 #[]).run Tryd.prog wx = .ok (.agg (byteCells RL).toArray) wx := by rw [HR0.out rfl]; exact fun wx => build28 wx
          have hq1 := eql_sums RL HRL.out
          clear hc HR0 HR1
          by_cases q : (k : Int) < (L.length : Int)
          all_goals
            go_wp2_with (first | (refine wpList_load_mid_if (by rfl) 28 _ rfl xb 0 rfl (byteCells RL) _ R9.out Tryd.underlying28 rfl (by rw [info28, byteCells_length, HRL.out]) ?_) | (refine wpList_build_if (by rfl) 28 rfl _ (hb _) ?_))
            go_ret
            exact ⟨rfl, B9.out⟩
        · have q : ¬ (k : Int) < (L.length : Int) := by simpa using hc
          obtain ⟨hu, hx⟩ := HR1.out rfl
          rw [← hu] at hx
          clear hc HR0 HR1 hu
          have hst := Lib.hid (stext_any RL wr HRL.out)
          rw [hx] at hst
          go_wp2_with (first | (refine wpList_load_mid_if (by rfl) 28 _ rfl xb 0 rfl (byteCells RL) _ R9.out Tryd.underlying28 rfl (by rw [info28, byteCells_length, HRL.out]) ?_))
          with_reducible refine hst.out.mono ?_
          rintro e wz ⟨rfl, kz⟩
          go_wp2_with fail
          go_ret
          exact ⟨rfl, B9.out.trans (kz.mono B9.out.size)⟩
end Go.Proofs.YthgmebdbccjmlaaDoor
