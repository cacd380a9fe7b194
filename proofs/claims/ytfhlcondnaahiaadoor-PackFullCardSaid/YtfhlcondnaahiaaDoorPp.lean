/- hypogeumlaw12.packs. -/
import Derived.Test.YtfhlcondnaahiaaDoorHk
namespace Go.Proofs.YtfhlcondnaahiaaDoor
open Go.RowKit Sha

theorem wpList_value {w : World} {ops : Array Oper} {rest : List Oper} {o : Oper} {a : Act} {Q : Exit → Act → World → Prop} (hw : Region.wanted o (yielded ops a.tmps) = true) (v : Value) (hrun : (execOp a.eval o).run Tryd.prog w = .ok (.value v) w)
    (h : wpList Tryd.prog ops Q rest (a.put o.dst v) w) : wpList Tryd.prog ops Q (o :: rest) a w :=
  BigFrame.wpList_want hw fun _ hK => by
    unfold Oper.wp
    rw [hrun]
    exact hK _ _ h
def s1a : Ms := msStep 1 ms0 1 [97]
theorem s1a_good : s1a.Good 1 := ms0_good.step 1 1 [97] (Or.inl rfl) (by decide)
theorem s1a_new : decide (hmac (kN 1 3) (1 :: [97]) ∉ ms0.L.map En.id) = true := by simp [ms0]
theorem s1a_L : s1a.L = [⟨hmac (kN 1 3) (1 :: [97]), V 1, 0, 49⟩] := by
  unfold s1a msStep
  rw [if_neg (by simp [ms0])]
  rfl
theorem s1a_B : s1a.B.length = 49 := by
  unfold s1a msStep
  rw [if_neg (by simp [ms0])]
  show (_ ++ wseal (kN 1 1) (kN 1 2) 1 (hexL (hmac (kN 1 3) (1 :: [97]))) (tbytes [1] 0 16) [97]).length = 49
  rw [List.length_append, wseal_length _ _ _ _ _ _ (tbytes_16 _ _)]
  rfl
theorem s2a_in : hmac (kN 1 3) (1 :: [97]) ∈ s1a.L.map En.id := by rw [s1a_L]; simp
theorem s2a_eq : msStep 1 s1a 1 [97] = s1a := by
  unfold msStep
  rw [if_pos s2a_in]
set_option maxRecDepth 100000 in
set_option maxHeartbeats 8000000 in
theorem packs_any (w : World) (ht : tables w) :
    Calls Tryd.prog 10 #[] w fun e w' => e = .returned (.bool true) ∧ Below w.heap.size w w' := by
  have T0 := Lib.hid ht
  have WA := writers_any 1 w ht
  rw [show V 1 = 1 from rfl] at WA
  have fl := a_lit
  have hz := zeroId
  clear ht
  go_enter Tryd.func10, Tryd.ntmps10
  go_wp2_with (with_reducible refine WA.mono ?_; rintro e w1 ⟨wb, tb, fa, fc, rp, rfl, hW, l1, l2, -, -, -, kb⟩; refine Hid.out ?_)
  refine Lib.hid ?_
  obtain ⟨base, hbase⟩ : ∃ base, base = w1.heap.size := ⟨_, rfl⟩
  rw [← hbase] at hW
  have WB := Lib.hid l1
  have TB := Lib.hid l2
  have T1 := T0.out.below kb T0.out.2.2.1 T0.out.2.2.2
  have PLN := Lib.hid (penCells_length (ringN 1) tb (ringN_length 1))
  have CL := close_none wb _ _ _ _ base w1 PLN.out hW.i hW.e
  have A1 := alloc_below w1 (.cells #[.int .u8 97] 5 (1, 2))
  have A2 := alloc_below (w1.alloc (.cells #[.int .u8 97] 5 (1, 2))) (.cells #[.slice (some ⟨w1.heap.size, 0, none⟩) 1 1] 30 (0, 0))
  have HT : w1.heap.size ≠ tb := Nat.ne_of_gt (Nat.lt_of_lt_of_le hW.tl hW.b)
  have HT2 : w1.heap.size + 1 ≠ tb := by have := Nat.lt_of_lt_of_le hW.tl hW.b; omega
  have AM := add_msL 1 base wb tb fa fc ms0 0 ms0_good (by omega) _ _ _ 1 [[97]] [97] rfl (Or.inl rfl) (by decide) 1 rfl (by omega) (w1.heap.size + 1) ((w1.alloc (.cells #[.int .u8 97] 5 (1, 2))).alloc (.cells #[.slice (some ⟨w1.heap.size, 0, none⟩) 1 1] 30 (0, 0)))
    ((hW.below A1).below A2) ((T1.below A1 T1.2.2.1 T1.2.2.2).below A2 (T1.below A1 T1.2.2.1 T1.2.2.2).2.2.1 (T1.below A1 T1.2.2.1 T1.2.2.2).2.2.2)
    (fun Y k => parts_one_but (g := w1.heap.size + 1) (q := w1.heap.size) (n := 1) (c := 1) (l := [97]) (by have := blockIs.last (w1.alloc (.cells #[.int .u8 97] 5 (1, 2))) [.slice (some ⟨w1.heap.size, 0, none⟩) 1 1] 30 (w1.heap.size + 1) (by simp); exact this.cell 0) rfl ⟨Nat.le_refl _, by decide⟩ ((aB w1).below A2) HT2 HT Y k)
  rw [show V 1 = 1 from rfl] at AM
  have KB1 := Lib.hid (kb.trans ((A1.trans (A2.mono A1.size)).mono kb.size))
  have HF1 : Hid (∀ i, wF wb tb (.slice none 0 0) (.slice none 0 0) none i → w.heap.size ≤ i) := Lib.hid (fun i hi => by
    rcases hi with q | q | q | q | q
    · omega
    · omega
    · cases q
    · cases q
    · cases q)
  have IDL : Hid ((hmac (kN 1 3) (1 :: [97])).length = 32) := Lib.hid (hmac_length _ _)
  have NEW := s1a_new
  have IN2 := Lib.hid s2a_in
  generalize hID : hmac (kN 1 3) (1 :: [97]) = ID at *
  have HID := Lib.hid hID
  clear hID
  clear WA T1 A1 A2 HT HT2 hW hbase kb l1 l2
  go_wp2_with (first
    | (with_reducible refine CL.mono ?_; rintro e w1x ⟨rfl, rfl⟩)
    | (with_reducible refine AM.mono ?_; rintro e w2 ⟨yes, u1, u2, gn, hy, rfl, hW2, hK2, hN2⟩)
    | (refine wpList_store_block rfl 24 _ _ rfl _ 0 (byteCells ID) rfl rfl (zeros 32) 24 (blockIs.new _ (zeros 32) 24) (by rw [infoId, byteCells_length, IDL.out]) (by simp [zeros, byteCells_length, IDL.out]) (byteCells_one _) ?_))
  intro w3 P1 P2 P3
  have P1 := P1.out
  rw [splice_all _ _ (by simp [zeros, byteCells_length, IDL.out])] at P1
  have hy := hy.out
  rw [NEW] at hy
  subst hy
  have AZ := alloc_below w2 (.cells (zeros 32).toArray 24 (0, 0))
  have AZ2 := AZ.trans (P2.out.below (Nat.le_refl _) AZ.size)
  have KP := hK2.trans (Kp.below (f := fun _ => False) AZ2) fun _ q => q.elim
  have B3 : Hid (Below w.heap.size w w3) := Lib.hid (Kp.lowF HF1.out KB1.out KP)
  have F3 : Hid (∀ i, wF wb tb u1 u2 gn i → w.heap.size ≤ i) := Lib.hid (fun i hi => (hN2 i hi).elim (HF1.out i) fun q => Nat.le_trans KB1.out.size q)
  have W3 : Hid (WrAt w3 base wb tb fa fc [1] s1a.told (penCells (ringN 1) tb) s1a.B s1a.L u1 u2 gn) := Lib.hid (hW2.below AZ2)
  have T3 := T0.out.below B3.out T0.out.2.2.1 T0.out.2.2.2
  have I3 := Lib.hid P1
  have IA3 := Lib.hid (hW2.below AZ |>.idF (blockIs.new w2 (zeros 32) 24))
  have NF3 : Hid (¬ wF wb tb u1 u2 gn w2.heap.size) := Lib.hid IA3.out
  clear AM CL hW2 hK2 hN2 P1 P2 P3 AZ AZ2 KP KB1 HF1 NEW IA3
  generalize w2.heap.size = ia at *
  have A1 := alloc_below w3 (.cells #[.int .u8 97] 5 (1, 2))
  have A2 := alloc_below (w3.alloc (.cells #[.int .u8 97] 5 (1, 2))) (.cells #[.slice none 0 0, .slice (some ⟨w3.heap.size, 0, none⟩) 1 1] 30 (0, 0))
  have HT : w3.heap.size ≠ tb := Nat.ne_of_gt (Nat.lt_of_lt_of_le W3.out.tl W3.out.b)
  have HT2 : w3.heap.size + 1 ≠ tb := by have := Nat.lt_of_lt_of_le W3.out.tl W3.out.b; omega
  have LB := blockIs.last (w3.alloc (.cells #[.int .u8 97] 5 (1, 2))) [.slice none 0 0, .slice (some ⟨w3.heap.size, 0, none⟩) 1 1] 30 (w3.heap.size + 1) (by simp)
  have AM := add_msL 1 base wb tb fa fc s1a 1 s1a_good (by omega) _ _ _ 1 [[], [97]] [97] rfl (Or.inl rfl) (by decide) 2 rfl (by omega) (w3.heap.size + 1) ((w3.alloc (.cells #[.int .u8 97] 5 (1, 2))).alloc (.cells #[.slice none 0 0, .slice (some ⟨w3.heap.size, 0, none⟩) 1 1] 30 (0, 0)))
    ((W3.out.below A1).below A2) ((T3.below A1 T3.2.2.1 T3.2.2.2).below A2 (T3.below A1 T3.2.2.1 T3.2.2.2).2.2.1 (T3.below A1 T3.2.2.1 T3.2.2.2).2.2.2)
    (fun Y k => two_parts_but (g := w3.heap.size + 1) (q := w3.heap.size) (l := [97]) (LB.cell 0) (LB.cell 1) (by decide) ((aB w3).below A2) HT2 HT Y k)
  rw [show V 1 = 1 from rfl, s2a_eq] at AM
  rw [HID.out] at AM
  have BX := B3.out.trans ((A1.trans (A2.mono A1.size)).mono B3.out.size)
  have WX := (W3.out.below A1).below A2
  have IX := (I3.out.below A1 I3.out.lt).below A2 (I3.out.below A1 I3.out.lt).lt
  have BXH := Lib.hid BX
  have WXH := Lib.hid WX
  have IXH := Lib.hid IX
  clear BX WX IX A1 A2 HT HT2 LB T3 I3 W3 NF3
  go_wp2_with (first
    | (with_reducible refine AM.mono ?_; rintro e w4 ⟨yes, x1, x2, gn2, hy, rfl, hW4, hK4, hN4⟩)
    | (refine wpList_store_block rfl 24 _ _ rfl _ 0 (byteCells ID) rfl rfl (zeros 32) 24 (blockIs.new _ (zeros 32) 24) (by rw [infoId, byteCells_length, IDL.out]) (by simp [zeros, byteCells_length, IDL.out]) (byteCells_one _) ?_))
  intro w5 P1 P2 P3
  have P1 := P1.out
  rw [splice_all _ _ (by simp [zeros, byteCells_length, IDL.out])] at P1
  have hy := hy.out
  rw [decide_eq_false (by simpa using IN2.out)] at hy
  subst hy
  have AZ := alloc_below w4 (.cells (zeros 32).toArray 24 (0, 0))
  have AZ2 := AZ.trans (P2.out.below (Nat.le_refl _) AZ.size)
  have KP := hK4.trans (Kp.below (f := fun _ => False) AZ2) fun _ q => q.elim
  have B5 : Hid (Below w.heap.size w w5) := Lib.hid (Kp.lowF F3.out BXH.out KP)
  have W5 := hW4.below AZ2
  have R1 := Ci.range_of (KP.is IXH.out fun q => WXH.out.idF IXH.out q)
  have R2 := Ci.range_of P1
  have CN := count_any wb _ x1 x2 (.map gn2) base s1a.L.length _ w5 PLN.out W5.i W5.e
  have ZN := size_any wb _ x1 x2 (.map gn2) base s1a.B.length _ w5 PLN.out W5.i W5.a
  rw [show s1a.L.length = 1 by rw [s1a_L]; rfl] at CN
  rw [s1a_B] at ZN
  clear AM hW4 hK4 hN4 P1 P2 P3 AZ AZ2 KP W5 BXH WXH IXH F3 B3 hz fl
  generalize w4.heap.size = ib at *
  go_wp2_with (first
    | (refine Ci.wpList_load_mid_if (by rfl) 24 _ rfl ia 0 rfl (byteCells ID) _ R1 Tryd.underlying24 rfl (by rw [infoId, byteCells_length, IDL.out]) ?_)
    | (refine Ci.wpList_load_mid_if (by rfl) 24 _ rfl ib 0 rfl (byteCells ID) _ R2 Tryd.underlying24 rfl (by rw [infoId, byteCells_length, IDL.out]) ?_)
    | (refine wpList_value (by rfl) (.bool true) (eql_idO _ _ _ _ ID rfl rfl rfl IDL.out _) ?_)
    | (with_reducible refine CN.mono ?_; rintro e w6 ⟨rfl, rfl⟩)
    | (with_reducible refine ZN.mono ?_; rintro e w6 ⟨rfl, rfl⟩))
  go_ret
  exact ⟨rfl, B5.out⟩
end Go.Proofs.YtfhlcondnaahiaaDoor
