/- The law WaxBounds: its walk. -/
import Derived.Test.YtjkhokholcchfaaDoorGp
namespace Go.Proofs.YtjkhokholcchfaaDoor
open Go.RowKit Sha

theorem remW (z : Int) (m : Nat) (hm : 0 < m) (hm2 : m ≤ 1000000) : ∃ n : Nat, n < m ∧ wrap64 ((IntKind.u64.wrap z).tmod (m : Int)) = (n : Int) := by
  have hw : 0 ≤ IntKind.u64.wrap z := by rw [IntKind.wrap_u64]; omega
  have h1 := Int.emod_lt_of_pos (IntKind.u64.wrap z) (show (0 : Int) < (m : Int) by omega)
  have h0 := Int.emod_nonneg (IntKind.u64.wrap z) (show (m : Int) ≠ 0 by omega)
  rw [Int.tmod_eq_emod_of_nonneg hw]
  generalize IntKind.u64.wrap z % (m : Int) = q at *
  refine ⟨q.toNat, by omega, ?_⟩
  unfold wrap64
  omega
theorem make_zerosW (n : Nat) (w : World) (hn : n ≤ 2000000) :
    (Instr.makeSlice 22 (.int .i64 (n : Int)) (.int .i64 (n : Int))).run Tryd.prog w = .ok (.slice (some ⟨w.heap.size, 0, none⟩) n n) (w.alloc (.cells (byteCells (List.replicate n 0)).toArray 5 (0, 0))) := by
  obtain ⟨i0, hi, hz0, hz1, hz2⟩ := info_parts Ci.info_u8
  have := run_make (P := Tryd.prog) w 22 5 i0 (.int .u8 0) Tryd.underlying22 hi hz0 .i64 .i64 (n : Int) (n : Int) (by omega) (by omega) (by rw [hz2]; omega) (by omega)
  rw [hz1, Int.toNat_natCast, Ci.made_zeros] at this
  exact this
theorem made_in (X : World) (l : List UInt8) : bytesIn (X.alloc (.cells (byteCells l).toArray 5 (0, 0))) (some ⟨X.heap.size, 0, none⟩) l :=
  Or.inr ⟨_, _, rfl, fun j hj => by
    rw [Nat.zero_add, (blockIs.new X (byteCells l) 5).cell]
    exact byteCells_get l j hj⟩
theorem bz16 (w : World) : (Instr.build 28 #[]).run Tryd.prog w = .ok (.agg (zeros 16).toArray) w := by kernel_rfl
theorem bz64 (w : World) : (Instr.build 45 #[]).run Tryd.prog w = .ok (.agg (zeros 64).toArray) w := by kernel_rfl
theorem zeros64_one : ∀ v ∈ zeros 64, v.oneCell' = true := by decide

set_option maxRecDepth 100000 in
set_option maxHeartbeats 8000000 in
theorem law_waxBounds (y z : Int) (w : World) (_ : (Lit.int .i64 y).wf = true) (_ : (Lit.int .i64 z).wf = true) (ht : tables w) :
    Calls Tryd.prog 7 #[.int .i64 y, .int .i64 z] w fun e w' => e = .returned (.bool true) ∧ Below w.heap.size w w' := by
  obtain ⟨n, hn, r0⟩ := remW y 300 (by omega) (by omega)
  obtain ⟨m, hm, r1⟩ := remW z 5 (by omega) (by omega)
  obtain ⟨size, hsz0⟩ : ∃ size, size = 1048574 + m := ⟨_, rfl⟩
  have q1 : IntKind.i64.wrap (1048574 + (m : Int)) = (size : Int) := by rw [IntWalk.i64_in _ (by omega)]; omega
  have hsize : size ≤ 2000000 := by omega
  obtain ⟨s7, hs70⟩ : ∃ s7, s7 = size - 7 := ⟨_, rfl⟩
  have q7 : Hid (IntKind.i64.wrap ((size : Int) - 7) = (s7 : Int)) := Lib.hid (by rw [IntWalk.i64_in _ (by omega)]; omega)
  have hs7 : s7 ≤ 2000000 := by omega
  rw [show ((300 : Nat) : Int) = 300 from rfl] at r0
  rw [show ((5 : Nat) : Int) = 5 from rfl] at r1
  have HSZ : Hid (s7 + 7 = size) := Lib.hid (by omega)
  clear hsz0 hs70 hm
  have HT := Lib.hid ht
  clear ht
  go_enter Tryd.func7, Tryd.ntmps7
  have mk := make_zerosW n w (by omega)
  have cv := conv_string (w.alloc (.cells (byteCells (List.replicate n 0)).toArray 5 (0, 0))) (some ⟨w.heap.size, 0, none⟩) (List.replicate n 0) n (made_in w _)
  rw [List.length_replicate] at cv
  have B1 := Lib.hid (alloc_below w (.cells (byteCells (List.replicate n 0)).toArray 5 (0, 0)))
  have hnl : (List.replicate n (0 : UInt8)).length = n := List.length_replicate
  obtain ⟨nm, hnm⟩ : ∃ nm : List UInt8, nm = List.replicate n 0 := ⟨_, rfl⟩
  rw [← hnm] at hnl mk cv B1
  clear hnm
  go_upto_region 3 with fail
  generalize w.alloc (.cells (byteCells nm).toArray 5 (0, 0)) = w1 at *
  rw [r0]
  clear mk cv r0 r1 q1
  have hss := str_size nm
  have G1 := Lib.hid (blockIs.new w1 (zeros 64) 45)
  have B2 := Lib.hid (B1.out.trans ((alloc_below w1 (.cells (zeros 64).toArray 45 (0, 0))).mono B1.out.size))
  have KL : Hid ((zeros 64).length = 64) := Lib.hid (by simp [zeros])
  have ONE := Lib.hid zeros64_one
  have KZ : keyCells Z32 Z32 = zeros 64 := by kernel_rfl
  have NZ : byteCells (List.replicate 16 0) = zeros 16 := by kernel_rfl
  by_cases h255 : 255 < n
  · have CS := Lib.hid (fun W hW X ga hX hq => seal_at W Z32 Z32 (List.replicate 16 0) 1 nm rfl rfl rfl hW [⟨none, 0, []⟩] [.slice none 0 0] rfl (by simp only [List.mem_singleton]; rintro p rfl; exact ⟨⟨Nat.le_refl _, by show (0 : Nat) ≤ _; omega, Or.inl rfl⟩, fun _ => rfl⟩) [] rfl (by simp) 1 rfl (by omega) X ga hX hq)
    have CO := Lib.hid (fun X hX => openR_any Z32 Z32 1 nm [] none 0 X rfl rfl (by simp) (by simp) (by omega) (Or.inl rfl) hX)
    rw [KZ] at CS CO
    rw [NZ] at CS
    have e1 : (sealR Z32 Z32 1 nm (List.replicate 16 0) []).2 = if 255 < n then 5 else 0 := by unfold sealR; rw [hnl]; split <;> rfl
    have e2 : openR Z32 Z32 1 nm [] = ([], if 255 < n then 5 else 10) := by
      unfold openR; rw [hnl]
      by_cases h : 255 < n
      · rw [if_pos h, if_pos h]
      · rw [if_neg h, if_neg h, if_pos (by decide)]
    rw [e1] at CS
    rw [e2] at CO
    rw [if_pos h255] at CS CO
    change Hid (∀ W (hW : tables W) X (ga : Nat) (hX : Below W.heap.size W X) (hq : cellsAt X ga [.slice none 0 0]), Calls Tryd.prog 23 #[.agg (zeros 64).toArray, .int .u8 1, .string (str nm), .agg (zeros 16).toArray, .slice (some ⟨ga, 0, none⟩) 1 1] X _) at CS
    change Hid (∀ X (hX : tables X), Calls Tryd.prog 25 #[.agg (zeros 64).toArray, .int .u8 1, .string (str nm), .slice none 0 0] X _) at CO
    have hb := bz64
    clear e1 e2 KZ NZ
    obtain ⟨C, hC⟩ : ∃ C, C = zeros 64 := ⟨_, rfl⟩
    rw [← hC] at hb G1 B2 KL ONE CS CO
    have hzk := zeroKeys
    rw [← hC] at hzk
    clear hC
    go_wp2_with (first
      | (refine Ci.wpList_build rfl 45 _ rfl _ _ (hb _) rfl ?_)
      | (refine wpList_store_block rfl 45 _ _ rfl w1.heap.size 0 C rfl rfl C 45 G1.out (by rw [infoKeys, KL.out]) (by rw [KL.out]; decide) ONE.out ?_))
    intro w2 h1 h2 h3
    have h1 := h1.out
    rw [splice_all _ _ rfl] at h1
    have G2 := Lib.hid h1
    have B3 := Lib.hid (B2.out.trans ((h2.out.below (Nat.le_refl _) (by simp)).mono B1.out.size))
    obtain ⟨g, hg⟩ : ∃ g, g = w1.heap.size := ⟨_, rfl⟩
    rw [← hg] at G2 ⊢
    have T2 := Lib.hid (HT.out.below B3.out HT.out.2.2.1 HT.out.2.2.2)
    clear h1 h2 h3 hg G1 B2 ONE B1 hzk hb HT
    have RK2 := Lib.hid (Ci.range_of G2.out)
    have hz16 := bz16
    have kl := alloc_below w2 (.cells #[.slice none 0 0] 22 (0, 0))
    have CS2 := Lib.hid (CS.out w2 T2.out _ w2.heap.size kl (cellsAt.new w2 #[.slice none 0 0] w2.heap.size 22 [.slice none 0 0] rfl rfl))
    have B4 := Lib.hid (B3.out.trans (kl.mono B3.out.size))
    have G4 := Lib.hid (G2.out.below kl G2.out.lt)
    have T4 := Lib.hid (T2.out.below kl T2.out.2.2.1 T2.out.2.2.2)
    clear kl CS
    go_wp2_with (first
      | (refine Ci.wpList_load_mid_if (by rfl) 45 _ rfl g 0 rfl C _ RK2.out Tryd.underlying45 rfl (by rw [infoKeys, KL.out]) ?_)
      | (refine Ci.wpList_build rfl 28 _ rfl _ _ (hz16 _) rfl ?_))
    generalize w2.alloc (.cells #[.slice none 0 0] 22 (0, 0)) = w3 at *
    with_reducible refine CS2.out.mono ?_
    rintro e w4 ⟨v, rfl, -, kk⟩
    have B5 := Lib.hid (B4.out.trans (kk.mono B4.out.size))
    have G5 := Lib.hid (G4.out.below kk G4.out.lt)
    have T5 := Lib.hid (T4.out.below kk T4.out.2.2.1 T4.out.2.2.2)
    have RK5 := Lib.hid (Ci.range_of G5.out)
    have CO5 := Lib.hid (CO.out w4 T5.out)
    clear kk CS2 CO B3 B4 G2 G4 T2 T4 RK2
    go_wp2_with (refine Ci.wpList_load_mid_if (by rfl) 45 _ rfl g 0 rfl C _ RK5.out Tryd.underlying45 rfl (by rw [infoKeys, KL.out]) ?_)
    with_reducible refine CO5.out.mono ?_
    rintro e w5 ⟨v2, rfl, -, kk⟩
    have B6 := Lib.hid (B5.out.trans (kk.mono B5.out.size))
    have G6 := Lib.hid (G5.out.below kk G5.out.lt)
    have T6 := Lib.hid (T5.out.below kk T5.out.2.2.1 T5.out.2.2.2)
    have WX := Lib.hid (waxes_any w5 T6.out)
    clear kk CO5 B5 G5 T5 RK5
    have g1 : (255 : Int) < (n : Int) := by omega
    have h255n : 255 < nm.length := by omega
    go_wp2_with fail
    with_reducible refine WX.out.mono ?_
    rintro e w6 ⟨rfl, kk⟩
    have B7 := Lib.hid (B6.out.trans (kk.mono B6.out.size))
    have G7 := Lib.hid (G6.out.below kk G6.out.lt)
    have T7 := Lib.hid (T6.out.below kk T6.out.2.2.1 T6.out.2.2.2)
    clear kk WX B6 G6 T6
    by_cases hs : size ≤ 1048576
    · have g2 : (size : Int) ≤ 1048576 := by omega
      go_wp2_with fail
      go_ret
      exact ⟨rfl, B7.out⟩
    have g2 : ¬ (size : Int) ≤ 1048576 := by omega
    have hs8 : s7 + 7 = size := HSZ.out
    have RK := Lib.hid (fun X (hX : Below w6.heap.size w6 X) => Ci.range_of (G7.out.below hX G7.out.lt))
    go_upto_region 10 with fail
    refine wp_region_noPanic ?_
    refine wp_region_held_drew (S := fun w' => Below w6.heap.size w6 w') (by kernel_rfl) (below_drew' (Below.refl _ _)) (fun hH => ?_)
    generalize w6.drew = x0 at *
    refine wpAnyH_take (i := 0) (oi := { dst := some 75, op := Op.load 45 (Operand.tmp 6), type := 45, pos := "law.go:123", after := #[], guard := none }) (v := .agg (C).toArray) rfl (by kernel_rfl) (by kernel_rfl) (by kernel_rfl) (fun _ _ _ h => h) (yieldsIf_load_mid (by rfl) 45 _ rfl (g) 0 rfl (C) _ (fun wx hS => RK.out wx hS) Tryd.underlying45 rfl (by rw [infoKeys, KL.out])) hH ?_
    simp only [Act.put, List.setIfInBounds_toArray, List.set_cons_zero, List.set_cons_succ]
    refine wpAnyH_take (i := 1) (oi := { dst := some 76, op := Op.build 28 #[], type := 28, pos := "law.go:123", after := #[], guard := none }) (v := .agg (zeros 16).toArray) rfl (by kernel_rfl) (by kernel_rfl) (by kernel_rfl) (fun _ _ _ h => h) (Or.inl ⟨by rfl, fun wx hS => ?_⟩) hH ?_
    · go_simp; rfl
    simp only [Act.put, List.setIfInBounds_toArray, List.set_cons_zero, List.set_cons_succ]
    refine wpAnyH_take (i := 2) (oi := { dst := some 77, op := Op.move (Operand.tmp 1), type := 3, pos := "law.go:123", after := #[], guard := none }) (v := .int .i64 (size : Int)) rfl (by kernel_rfl) (by kernel_rfl) (by kernel_rfl) (fun _ _ _ h => h) (Or.inl ⟨by rfl, fun wx hS => ?_⟩) hH ?_
    · go_simp
    simp only [Act.put, List.setIfInBounds_toArray, List.set_cons_zero, List.set_cons_succ]
    refine wpAnyH_take (i := 3) (oi := { dst := some 78, op := Op.binOp BinOp.sub 3 (Operand.tmp 77) (Operand.const (Value.int IntKind.i64 7)) 3, type := 3, pos := "law.go:123", after := #[{ on := 2, ground := Ground.data }], guard := none }) (v := .int .i64 (s7 : Int)) rfl (by kernel_rfl) (by kernel_rfl) (by kernel_rfl) (fun _ _ _ h => h) (Or.inl ⟨by rfl, fun wx hS => ?_⟩) hH ?_
    · have e1 := q7.out; go_simp
    simp only [Act.put, List.setIfInBounds_toArray, List.set_cons_zero, List.set_cons_succ]
    have mk1 := fun X => make_zerosW s7 X hs7
    have mk2 := fun X => make_zerosW 7 X (by omega)
    rw [show ((7 : Nat) : Int) = 7 from rfl] at mk2
    obtain ⟨zs, hzs⟩ : ∃ zs : List UInt8, zs = List.replicate s7 0 := ⟨_, rfl⟩
    obtain ⟨z7, hz7⟩ : ∃ zs : List UInt8, zs = List.replicate 7 0 := ⟨_, rfl⟩
    have es : zs.length = s7 := by rw [hzs, List.length_replicate]
    have e7 : z7.length = 7 := by rw [hz7, List.length_replicate]
    rw [← hzs] at mk1
    rw [← hz7] at mk2
    clear hzs hz7
    revert hH
    refine join2 (Q := ?Q10_1_) (H := fun ga gb wx => Below w6.heap.size w6 wx ∧ True ∧ bytesIn wx (some ⟨ga, 0, none⟩) zs ∧ bytesIn wx (some ⟨gb, 0, none⟩) z7) (fun REST => ?main10_1_) ?rest10_1_
    case main10_1_ =>
      intro hH 
      refine wpAnyH_ready (rs := [4, 5]) (by kernel_rfl) (by simp) ?_
      refine AllReadyH.cons (o := { dst := some 79, op := Op.makeSlice 22 (Operand.tmp 78) (Operand.tmp 78), type := 22, pos := "law.go:123", after := #[{ on := 3, ground := Ground.data }, { on := 3, ground := Ground.data }], guard := none }) rfl (fun KK hKK => ?_) (AllReadyH.cons (o := { dst := some 80, op := Op.makeSlice 22 (Operand.const (Value.int IntKind.i64 7)) (Operand.const (Value.int IntKind.i64 7)), type := 22, pos := "law.go:123", after := #[], guard := none }) rfl (fun KK hKK => ?_) AllReadyH.nil)
      · have kb := alloc_below x0 (.cells (byteCells zs).toArray 5 (0, 0))
        have q_ga := made_in x0 zs
        have hN := hH.trans (kb.mono hH.size)
        clear hH kb
        go_simp
        refine hKK.out _ _ hN (fun hH => ?_)
        clear hKK KK hN
        try simp only [Act.put, List.setIfInBounds_toArray, List.set_cons_zero, List.set_cons_succ]
        generalize x0.alloc (.cells (byteCells zs).toArray 5 (0, 0)) = x10_1_0 at *
        generalize x0.heap.size = ga at q_ga ⊢
        refine wpAnyH_ready (rs := [5]) (by kernel_rfl) (by simp) ?_
        refine AllReadyH.cons (o := { dst := some 80, op := Op.makeSlice 22 (Operand.const (Value.int IntKind.i64 7)) (Operand.const (Value.int IntKind.i64 7)), type := 22, pos := "law.go:123", after := #[], guard := none }) rfl (fun KK hKK => ?_) AllReadyH.nil
        have kb := alloc_below x10_1_0 (.cells (byteCells z7).toArray 5 (0, 0))
        replace q_ga := bytesIn.below q_ga kb
        have q_gb := made_in x10_1_0 z7
        have hN := hH.trans (kb.mono hH.size)
        clear hH kb
        go_simp
        refine hKK.out _ _ hN (fun hH => ?_)
        clear hKK KK hN
        try simp only [Act.put, List.setIfInBounds_toArray, List.set_cons_zero, List.set_cons_succ]
        generalize x10_1_0.alloc (.cells (byteCells z7).toArray 5 (0, 0)) = x10_1_1 at *
        generalize x10_1_0.heap.size = gb at q_gb ⊢
        refine wpAnyH_listed (L2 := #[true, true, true, true, true, true, false, false, false, false, false, false, false]) (by kernel_rfl) ?_
        exact REST ga gb x10_1_1 ⟨hH, True.intro, q_ga, q_gb⟩
      · have kb := alloc_below x0 (.cells (byteCells z7).toArray 5 (0, 0))
        have q_gb := made_in x0 z7
        have hN := hH.trans (kb.mono hH.size)
        clear hH kb
        go_simp
        refine hKK.out _ _ hN (fun hH => ?_)
        clear hKK KK hN
        try simp only [Act.put, List.setIfInBounds_toArray, List.set_cons_zero, List.set_cons_succ]
        generalize x0.alloc (.cells (byteCells z7).toArray 5 (0, 0)) = x10_1_0 at *
        generalize x0.heap.size = gb at q_gb ⊢
        refine wpAnyH_ready (rs := [4]) (by kernel_rfl) (by simp) ?_
        refine AllReadyH.cons (o := { dst := some 79, op := Op.makeSlice 22 (Operand.tmp 78) (Operand.tmp 78), type := 22, pos := "law.go:123", after := #[{ on := 3, ground := Ground.data }, { on := 3, ground := Ground.data }], guard := none }) rfl (fun KK hKK => ?_) AllReadyH.nil
        have kb := alloc_below x10_1_0 (.cells (byteCells zs).toArray 5 (0, 0))
        replace q_gb := bytesIn.below q_gb kb
        have q_ga := made_in x10_1_0 zs
        have hN := hH.trans (kb.mono hH.size)
        clear hH kb
        go_simp
        refine hKK.out _ _ hN (fun hH => ?_)
        clear hKK KK hN
        try simp only [Act.put, List.setIfInBounds_toArray, List.set_cons_zero, List.set_cons_succ]
        generalize x10_1_0.alloc (.cells (byteCells zs).toArray 5 (0, 0)) = x10_1_1 at *
        generalize x10_1_0.heap.size = ga at q_ga ⊢
        refine wpAnyH_listed (L2 := #[true, true, true, true, true, true, false, false, false, false, false, false, false]) (by kernel_rfl) ?_
        exact REST ga gb x10_1_1 ⟨hH, True.intro, q_ga, q_gb⟩
    case rest10_1_ =>
      rintro ga gb y1 ⟨hH, -, q_ga, q_gb⟩
      clear mk1 mk2
      have ha := Lib.hid q_ga
      have hb := Lib.hid q_gb
      clear q_ga q_gb
      have kk := Below.refl y1.heap.size y1
      refine wpAnyH_ready (rs := [6]) (by kernel_rfl) (by simp) ?_
      refine AllReadyH.cons (o := { dst := some 81, op := Op.buildSlice 54 2 #[(0, Operand.tmp 79), (1, Operand.tmp 80)], type := 54, pos := "law.go:123", after := #[{ on := 4, ground := Ground.data }, { on := 5, ground := Ground.data }], guard := none }) rfl (fun KK hKK => ?_) AllReadyH.nil
      have kb := alloc_below y1 (.cells #[.slice (some ⟨ga, 0, none⟩) s7 s7, .slice (some ⟨gb, 0, none⟩) 7 7] 22 (0, 0))
      replace kk := kk.trans (kb.mono kk.size)
      have q_gl := cellsAt.new y1 #[.slice (some ⟨ga, 0, none⟩) s7 s7, .slice (some ⟨gb, 0, none⟩) 7 7] y1.heap.size 22 [.slice (some ⟨ga, 0, none⟩) s7 s7, .slice (some ⟨gb, 0, none⟩) 7 7] rfl rfl
      have hN := hH.trans (kb.mono hH.size)
      clear hH kb
      go_simp
      refine hKK.out _ _ hN (fun hH => ?_)
      clear hKK KK hN
      try simp only [Act.put, List.setIfInBounds_toArray, List.set_cons_zero, List.set_cons_succ]
      generalize y1.alloc (.cells #[.slice (some ⟨ga, 0, none⟩) s7 s7, .slice (some ⟨gb, 0, none⟩) 7 7] 22 (0, 0)) = y2 at *
      generalize y1.heap.size = gl at q_gl ⊢
      have pl := cellsAt.parts (W := y1) (X := y2) (g := gl) (ps := [⟨some ⟨ga, 0, none⟩, s7, zs⟩, ⟨some ⟨gb, 0, none⟩, 7, z7⟩]) (by simpa [Pt.val, es, e7] using q_gl) kk (by
        simp only [List.mem_cons, List.not_mem_nil, or_false]
        rintro p (rfl | rfl)
        · exact ⟨by show zs.length ≤ s7; omega, by show s7 ≤ _; omega, ha.out⟩
        · exact ⟨by show z7.length ≤ 7; omega, by show 7 ≤ _; omega, hb.out⟩)
      have HC := Lib.hid (seal_big C (zeros 16) 1 [97] (some ⟨gl, 0, none⟩) 2 _ y2 (by decide) (by simp) (by simp only [List.map_cons, List.map_nil, List.flatten_cons, List.flatten_nil, List.length_append, List.length_nil]; omega) pl)
      change Hid (Calls _ _ #[.agg C.toArray, .int .u8 1, .string { data := #[97] }, .agg (zeros 16).toArray, .slice (some ⟨gl, 0, none⟩) 2 2] _ _) at HC
      clear pl ha hb q_gl kk
      refine wpAnyH_ready (rs := [7]) (by kernel_rfl) (by simp) ?_
      refine AllReadyH.cons (o := { dst := some 82, op := Op.call { callee := Callee.value (Operand.func 23), args := #[Operand.tmp 75, Operand.const (Value.int IntKind.u8 1), Operand.const (Value.string { data := #[97] }), Operand.tmp 76, Operand.tmp 81], argTypes := #[45, 5, 9, 28, 54] }, type := 44, pos := "law.go:123", after := #[{ on := 0, ground := Ground.data }, { on := 1, ground := Ground.data }, { on := 6, ground := Ground.data }], guard := none }) rfl (fun KK hKK => ?_) AllReadyH.nil
      go_simp
      with_reducible refine (HC.out).mono ?_
      rintro e y3 ⟨rfl, kb⟩
      have hN := hH.trans (kb.mono hH.size)
      clear hH kb
      refine hKK.out _ _ hN (fun hH => ?_)
      clear hKK KK hN
      try simp only [Act.put, List.setIfInBounds_toArray, List.set_cons_zero, List.set_cons_succ]
      clear HC
      refine wpAnyH_take (i := 8) (oi := { dst := some 74, op := Op.move (Operand.tmp 82), type := 44, pos := "law.go:123", after := #[{ on := 7, ground := Ground.data }], guard := none }) (v := .tuple #[.slice none 0 0, .int .i64 4]) rfl (by kernel_rfl) (by kernel_rfl) (by kernel_rfl) (fun _ _ _ h => h) (Or.inl ⟨by rfl, fun wx hS => ?_⟩) hH ?_
      · go_simp
      simp only [Act.put, List.setIfInBounds_toArray, List.set_cons_zero, List.set_cons_succ]
      refine wpAnyH_take (i := 9) (oi := { dst := some 83, op := Op.extract (Operand.tmp 74) 0, type := 22, pos := "law.go:123", after := #[{ on := 8, ground := Ground.data }], guard := none }) (v := .slice none 0 0) rfl (by kernel_rfl) (by kernel_rfl) (by kernel_rfl) (fun _ _ _ h => h) (Or.inl ⟨by rfl, fun wx hS => ?_⟩) hH ?_
      · go_simp
      simp only [Act.put, List.setIfInBounds_toArray, List.set_cons_zero, List.set_cons_succ]
      refine wpAnyH_take (i := 10) (oi := { dst := some 84, op := Op.extract (Operand.tmp 74) 1, type := 41, pos := "law.go:123", after := #[{ on := 8, ground := Ground.data }, { on := 11, ground := Ground.gcOnly Departure.lateStores }], guard := none }) (v := .int .i64 4) rfl (by kernel_rfl) (by kernel_rfl) (by kernel_rfl) (fun _ _ _ h => h) (Or.inl ⟨by rfl, fun wx hS => ?_⟩) hH ?_
      · go_simp
      simp only [Act.put, List.setIfInBounds_toArray, List.set_cons_zero, List.set_cons_succ]
      refine wpAnyH_ready (rs := [11]) (by kernel_rfl) (by simp) ?_
      refine AllReadyH.cons (o := { dst := some 11, op := Op.assign (Operand.tmp 83), type := 22, pos := "law.go:123", after := #[{ on := 9, ground := Ground.data }, { on := 7, ground := Ground.chain }, { on := 0, ground := Ground.phase }, { on := 1, ground := Ground.phase }, { on := 2, ground := Ground.phase }, { on := 3, ground := Ground.phase }, { on := 4, ground := Ground.phase }, { on := 5, ground := Ground.phase }, { on := 6, ground := Ground.phase }, { on := 7, ground := Ground.phase }, { on := 8, ground := Ground.phase }, { on := 9, ground := Ground.phase }, { on := 10, ground := Ground.textOnly Departure.lateStores }], guard := none }) rfl (fun KK hKK => ?_) AllReadyH.nil
      go_simp
      refine hKK.out _ _ hH (fun hH => ?_)
      clear hKK KK
      try simp only [Act.put, List.setIfInBounds_toArray, List.set_cons_zero, List.set_cons_succ]
      refine wpAnyH_ready (rs := [12]) (by kernel_rfl) (by simp) ?_
      refine AllReadyH.cons (o := { dst := some 12, op := Op.assign (Operand.tmp 84), type := 41, pos := "law.go:123", after := #[{ on := 10, ground := Ground.data }, { on := 11, ground := Ground.chain }, { on := 0, ground := Ground.phase }, { on := 1, ground := Ground.phase }, { on := 2, ground := Ground.phase }, { on := 3, ground := Ground.phase }, { on := 4, ground := Ground.phase }, { on := 5, ground := Ground.phase }, { on := 6, ground := Ground.phase }, { on := 7, ground := Ground.phase }, { on := 8, ground := Ground.phase }, { on := 9, ground := Ground.phase }, { on := 10, ground := Ground.phase }, { on := 11, ground := Ground.phase }], guard := none }) rfl (fun KK hKK => ?_) AllReadyH.nil
      go_simp
      refine hKK.out _ _ hH (fun hH => ?_)
      clear hKK KK
      try simp only [Act.put, List.setIfInBounds_toArray, List.set_cons_zero, List.set_cons_succ]
      refine wpAnyH_done (by kernel_rfl) ?_ _
      refine NoPanic.normal ?_
      have KB := Lib.hid hH
      have RK := Lib.hid (fun X (hX : Below y3.heap.size y3 X) => RK.out X (KB.out.trans (hX.mono KB.out.size)))
      have B8 := Lib.hid (B7.out.trans (KB.out.mono B7.out.size))
      clear hH KB
      go_upto_region 11 with fail
      refine wp_region_noPanic ?_
      refine wp_region_held_drew (S := fun w' => Below y3.heap.size y3 w') (by kernel_rfl) (below_drew' (Below.refl _ _)) (fun hH => ?_)
      generalize y3.drew = x1 at *
      refine wpAnyH_take (i := 0) (oi := { dst := some 86, op := Op.load 45 (Operand.tmp 6), type := 45, pos := "law.go:124", after := #[], guard := none }) (v := .agg (C).toArray) rfl (by kernel_rfl) (by kernel_rfl) (by kernel_rfl) (fun _ _ _ h => h) (yieldsIf_load_mid (by rfl) 45 _ rfl (g) 0 rfl (C) _ (fun wx hS => RK.out wx hS) Tryd.underlying45 rfl (by rw [infoKeys, KL.out])) hH ?_
      simp only [Act.put, List.setIfInBounds_toArray, List.set_cons_zero, List.set_cons_succ]
      refine wpAnyH_take (i := 1) (oi := { dst := some 87, op := Op.move (Operand.tmp 5), type := 9, pos := "law.go:124", after := #[], guard := none }) (v := .string (str nm)) rfl (by kernel_rfl) (by kernel_rfl) (by kernel_rfl) (fun _ _ _ h => h) (Or.inl ⟨by rfl, fun wx hS => ?_⟩) hH ?_
      · go_simp
      simp only [Act.put, List.setIfInBounds_toArray, List.set_cons_zero, List.set_cons_succ]
      refine wpAnyH_take (i := 2) (oi := { dst := some 88, op := Op.build 28 #[], type := 28, pos := "law.go:124", after := #[], guard := none }) (v := .agg (zeros 16).toArray) rfl (by kernel_rfl) (by kernel_rfl) (by kernel_rfl) (fun _ _ _ h => h) (Or.inl ⟨by rfl, fun wx hS => ?_⟩) hH ?_
      · go_simp; rfl
      simp only [Act.put, List.setIfInBounds_toArray, List.set_cons_zero, List.set_cons_succ]
      refine wpAnyH_take (i := 3) (oi := { dst := some 89, op := Op.move (Operand.tmp 1), type := 3, pos := "law.go:124", after := #[], guard := none }) (v := .int .i64 (size : Int)) rfl (by kernel_rfl) (by kernel_rfl) (by kernel_rfl) (fun _ _ _ h => h) (Or.inl ⟨by rfl, fun wx hS => ?_⟩) hH ?_
      · go_simp
      simp only [Act.put, List.setIfInBounds_toArray, List.set_cons_zero, List.set_cons_succ]
      have mk1 := fun X => make_zerosW size X hsize
      obtain ⟨zs, hzs⟩ : ∃ zs : List UInt8, zs = List.replicate size 0 := ⟨_, rfl⟩
      have es : zs.length = size := by rw [hzs, List.length_replicate]
      rw [← hzs] at mk1
      clear hzs
      refine wpAnyH_ready (rs := [4]) (by kernel_rfl) (by simp) ?_
      refine AllReadyH.cons (o := { dst := some 90, op := Op.makeSlice 22 (Operand.tmp 89) (Operand.tmp 89), type := 22, pos := "law.go:124", after := #[{ on := 3, ground := Ground.data }, { on := 3, ground := Ground.data }], guard := none }) rfl (fun KK hKK => ?_) AllReadyH.nil
      have kb := alloc_below x1 (.cells (byteCells zs).toArray 5 (0, 0))
      have q_ga := made_in x1 zs
      have hN := hH.trans (kb.mono hH.size)
      clear hH kb
      go_simp
      refine hKK.out _ _ hN (fun hH => ?_)
      clear hKK KK hN
      try simp only [Act.put, List.setIfInBounds_toArray, List.set_cons_zero, List.set_cons_succ]
      generalize x1.alloc (.cells (byteCells zs).toArray 5 (0, 0)) = z1 at *
      generalize x1.heap.size = ga at q_ga ⊢
      clear mk1
      have ha := Lib.hid q_ga
      clear q_ga
      have kk := Below.refl z1.heap.size z1
      refine wpAnyH_ready (rs := [5]) (by kernel_rfl) (by simp) ?_
      refine AllReadyH.cons (o := { dst := some 91, op := Op.buildSlice 54 1 #[(0, Operand.tmp 90)], type := 54, pos := "law.go:124", after := #[{ on := 4, ground := Ground.data }], guard := none }) rfl (fun KK hKK => ?_) AllReadyH.nil
      have kb := alloc_below z1 (.cells #[.slice (some ⟨ga, 0, none⟩) size size] 22 (0, 0))
      replace kk := kk.trans (kb.mono kk.size)
      have q_gl := cellsAt.new z1 #[.slice (some ⟨ga, 0, none⟩) size size] z1.heap.size 22 [.slice (some ⟨ga, 0, none⟩) size size] rfl rfl
      have hN := hH.trans (kb.mono hH.size)
      clear hH kb
      go_simp
      refine hKK.out _ _ hN (fun hH => ?_)
      clear hKK KK hN
      try simp only [Act.put, List.setIfInBounds_toArray, List.set_cons_zero, List.set_cons_succ]
      generalize z1.alloc (.cells #[.slice (some ⟨ga, 0, none⟩) size size] 22 (0, 0)) = z2 at *
      generalize z1.heap.size = gl at q_gl ⊢
      have pl := cellsAt.parts (W := z1) (X := z2) (g := gl) (ps := [⟨some ⟨ga, 0, none⟩, size, zs⟩]) (by simpa [Pt.val, es] using q_gl) kk (by
        simp only [List.mem_cons, List.not_mem_nil, or_false]
        rintro p rfl
        exact ⟨by show zs.length ≤ size; omega, by show size ≤ _; omega, ha.out⟩)
      have hbg := fun (h : nm.length ≤ 255) => seal_big C (zeros 16) 1 nm (some ⟨gl, 0, none⟩) 1 _ z2 h (by simp) (by simp only [List.map_cons, List.map_nil, List.flatten_cons, List.flatten_nil, List.length_append, List.length_nil]; omega) pl
      have hnm2 := fun (h : 255 < nm.length) => seal_name C (zeros 16) 1 nm (some ⟨gl, 0, none⟩) 1 1 z2 h
      change ∀ h, Calls Tryd.prog 23 #[.agg C.toArray, .int .u8 (V 1), .string (str nm), .agg (zeros 16).toArray, .slice (some ⟨gl, 0, none⟩) 1 1] z2 _ at hbg
      have HC : Hid (Calls Tryd.prog 23 #[.agg C.toArray, .int .u8 (V 1), .string (str nm), .agg (zeros 16).toArray, .slice (some ⟨gl, 0, none⟩) 1 1] z2 fun e w' => e = .returned (.tuple #[.slice none 0 0, .int .i64 (if 255 < nm.length then 5 else 4)]) ∧ Below z2.heap.size z2 w') := Lib.hid (by
        by_cases h : 255 < nm.length
        · rw [if_pos h]
          exact hnm2 h
        · rw [if_neg h]
          exact hbg (by omega))
      change Hid (Calls _ _ #[.agg C.toArray, .int .u8 1, .string (str nm), .agg (zeros 16).toArray, .slice (some ⟨gl, 0, none⟩) 1 1] _ _) at HC
      clear hbg hnm2
      clear pl ha q_gl kk
      refine wpAnyH_ready (rs := [6]) (by kernel_rfl) (by simp) ?_
      refine AllReadyH.cons (o := { dst := some 92, op := Op.call { callee := Callee.value (Operand.func 23), args := #[Operand.tmp 86, Operand.const (Value.int IntKind.u8 1), Operand.tmp 87, Operand.tmp 88, Operand.tmp 91], argTypes := #[45, 5, 9, 28, 54] }, type := 44, pos := "law.go:124", after := #[{ on := 0, ground := Ground.data }, { on := 1, ground := Ground.data }, { on := 2, ground := Ground.data }, { on := 5, ground := Ground.data }], guard := none }) rfl (fun KK hKK => ?_) AllReadyH.nil
      go_simp
      with_reducible refine (HC.out).mono ?_
      rintro e z3 ⟨rfl, kb⟩
      have hN := hH.trans (kb.mono hH.size)
      clear hH kb
      refine hKK.out _ _ hN (fun hH => ?_)
      clear hKK KK hN
      try simp only [Act.put, List.setIfInBounds_toArray, List.set_cons_zero, List.set_cons_succ]
      clear HC
      refine wpAnyH_take (i := 7) (oi := { dst := some 85, op := Op.move (Operand.tmp 92), type := 44, pos := "law.go:124", after := #[{ on := 6, ground := Ground.data }], guard := none }) (v := .tuple #[.slice none 0 0, .int .i64 (if 255 < nm.length then 5 else 4)]) rfl (by kernel_rfl) (by kernel_rfl) (by kernel_rfl) (fun _ _ _ h => h) (Or.inl ⟨by rfl, fun wx hS => ?_⟩) hH ?_
      · go_simp
      simp only [Act.put, List.setIfInBounds_toArray, List.set_cons_zero, List.set_cons_succ]
      refine wpAnyH_take (i := 8) (oi := { dst := some 93, op := Op.extract (Operand.tmp 85) 0, type := 22, pos := "law.go:124", after := #[{ on := 7, ground := Ground.data }], guard := none }) (v := .slice none 0 0) rfl (by kernel_rfl) (by kernel_rfl) (by kernel_rfl) (fun _ _ _ h => h) (Or.inl ⟨by rfl, fun wx hS => ?_⟩) hH ?_
      · go_simp
      simp only [Act.put, List.setIfInBounds_toArray, List.set_cons_zero, List.set_cons_succ]
      refine wpAnyH_take (i := 9) (oi := { dst := some 94, op := Op.extract (Operand.tmp 85) 1, type := 41, pos := "law.go:124", after := #[{ on := 7, ground := Ground.data }, { on := 10, ground := Ground.gcOnly Departure.lateStores }], guard := none }) (v := .int .i64 (if 255 < nm.length then 5 else 4)) rfl (by kernel_rfl) (by kernel_rfl) (by kernel_rfl) (fun _ _ _ h => h) (Or.inl ⟨by rfl, fun wx hS => ?_⟩) hH ?_
      · go_simp
      simp only [Act.put, List.setIfInBounds_toArray, List.set_cons_zero, List.set_cons_succ]
      refine wpAnyH_ready (rs := [10]) (by kernel_rfl) (by simp) ?_
      refine AllReadyH.cons (o := { dst := some 13, op := Op.assign (Operand.tmp 93), type := 22, pos := "law.go:124", after := #[{ on := 8, ground := Ground.data }, { on := 6, ground := Ground.chain }, { on := 0, ground := Ground.phase }, { on := 1, ground := Ground.phase }, { on := 2, ground := Ground.phase }, { on := 3, ground := Ground.phase }, { on := 4, ground := Ground.phase }, { on := 5, ground := Ground.phase }, { on := 6, ground := Ground.phase }, { on := 7, ground := Ground.phase }, { on := 8, ground := Ground.phase }, { on := 9, ground := Ground.textOnly Departure.lateStores }], guard := none }) rfl (fun KK hKK => ?_) AllReadyH.nil
      go_simp
      refine hKK.out _ _ hH (fun hH => ?_)
      clear hKK KK
      try simp only [Act.put, List.setIfInBounds_toArray, List.set_cons_zero, List.set_cons_succ]
      refine wpAnyH_ready (rs := [11]) (by kernel_rfl) (by simp) ?_
      refine AllReadyH.cons (o := { dst := some 14, op := Op.assign (Operand.tmp 94), type := 41, pos := "law.go:124", after := #[{ on := 9, ground := Ground.data }, { on := 10, ground := Ground.chain }, { on := 0, ground := Ground.phase }, { on := 1, ground := Ground.phase }, { on := 2, ground := Ground.phase }, { on := 3, ground := Ground.phase }, { on := 4, ground := Ground.phase }, { on := 5, ground := Ground.phase }, { on := 6, ground := Ground.phase }, { on := 7, ground := Ground.phase }, { on := 8, ground := Ground.phase }, { on := 9, ground := Ground.phase }, { on := 10, ground := Ground.phase }], guard := none }) rfl (fun KK hKK => ?_) AllReadyH.nil
      go_simp
      refine hKK.out _ _ hH (fun hH => ?_)
      clear hKK KK
      try simp only [Act.put, List.setIfInBounds_toArray, List.set_cons_zero, List.set_cons_succ]
      refine wpAnyH_done (by kernel_rfl) ?_ _
      refine NoPanic.normal ?_
      have B9 := Lib.hid (B8.out.trans (hH.mono B8.out.size))
      clear hH
      first | simp only [if_pos h255n] | simp only [if_pos h255] | skip
      go_wp2_with fail
      go_ret
      exact ⟨congrArg (fun b => Ending.returned (.bool b)) (show (!decide ((n : Int) ≤ 255)) = true by simp; omega), B9.out⟩
  · have CS := Lib.hid (fun W hW X ga hX hq => seal_at W Z32 Z32 (List.replicate 16 0) 1 nm rfl rfl rfl hW [⟨none, 0, []⟩] [.slice none 0 0] rfl (by simp only [List.mem_singleton]; rintro p rfl; exact ⟨⟨Nat.le_refl _, by show (0 : Nat) ≤ _; omega, Or.inl rfl⟩, fun _ => rfl⟩) [] rfl (by simp) 1 rfl (by omega) X ga hX hq)
    have CO := Lib.hid (fun X hX => openR_any Z32 Z32 1 nm [] none 0 X rfl rfl (by simp) (by simp) (by omega) (Or.inl rfl) hX)
    rw [KZ] at CS CO
    rw [NZ] at CS
    have e1 : (sealR Z32 Z32 1 nm (List.replicate 16 0) []).2 = if 255 < n then 5 else 0 := by unfold sealR; rw [hnl]; split <;> rfl
    have e2 : openR Z32 Z32 1 nm [] = ([], if 255 < n then 5 else 10) := by
      unfold openR; rw [hnl]
      by_cases h : 255 < n
      · rw [if_pos h, if_pos h]
      · rw [if_neg h, if_neg h, if_pos (by decide)]
    rw [e1] at CS
    rw [e2] at CO
    rw [if_neg h255] at CS CO
    change Hid (∀ W (hW : tables W) X (ga : Nat) (hX : Below W.heap.size W X) (hq : cellsAt X ga [.slice none 0 0]), Calls Tryd.prog 23 #[.agg (zeros 64).toArray, .int .u8 1, .string (str nm), .agg (zeros 16).toArray, .slice (some ⟨ga, 0, none⟩) 1 1] X _) at CS
    change Hid (∀ X (hX : tables X), Calls Tryd.prog 25 #[.agg (zeros 64).toArray, .int .u8 1, .string (str nm), .slice none 0 0] X _) at CO
    have hb := bz64
    clear e1 e2 KZ NZ
    obtain ⟨C, hC⟩ : ∃ C, C = zeros 64 := ⟨_, rfl⟩
    rw [← hC] at hb G1 B2 KL ONE CS CO
    have hzk := zeroKeys
    rw [← hC] at hzk
    clear hC
    go_wp2_with (first
      | (refine Ci.wpList_build rfl 45 _ rfl _ _ (hb _) rfl ?_)
      | (refine wpList_store_block rfl 45 _ _ rfl w1.heap.size 0 C rfl rfl C 45 G1.out (by rw [infoKeys, KL.out]) (by rw [KL.out]; decide) ONE.out ?_))
    intro w2 h1 h2 h3
    have h1 := h1.out
    rw [splice_all _ _ rfl] at h1
    have G2 := Lib.hid h1
    have B3 := Lib.hid (B2.out.trans ((h2.out.below (Nat.le_refl _) (by simp)).mono B1.out.size))
    obtain ⟨g, hg⟩ : ∃ g, g = w1.heap.size := ⟨_, rfl⟩
    rw [← hg] at G2 ⊢
    have T2 := Lib.hid (HT.out.below B3.out HT.out.2.2.1 HT.out.2.2.2)
    clear h1 h2 h3 hg G1 B2 ONE B1 hzk hb HT
    have RK2 := Lib.hid (Ci.range_of G2.out)
    have hz16 := bz16
    have kl := alloc_below w2 (.cells #[.slice none 0 0] 22 (0, 0))
    have CS2 := Lib.hid (CS.out w2 T2.out _ w2.heap.size kl (cellsAt.new w2 #[.slice none 0 0] w2.heap.size 22 [.slice none 0 0] rfl rfl))
    have B4 := Lib.hid (B3.out.trans (kl.mono B3.out.size))
    have G4 := Lib.hid (G2.out.below kl G2.out.lt)
    have T4 := Lib.hid (T2.out.below kl T2.out.2.2.1 T2.out.2.2.2)
    clear kl CS
    go_wp2_with (first
      | (refine Ci.wpList_load_mid_if (by rfl) 45 _ rfl g 0 rfl C _ RK2.out Tryd.underlying45 rfl (by rw [infoKeys, KL.out]) ?_)
      | (refine Ci.wpList_build rfl 28 _ rfl _ _ (hz16 _) rfl ?_))
    generalize w2.alloc (.cells #[.slice none 0 0] 22 (0, 0)) = w3 at *
    with_reducible refine CS2.out.mono ?_
    rintro e w4 ⟨v, rfl, -, kk⟩
    have B5 := Lib.hid (B4.out.trans (kk.mono B4.out.size))
    have G5 := Lib.hid (G4.out.below kk G4.out.lt)
    have T5 := Lib.hid (T4.out.below kk T4.out.2.2.1 T4.out.2.2.2)
    have RK5 := Lib.hid (Ci.range_of G5.out)
    have CO5 := Lib.hid (CO.out w4 T5.out)
    clear kk CS2 CO B3 B4 G2 G4 T2 T4 RK2
    go_wp2_with (refine Ci.wpList_load_mid_if (by rfl) 45 _ rfl g 0 rfl C _ RK5.out Tryd.underlying45 rfl (by rw [infoKeys, KL.out]) ?_)
    with_reducible refine CO5.out.mono ?_
    rintro e w5 ⟨v2, rfl, -, kk⟩
    have B6 := Lib.hid (B5.out.trans (kk.mono B5.out.size))
    have G6 := Lib.hid (G5.out.below kk G5.out.lt)
    have T6 := Lib.hid (T5.out.below kk T5.out.2.2.1 T5.out.2.2.2)
    have WX := Lib.hid (waxes_any w5 T6.out)
    clear kk CO5 B5 G5 T5 RK5
    have g1 : ¬ (255 : Int) < (n : Int) := by omega
    have h255n : ¬ 255 < nm.length := by omega
    go_wp2_with fail
    with_reducible refine WX.out.mono ?_
    rintro e w6 ⟨rfl, kk⟩
    have B7 := Lib.hid (B6.out.trans (kk.mono B6.out.size))
    have G7 := Lib.hid (G6.out.below kk G6.out.lt)
    have T7 := Lib.hid (T6.out.below kk T6.out.2.2.1 T6.out.2.2.2)
    clear kk WX B6 G6 T6
    by_cases hs : size ≤ 1048576
    · have g2 : (size : Int) ≤ 1048576 := by omega
      go_wp2_with fail
      go_ret
      exact ⟨rfl, B7.out⟩
    have g2 : ¬ (size : Int) ≤ 1048576 := by omega
    have hs8 : s7 + 7 = size := HSZ.out
    have RK := Lib.hid (fun X (hX : Below w6.heap.size w6 X) => Ci.range_of (G7.out.below hX G7.out.lt))
    go_upto_region 10 with fail
    refine wp_region_noPanic ?_
    refine wp_region_held_drew (S := fun w' => Below w6.heap.size w6 w') (by kernel_rfl) (below_drew' (Below.refl _ _)) (fun hH => ?_)
    generalize w6.drew = x0 at *
    refine wpAnyH_take (i := 0) (oi := { dst := some 75, op := Op.load 45 (Operand.tmp 6), type := 45, pos := "law.go:123", after := #[], guard := none }) (v := .agg (C).toArray) rfl (by kernel_rfl) (by kernel_rfl) (by kernel_rfl) (fun _ _ _ h => h) (yieldsIf_load_mid (by rfl) 45 _ rfl (g) 0 rfl (C) _ (fun wx hS => RK.out wx hS) Tryd.underlying45 rfl (by rw [infoKeys, KL.out])) hH ?_
    simp only [Act.put, List.setIfInBounds_toArray, List.set_cons_zero, List.set_cons_succ]
    refine wpAnyH_take (i := 1) (oi := { dst := some 76, op := Op.build 28 #[], type := 28, pos := "law.go:123", after := #[], guard := none }) (v := .agg (zeros 16).toArray) rfl (by kernel_rfl) (by kernel_rfl) (by kernel_rfl) (fun _ _ _ h => h) (Or.inl ⟨by rfl, fun wx hS => ?_⟩) hH ?_
    · go_simp; rfl
    simp only [Act.put, List.setIfInBounds_toArray, List.set_cons_zero, List.set_cons_succ]
    refine wpAnyH_take (i := 2) (oi := { dst := some 77, op := Op.move (Operand.tmp 1), type := 3, pos := "law.go:123", after := #[], guard := none }) (v := .int .i64 (size : Int)) rfl (by kernel_rfl) (by kernel_rfl) (by kernel_rfl) (fun _ _ _ h => h) (Or.inl ⟨by rfl, fun wx hS => ?_⟩) hH ?_
    · go_simp
    simp only [Act.put, List.setIfInBounds_toArray, List.set_cons_zero, List.set_cons_succ]
    refine wpAnyH_take (i := 3) (oi := { dst := some 78, op := Op.binOp BinOp.sub 3 (Operand.tmp 77) (Operand.const (Value.int IntKind.i64 7)) 3, type := 3, pos := "law.go:123", after := #[{ on := 2, ground := Ground.data }], guard := none }) (v := .int .i64 (s7 : Int)) rfl (by kernel_rfl) (by kernel_rfl) (by kernel_rfl) (fun _ _ _ h => h) (Or.inl ⟨by rfl, fun wx hS => ?_⟩) hH ?_
    · have e1 := q7.out; go_simp
    simp only [Act.put, List.setIfInBounds_toArray, List.set_cons_zero, List.set_cons_succ]
    have mk1 := fun X => make_zerosW s7 X hs7
    have mk2 := fun X => make_zerosW 7 X (by omega)
    rw [show ((7 : Nat) : Int) = 7 from rfl] at mk2
    obtain ⟨zs, hzs⟩ : ∃ zs : List UInt8, zs = List.replicate s7 0 := ⟨_, rfl⟩
    obtain ⟨z7, hz7⟩ : ∃ zs : List UInt8, zs = List.replicate 7 0 := ⟨_, rfl⟩
    have es : zs.length = s7 := by rw [hzs, List.length_replicate]
    have e7 : z7.length = 7 := by rw [hz7, List.length_replicate]
    rw [← hzs] at mk1
    rw [← hz7] at mk2
    clear hzs hz7
    revert hH
    refine join2 (Q := ?R10_1_) (H := fun ga gb wx => Below w6.heap.size w6 wx ∧ True ∧ bytesIn wx (some ⟨ga, 0, none⟩) zs ∧ bytesIn wx (some ⟨gb, 0, none⟩) z7) (fun REST => ?nain10_1_) ?sest10_1_
    case nain10_1_ =>
      intro hH 
      refine wpAnyH_ready (rs := [4, 5]) (by kernel_rfl) (by simp) ?_
      refine AllReadyH.cons (o := { dst := some 79, op := Op.makeSlice 22 (Operand.tmp 78) (Operand.tmp 78), type := 22, pos := "law.go:123", after := #[{ on := 3, ground := Ground.data }, { on := 3, ground := Ground.data }], guard := none }) rfl (fun KK hKK => ?_) (AllReadyH.cons (o := { dst := some 80, op := Op.makeSlice 22 (Operand.const (Value.int IntKind.i64 7)) (Operand.const (Value.int IntKind.i64 7)), type := 22, pos := "law.go:123", after := #[], guard := none }) rfl (fun KK hKK => ?_) AllReadyH.nil)
      · have kb := alloc_below x0 (.cells (byteCells zs).toArray 5 (0, 0))
        have q_ga := made_in x0 zs
        have hN := hH.trans (kb.mono hH.size)
        clear hH kb
        go_simp
        refine hKK.out _ _ hN (fun hH => ?_)
        clear hKK KK hN
        try simp only [Act.put, List.setIfInBounds_toArray, List.set_cons_zero, List.set_cons_succ]
        generalize x0.alloc (.cells (byteCells zs).toArray 5 (0, 0)) = x10_1_0 at *
        generalize x0.heap.size = ga at q_ga ⊢
        refine wpAnyH_ready (rs := [5]) (by kernel_rfl) (by simp) ?_
        refine AllReadyH.cons (o := { dst := some 80, op := Op.makeSlice 22 (Operand.const (Value.int IntKind.i64 7)) (Operand.const (Value.int IntKind.i64 7)), type := 22, pos := "law.go:123", after := #[], guard := none }) rfl (fun KK hKK => ?_) AllReadyH.nil
        have kb := alloc_below x10_1_0 (.cells (byteCells z7).toArray 5 (0, 0))
        replace q_ga := bytesIn.below q_ga kb
        have q_gb := made_in x10_1_0 z7
        have hN := hH.trans (kb.mono hH.size)
        clear hH kb
        go_simp
        refine hKK.out _ _ hN (fun hH => ?_)
        clear hKK KK hN
        try simp only [Act.put, List.setIfInBounds_toArray, List.set_cons_zero, List.set_cons_succ]
        generalize x10_1_0.alloc (.cells (byteCells z7).toArray 5 (0, 0)) = x10_1_1 at *
        generalize x10_1_0.heap.size = gb at q_gb ⊢
        refine wpAnyH_listed (L2 := #[true, true, true, true, true, true, false, false, false, false, false, false, false]) (by kernel_rfl) ?_
        exact REST ga gb x10_1_1 ⟨hH, True.intro, q_ga, q_gb⟩
      · have kb := alloc_below x0 (.cells (byteCells z7).toArray 5 (0, 0))
        have q_gb := made_in x0 z7
        have hN := hH.trans (kb.mono hH.size)
        clear hH kb
        go_simp
        refine hKK.out _ _ hN (fun hH => ?_)
        clear hKK KK hN
        try simp only [Act.put, List.setIfInBounds_toArray, List.set_cons_zero, List.set_cons_succ]
        generalize x0.alloc (.cells (byteCells z7).toArray 5 (0, 0)) = x10_1_0 at *
        generalize x0.heap.size = gb at q_gb ⊢
        refine wpAnyH_ready (rs := [4]) (by kernel_rfl) (by simp) ?_
        refine AllReadyH.cons (o := { dst := some 79, op := Op.makeSlice 22 (Operand.tmp 78) (Operand.tmp 78), type := 22, pos := "law.go:123", after := #[{ on := 3, ground := Ground.data }, { on := 3, ground := Ground.data }], guard := none }) rfl (fun KK hKK => ?_) AllReadyH.nil
        have kb := alloc_below x10_1_0 (.cells (byteCells zs).toArray 5 (0, 0))
        replace q_gb := bytesIn.below q_gb kb
        have q_ga := made_in x10_1_0 zs
        have hN := hH.trans (kb.mono hH.size)
        clear hH kb
        go_simp
        refine hKK.out _ _ hN (fun hH => ?_)
        clear hKK KK hN
        try simp only [Act.put, List.setIfInBounds_toArray, List.set_cons_zero, List.set_cons_succ]
        generalize x10_1_0.alloc (.cells (byteCells zs).toArray 5 (0, 0)) = x10_1_1 at *
        generalize x10_1_0.heap.size = ga at q_ga ⊢
        refine wpAnyH_listed (L2 := #[true, true, true, true, true, true, false, false, false, false, false, false, false]) (by kernel_rfl) ?_
        exact REST ga gb x10_1_1 ⟨hH, True.intro, q_ga, q_gb⟩
    case sest10_1_ =>
      rintro ga gb y1 ⟨hH, -, q_ga, q_gb⟩
      clear mk1 mk2
      have ha := Lib.hid q_ga
      have hb := Lib.hid q_gb
      clear q_ga q_gb
      have kk := Below.refl y1.heap.size y1
      refine wpAnyH_ready (rs := [6]) (by kernel_rfl) (by simp) ?_
      refine AllReadyH.cons (o := { dst := some 81, op := Op.buildSlice 54 2 #[(0, Operand.tmp 79), (1, Operand.tmp 80)], type := 54, pos := "law.go:123", after := #[{ on := 4, ground := Ground.data }, { on := 5, ground := Ground.data }], guard := none }) rfl (fun KK hKK => ?_) AllReadyH.nil
      have kb := alloc_below y1 (.cells #[.slice (some ⟨ga, 0, none⟩) s7 s7, .slice (some ⟨gb, 0, none⟩) 7 7] 22 (0, 0))
      replace kk := kk.trans (kb.mono kk.size)
      have q_gl := cellsAt.new y1 #[.slice (some ⟨ga, 0, none⟩) s7 s7, .slice (some ⟨gb, 0, none⟩) 7 7] y1.heap.size 22 [.slice (some ⟨ga, 0, none⟩) s7 s7, .slice (some ⟨gb, 0, none⟩) 7 7] rfl rfl
      have hN := hH.trans (kb.mono hH.size)
      clear hH kb
      go_simp
      refine hKK.out _ _ hN (fun hH => ?_)
      clear hKK KK hN
      try simp only [Act.put, List.setIfInBounds_toArray, List.set_cons_zero, List.set_cons_succ]
      generalize y1.alloc (.cells #[.slice (some ⟨ga, 0, none⟩) s7 s7, .slice (some ⟨gb, 0, none⟩) 7 7] 22 (0, 0)) = y2 at *
      generalize y1.heap.size = gl at q_gl ⊢
      have pl := cellsAt.parts (W := y1) (X := y2) (g := gl) (ps := [⟨some ⟨ga, 0, none⟩, s7, zs⟩, ⟨some ⟨gb, 0, none⟩, 7, z7⟩]) (by simpa [Pt.val, es, e7] using q_gl) kk (by
        simp only [List.mem_cons, List.not_mem_nil, or_false]
        rintro p (rfl | rfl)
        · exact ⟨by show zs.length ≤ s7; omega, by show s7 ≤ _; omega, ha.out⟩
        · exact ⟨by show z7.length ≤ 7; omega, by show 7 ≤ _; omega, hb.out⟩)
      have HC := Lib.hid (seal_big C (zeros 16) 1 [97] (some ⟨gl, 0, none⟩) 2 _ y2 (by decide) (by simp) (by simp only [List.map_cons, List.map_nil, List.flatten_cons, List.flatten_nil, List.length_append, List.length_nil]; omega) pl)
      change Hid (Calls _ _ #[.agg C.toArray, .int .u8 1, .string { data := #[97] }, .agg (zeros 16).toArray, .slice (some ⟨gl, 0, none⟩) 2 2] _ _) at HC
      clear pl ha hb q_gl kk
      refine wpAnyH_ready (rs := [7]) (by kernel_rfl) (by simp) ?_
      refine AllReadyH.cons (o := { dst := some 82, op := Op.call { callee := Callee.value (Operand.func 23), args := #[Operand.tmp 75, Operand.const (Value.int IntKind.u8 1), Operand.const (Value.string { data := #[97] }), Operand.tmp 76, Operand.tmp 81], argTypes := #[45, 5, 9, 28, 54] }, type := 44, pos := "law.go:123", after := #[{ on := 0, ground := Ground.data }, { on := 1, ground := Ground.data }, { on := 6, ground := Ground.data }], guard := none }) rfl (fun KK hKK => ?_) AllReadyH.nil
      go_simp
      with_reducible refine (HC.out).mono ?_
      rintro e y3 ⟨rfl, kb⟩
      have hN := hH.trans (kb.mono hH.size)
      clear hH kb
      refine hKK.out _ _ hN (fun hH => ?_)
      clear hKK KK hN
      try simp only [Act.put, List.setIfInBounds_toArray, List.set_cons_zero, List.set_cons_succ]
      clear HC
      refine wpAnyH_take (i := 8) (oi := { dst := some 74, op := Op.move (Operand.tmp 82), type := 44, pos := "law.go:123", after := #[{ on := 7, ground := Ground.data }], guard := none }) (v := .tuple #[.slice none 0 0, .int .i64 4]) rfl (by kernel_rfl) (by kernel_rfl) (by kernel_rfl) (fun _ _ _ h => h) (Or.inl ⟨by rfl, fun wx hS => ?_⟩) hH ?_
      · go_simp
      simp only [Act.put, List.setIfInBounds_toArray, List.set_cons_zero, List.set_cons_succ]
      refine wpAnyH_take (i := 9) (oi := { dst := some 83, op := Op.extract (Operand.tmp 74) 0, type := 22, pos := "law.go:123", after := #[{ on := 8, ground := Ground.data }], guard := none }) (v := .slice none 0 0) rfl (by kernel_rfl) (by kernel_rfl) (by kernel_rfl) (fun _ _ _ h => h) (Or.inl ⟨by rfl, fun wx hS => ?_⟩) hH ?_
      · go_simp
      simp only [Act.put, List.setIfInBounds_toArray, List.set_cons_zero, List.set_cons_succ]
      refine wpAnyH_take (i := 10) (oi := { dst := some 84, op := Op.extract (Operand.tmp 74) 1, type := 41, pos := "law.go:123", after := #[{ on := 8, ground := Ground.data }, { on := 11, ground := Ground.gcOnly Departure.lateStores }], guard := none }) (v := .int .i64 4) rfl (by kernel_rfl) (by kernel_rfl) (by kernel_rfl) (fun _ _ _ h => h) (Or.inl ⟨by rfl, fun wx hS => ?_⟩) hH ?_
      · go_simp
      simp only [Act.put, List.setIfInBounds_toArray, List.set_cons_zero, List.set_cons_succ]
      refine wpAnyH_ready (rs := [11]) (by kernel_rfl) (by simp) ?_
      refine AllReadyH.cons (o := { dst := some 11, op := Op.assign (Operand.tmp 83), type := 22, pos := "law.go:123", after := #[{ on := 9, ground := Ground.data }, { on := 7, ground := Ground.chain }, { on := 0, ground := Ground.phase }, { on := 1, ground := Ground.phase }, { on := 2, ground := Ground.phase }, { on := 3, ground := Ground.phase }, { on := 4, ground := Ground.phase }, { on := 5, ground := Ground.phase }, { on := 6, ground := Ground.phase }, { on := 7, ground := Ground.phase }, { on := 8, ground := Ground.phase }, { on := 9, ground := Ground.phase }, { on := 10, ground := Ground.textOnly Departure.lateStores }], guard := none }) rfl (fun KK hKK => ?_) AllReadyH.nil
      go_simp
      refine hKK.out _ _ hH (fun hH => ?_)
      clear hKK KK
      try simp only [Act.put, List.setIfInBounds_toArray, List.set_cons_zero, List.set_cons_succ]
      refine wpAnyH_ready (rs := [12]) (by kernel_rfl) (by simp) ?_
      refine AllReadyH.cons (o := { dst := some 12, op := Op.assign (Operand.tmp 84), type := 41, pos := "law.go:123", after := #[{ on := 10, ground := Ground.data }, { on := 11, ground := Ground.chain }, { on := 0, ground := Ground.phase }, { on := 1, ground := Ground.phase }, { on := 2, ground := Ground.phase }, { on := 3, ground := Ground.phase }, { on := 4, ground := Ground.phase }, { on := 5, ground := Ground.phase }, { on := 6, ground := Ground.phase }, { on := 7, ground := Ground.phase }, { on := 8, ground := Ground.phase }, { on := 9, ground := Ground.phase }, { on := 10, ground := Ground.phase }, { on := 11, ground := Ground.phase }], guard := none }) rfl (fun KK hKK => ?_) AllReadyH.nil
      go_simp
      refine hKK.out _ _ hH (fun hH => ?_)
      clear hKK KK
      try simp only [Act.put, List.setIfInBounds_toArray, List.set_cons_zero, List.set_cons_succ]
      refine wpAnyH_done (by kernel_rfl) ?_ _
      refine NoPanic.normal ?_
      have KB := Lib.hid hH
      have RK := Lib.hid (fun X (hX : Below y3.heap.size y3 X) => RK.out X (KB.out.trans (hX.mono KB.out.size)))
      have B8 := Lib.hid (B7.out.trans (KB.out.mono B7.out.size))
      clear hH KB
      go_upto_region 11 with fail
      refine wp_region_noPanic ?_
      refine wp_region_held_drew (S := fun w' => Below y3.heap.size y3 w') (by kernel_rfl) (below_drew' (Below.refl _ _)) (fun hH => ?_)
      generalize y3.drew = x1 at *
      refine wpAnyH_take (i := 0) (oi := { dst := some 86, op := Op.load 45 (Operand.tmp 6), type := 45, pos := "law.go:124", after := #[], guard := none }) (v := .agg (C).toArray) rfl (by kernel_rfl) (by kernel_rfl) (by kernel_rfl) (fun _ _ _ h => h) (yieldsIf_load_mid (by rfl) 45 _ rfl (g) 0 rfl (C) _ (fun wx hS => RK.out wx hS) Tryd.underlying45 rfl (by rw [infoKeys, KL.out])) hH ?_
      simp only [Act.put, List.setIfInBounds_toArray, List.set_cons_zero, List.set_cons_succ]
      refine wpAnyH_take (i := 1) (oi := { dst := some 87, op := Op.move (Operand.tmp 5), type := 9, pos := "law.go:124", after := #[], guard := none }) (v := .string (str nm)) rfl (by kernel_rfl) (by kernel_rfl) (by kernel_rfl) (fun _ _ _ h => h) (Or.inl ⟨by rfl, fun wx hS => ?_⟩) hH ?_
      · go_simp
      simp only [Act.put, List.setIfInBounds_toArray, List.set_cons_zero, List.set_cons_succ]
      refine wpAnyH_take (i := 2) (oi := { dst := some 88, op := Op.build 28 #[], type := 28, pos := "law.go:124", after := #[], guard := none }) (v := .agg (zeros 16).toArray) rfl (by kernel_rfl) (by kernel_rfl) (by kernel_rfl) (fun _ _ _ h => h) (Or.inl ⟨by rfl, fun wx hS => ?_⟩) hH ?_
      · go_simp; rfl
      simp only [Act.put, List.setIfInBounds_toArray, List.set_cons_zero, List.set_cons_succ]
      refine wpAnyH_take (i := 3) (oi := { dst := some 89, op := Op.move (Operand.tmp 1), type := 3, pos := "law.go:124", after := #[], guard := none }) (v := .int .i64 (size : Int)) rfl (by kernel_rfl) (by kernel_rfl) (by kernel_rfl) (fun _ _ _ h => h) (Or.inl ⟨by rfl, fun wx hS => ?_⟩) hH ?_
      · go_simp
      simp only [Act.put, List.setIfInBounds_toArray, List.set_cons_zero, List.set_cons_succ]
      have mk1 := fun X => make_zerosW size X hsize
      obtain ⟨zs, hzs⟩ : ∃ zs : List UInt8, zs = List.replicate size 0 := ⟨_, rfl⟩
      have es : zs.length = size := by rw [hzs, List.length_replicate]
      rw [← hzs] at mk1
      clear hzs
      refine wpAnyH_ready (rs := [4]) (by kernel_rfl) (by simp) ?_
      refine AllReadyH.cons (o := { dst := some 90, op := Op.makeSlice 22 (Operand.tmp 89) (Operand.tmp 89), type := 22, pos := "law.go:124", after := #[{ on := 3, ground := Ground.data }, { on := 3, ground := Ground.data }], guard := none }) rfl (fun KK hKK => ?_) AllReadyH.nil
      have kb := alloc_below x1 (.cells (byteCells zs).toArray 5 (0, 0))
      have q_ga := made_in x1 zs
      have hN := hH.trans (kb.mono hH.size)
      clear hH kb
      go_simp
      refine hKK.out _ _ hN (fun hH => ?_)
      clear hKK KK hN
      try simp only [Act.put, List.setIfInBounds_toArray, List.set_cons_zero, List.set_cons_succ]
      generalize x1.alloc (.cells (byteCells zs).toArray 5 (0, 0)) = z1 at *
      generalize x1.heap.size = ga at q_ga ⊢
      clear mk1
      have ha := Lib.hid q_ga
      clear q_ga
      have kk := Below.refl z1.heap.size z1
      refine wpAnyH_ready (rs := [5]) (by kernel_rfl) (by simp) ?_
      refine AllReadyH.cons (o := { dst := some 91, op := Op.buildSlice 54 1 #[(0, Operand.tmp 90)], type := 54, pos := "law.go:124", after := #[{ on := 4, ground := Ground.data }], guard := none }) rfl (fun KK hKK => ?_) AllReadyH.nil
      have kb := alloc_below z1 (.cells #[.slice (some ⟨ga, 0, none⟩) size size] 22 (0, 0))
      replace kk := kk.trans (kb.mono kk.size)
      have q_gl := cellsAt.new z1 #[.slice (some ⟨ga, 0, none⟩) size size] z1.heap.size 22 [.slice (some ⟨ga, 0, none⟩) size size] rfl rfl
      have hN := hH.trans (kb.mono hH.size)
      clear hH kb
      go_simp
      refine hKK.out _ _ hN (fun hH => ?_)
      clear hKK KK hN
      try simp only [Act.put, List.setIfInBounds_toArray, List.set_cons_zero, List.set_cons_succ]
      generalize z1.alloc (.cells #[.slice (some ⟨ga, 0, none⟩) size size] 22 (0, 0)) = z2 at *
      generalize z1.heap.size = gl at q_gl ⊢
      have pl := cellsAt.parts (W := z1) (X := z2) (g := gl) (ps := [⟨some ⟨ga, 0, none⟩, size, zs⟩]) (by simpa [Pt.val, es] using q_gl) kk (by
        simp only [List.mem_cons, List.not_mem_nil, or_false]
        rintro p rfl
        exact ⟨by show zs.length ≤ size; omega, by show size ≤ _; omega, ha.out⟩)
      have hbg := fun (h : nm.length ≤ 255) => seal_big C (zeros 16) 1 nm (some ⟨gl, 0, none⟩) 1 _ z2 h (by simp) (by simp only [List.map_cons, List.map_nil, List.flatten_cons, List.flatten_nil, List.length_append, List.length_nil]; omega) pl
      have hnm2 := fun (h : 255 < nm.length) => seal_name C (zeros 16) 1 nm (some ⟨gl, 0, none⟩) 1 1 z2 h
      change ∀ h, Calls Tryd.prog 23 #[.agg C.toArray, .int .u8 (V 1), .string (str nm), .agg (zeros 16).toArray, .slice (some ⟨gl, 0, none⟩) 1 1] z2 _ at hbg
      have HC : Hid (Calls Tryd.prog 23 #[.agg C.toArray, .int .u8 (V 1), .string (str nm), .agg (zeros 16).toArray, .slice (some ⟨gl, 0, none⟩) 1 1] z2 fun e w' => e = .returned (.tuple #[.slice none 0 0, .int .i64 (if 255 < nm.length then 5 else 4)]) ∧ Below z2.heap.size z2 w') := Lib.hid (by
        by_cases h : 255 < nm.length
        · rw [if_pos h]
          exact hnm2 h
        · rw [if_neg h]
          exact hbg (by omega))
      change Hid (Calls _ _ #[.agg C.toArray, .int .u8 1, .string (str nm), .agg (zeros 16).toArray, .slice (some ⟨gl, 0, none⟩) 1 1] _ _) at HC
      clear hbg hnm2
      clear pl ha q_gl kk
      refine wpAnyH_ready (rs := [6]) (by kernel_rfl) (by simp) ?_
      refine AllReadyH.cons (o := { dst := some 92, op := Op.call { callee := Callee.value (Operand.func 23), args := #[Operand.tmp 86, Operand.const (Value.int IntKind.u8 1), Operand.tmp 87, Operand.tmp 88, Operand.tmp 91], argTypes := #[45, 5, 9, 28, 54] }, type := 44, pos := "law.go:124", after := #[{ on := 0, ground := Ground.data }, { on := 1, ground := Ground.data }, { on := 2, ground := Ground.data }, { on := 5, ground := Ground.data }], guard := none }) rfl (fun KK hKK => ?_) AllReadyH.nil
      go_simp
      with_reducible refine (HC.out).mono ?_
      rintro e z3 ⟨rfl, kb⟩
      have hN := hH.trans (kb.mono hH.size)
      clear hH kb
      refine hKK.out _ _ hN (fun hH => ?_)
      clear hKK KK hN
      try simp only [Act.put, List.setIfInBounds_toArray, List.set_cons_zero, List.set_cons_succ]
      clear HC
      refine wpAnyH_take (i := 7) (oi := { dst := some 85, op := Op.move (Operand.tmp 92), type := 44, pos := "law.go:124", after := #[{ on := 6, ground := Ground.data }], guard := none }) (v := .tuple #[.slice none 0 0, .int .i64 (if 255 < nm.length then 5 else 4)]) rfl (by kernel_rfl) (by kernel_rfl) (by kernel_rfl) (fun _ _ _ h => h) (Or.inl ⟨by rfl, fun wx hS => ?_⟩) hH ?_
      · go_simp
      simp only [Act.put, List.setIfInBounds_toArray, List.set_cons_zero, List.set_cons_succ]
      refine wpAnyH_take (i := 8) (oi := { dst := some 93, op := Op.extract (Operand.tmp 85) 0, type := 22, pos := "law.go:124", after := #[{ on := 7, ground := Ground.data }], guard := none }) (v := .slice none 0 0) rfl (by kernel_rfl) (by kernel_rfl) (by kernel_rfl) (fun _ _ _ h => h) (Or.inl ⟨by rfl, fun wx hS => ?_⟩) hH ?_
      · go_simp
      simp only [Act.put, List.setIfInBounds_toArray, List.set_cons_zero, List.set_cons_succ]
      refine wpAnyH_take (i := 9) (oi := { dst := some 94, op := Op.extract (Operand.tmp 85) 1, type := 41, pos := "law.go:124", after := #[{ on := 7, ground := Ground.data }, { on := 10, ground := Ground.gcOnly Departure.lateStores }], guard := none }) (v := .int .i64 (if 255 < nm.length then 5 else 4)) rfl (by kernel_rfl) (by kernel_rfl) (by kernel_rfl) (fun _ _ _ h => h) (Or.inl ⟨by rfl, fun wx hS => ?_⟩) hH ?_
      · go_simp
      simp only [Act.put, List.setIfInBounds_toArray, List.set_cons_zero, List.set_cons_succ]
      refine wpAnyH_ready (rs := [10]) (by kernel_rfl) (by simp) ?_
      refine AllReadyH.cons (o := { dst := some 13, op := Op.assign (Operand.tmp 93), type := 22, pos := "law.go:124", after := #[{ on := 8, ground := Ground.data }, { on := 6, ground := Ground.chain }, { on := 0, ground := Ground.phase }, { on := 1, ground := Ground.phase }, { on := 2, ground := Ground.phase }, { on := 3, ground := Ground.phase }, { on := 4, ground := Ground.phase }, { on := 5, ground := Ground.phase }, { on := 6, ground := Ground.phase }, { on := 7, ground := Ground.phase }, { on := 8, ground := Ground.phase }, { on := 9, ground := Ground.textOnly Departure.lateStores }], guard := none }) rfl (fun KK hKK => ?_) AllReadyH.nil
      go_simp
      refine hKK.out _ _ hH (fun hH => ?_)
      clear hKK KK
      try simp only [Act.put, List.setIfInBounds_toArray, List.set_cons_zero, List.set_cons_succ]
      refine wpAnyH_ready (rs := [11]) (by kernel_rfl) (by simp) ?_
      refine AllReadyH.cons (o := { dst := some 14, op := Op.assign (Operand.tmp 94), type := 41, pos := "law.go:124", after := #[{ on := 9, ground := Ground.data }, { on := 10, ground := Ground.chain }, { on := 0, ground := Ground.phase }, { on := 1, ground := Ground.phase }, { on := 2, ground := Ground.phase }, { on := 3, ground := Ground.phase }, { on := 4, ground := Ground.phase }, { on := 5, ground := Ground.phase }, { on := 6, ground := Ground.phase }, { on := 7, ground := Ground.phase }, { on := 8, ground := Ground.phase }, { on := 9, ground := Ground.phase }, { on := 10, ground := Ground.phase }], guard := none }) rfl (fun KK hKK => ?_) AllReadyH.nil
      go_simp
      refine hKK.out _ _ hH (fun hH => ?_)
      clear hKK KK
      try simp only [Act.put, List.setIfInBounds_toArray, List.set_cons_zero, List.set_cons_succ]
      refine wpAnyH_done (by kernel_rfl) ?_ _
      refine NoPanic.normal ?_
      have B9 := Lib.hid (B8.out.trans (hH.mono B8.out.size))
      clear hH
      first | simp only [if_neg h255n] | simp only [if_neg h255] | skip
      go_wp2_with fail
      go_ret
      exact ⟨congrArg (fun b => Ending.returned (.bool b)) (show (!decide (255 < (n : Int))) = true by simp; omega), B9.out⟩
end Go.Proofs.YtjkhokholcchfaaDoor
