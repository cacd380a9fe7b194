/- The law KeyMakes: its walk. -/
import Derived.Test.YtjemgniochjgmaaDoorRgs
import Derived.Test.YtjemgniochjgmaaDoorDmb
import Derived.BigQuiet
import Derived.Deep.DeepCutAuto
namespace Go.Proofs.YtjemgniochjgmaaDoor
open Go.RowKit Sha

theorem slice_len {a : Option Addr} {n m c : Nat} (h : n = m) : Value.slice a n c = .slice a m c := by rw [h]
theorem eql_op_ring2 (L : List UInt8) (hL : L.length = 96) (a : Act) (o : Oper) (x y : Operand) (ho : o.op = .binOp .eql 33 x y 33) (hx : a.eval x = .agg (byteCells L).toArray) (hy : a.eval y = .agg (byteCells L).toArray) (w : World) :
    (execOp a.eval o).run Tryd.prog w = .ok (.value (.bool true)) w := by
  unfold execOp
  simp only [ho, hx, hy, Sem.run_bind, eql_ring2 L hL, run_eqGuard_agg _ _ _ _ _ _ _ egtRing2, Result.andThen_ok, Sem.run_pure]
/-- The program's Make and the document's own tell the same. -/
theorem make_both (K S0 : List UInt8) (z : Int) (hK : K.length ≤ 90000) : ∃ (L : List UInt8) (r : Int), L.length = 96 ∧
    (∀ (a a2 : Option Addr) (c c2 : Nat) (X : World), K.length ≤ c → c ≤ 9223372036854775807 → bytesIn X a K → S0.length ≤ c2 → c2 ≤ 9223372036854775807 → bytesIn X a2 S0 → tables X →
      Calls Tryd.prog 5 #[.slice a K.length c, .slice a2 S0.length c2, .int .i64 z] X fun e w' => e = .returned (.tuple #[.agg (byteCells L).toArray, .int .i64 r]) ∧ Below X.heap.size X w') ∧
    (∀ X : World, Calls Tryd.prog 6 #[.string (str K), .string (str S0), .int .i64 z] X fun e w' => e = .returned (.tuple #[.agg (byteCells L).toArray, .int .i64 r]) ∧ Below X.heap.size X w') := by
  by_cases h : badMake K S0 z
  · refine ⟨List.replicate 96 0, 1, by simp, fun a a2 c c2 X _ _ _ _ _ _ _ => ?_, fun X => ?_⟩
    · rw [← zeros_bytes]; exact make_bad a a2 c c2 K S0 z X h
    · rw [← zeros_bytes]; exact docMake_bad K S0 z X h
  · have h1 : 0 < K.length := Nat.pos_of_ne_zero fun e => h (Or.inl e)
    have h2 : S0.length = 16 := Classical.byContradiction fun e => h (Or.inr (Or.inl e))
    have h3 : 0 ≤ z := by
      rcases Int.lt_or_le z 0 with e | e
      · exact (h (Or.inr (Or.inr (Or.inl e)))).elim
      · exact e
    have h4 : z ≤ 100000 := by
      rcases Int.lt_or_le 100000 z with e | e
      · exact (h (Or.inr (Or.inr (Or.inr e)))).elim
      · exact e
    exact ⟨_, 0, ringL_length _, fun a a2 c c2 X q1 q2 q3 q4 q5 q6 q7 => make_ok a a2 c c2 K S0 z X h1 (by omega) q1 q2 q3 h2 q4 q5 q6 h3 h4 q7, fun X => docMake_ok K S0 z X h1 hK h2 h3 h4⟩

set_option maxRecDepth 100000 in
set_option maxHeartbeats 2000000 in
theorem law_keyMakes (a : Option Addr) (c : Nat) (K0 : List UInt8) (b : Option Addr) (d : Nat) (B : List UInt8) (z : Int) (w : World) (hK : K0.length ≤ c) (hc : c ≤ 140737488355328) (hink : bytesIn w a K0) (hB : B.length ≤ d) (hd : d ≤ 140737488355328) (hin : bytesIn w b B) (_ : (Lit.int .i64 z).wf = true) (ht : tables w) :
    Calls Tryd.prog 3 #[.slice a K0.length c, .slice b B.length d, .int .i64 z] w fun e w' => e = .returned (.bool true) ∧ Below w.heap.size w w' := by
  have hc := Nat.le_trans hc (show 140737488355328 ≤ 9223372036854775807 by omega)
  have hd := Nat.le_trans hd (show 140737488355328 ≤ 9223372036854775807 by omega)
  have HT := Lib.hid ht
  have HK := Lib.hid (hink.take 200)
  have HF := Lib.hid (hin.take 200)
  clear ht hink hin
  go_enter Tryd.func3, Tryd.ntmps3
  have e3 : (K0.take 200).length ≤ c := by rw [List.length_take]; omega
  have e4 : (K0.take 200).length ≤ 200 := by rw [List.length_take]; omega
  have e5 : (B.take 200).length ≤ d := by rw [List.length_take]; omega
  go_upto_region 1 with fail
  go_cut [0, 1] (fun s0 s1 wx => s0 = .slice a (K0.take 200).length c ∧ s1 = .slice b (B.take 200).length d ∧ Hid (Below w.heap.size w wx))
  case first =>
    go_quiet (fail)
    go_wp2_with fail
    all_goals
      go_meet
      case rel => exact ⟨slice_len (by rw [List.length_take]; omega), slice_len (by rw [List.length_take]; omega), Lib.hid (below_drewN' (Below.refl _ _) _)⟩
  obtain ⟨rfl, rfl, B0⟩ := hcut
  clear hK hB
  have Q1 := Lib.hid (HK.out.below B0.out)
  have Q2 := Lib.hid (HF.out.below B0.out)
  have Q3 := Lib.hid (HT.out.below B0.out HT.out.2.2.1 HT.out.2.2.2)
  generalize K0.take 200 = K at *
  generalize B.take 200 = f at *
  clear HK HF
  generalize wc = w2 at *
  obtain ⟨y, hy⟩ : ∃ y : Int, y = if 20 < z ∧ z ≤ 100000 then z % 20 else z := ⟨_, rfl⟩
  obtain ⟨L, r, hL, pm, pd⟩ := make_both K f y (by omega)
  have PM := Lib.hid (pm a b c d w2 e3 hc Q1.out e5 hd Q2.out Q3.out)
  have PD := Lib.hid pd
  have HLL : Hid ((byteCells L).length = 96) := Lib.hid (by rw [byteCells_length]; exact hL)
  have HL1 : Hid (∀ v ∈ byteCells L, v.oneCell' = true) := Lib.hid (byteCells_one L)
  have HEQ := Lib.hid (eql_op_ring2 L hL)
  have HFR := Lib.hid (fun X => from_any L X hL)
  clear pm pd hL e3 e4 e5 hc hd
  generalize byteCells L = LL at *
  have hzr := zeroRing
  have hzr2 := zeroRing2
  have hy1 : 20 < z → z ≤ 100000 → y = z % 20 := fun h1 h2 => by rw [hy, if_pos ⟨h1, h2⟩]
  have hy2 : ¬ 20 < z → y = z := fun h1 => by rw [hy, if_neg (fun h => h1 h.1)]
  have hy3 : ¬ z ≤ 100000 → y = z := fun h1 => by rw [hy, if_neg (fun h => h1 h.2)]
  clear hy
  by_cases c1 : 20 < z
  · by_cases c2 : z ≤ 100000
    · have hy := hy1 c1 c2
      clear hy1 hy2 hy3
      go_upto_region 4 with fail
      rw [← hy]
      clear hy
      go_wp2_with fail
      with_reducible refine PM.out.mono ?_
      rintro e w3 ⟨rfl, k3⟩
      have B3 := Lib.hid (B0.out.trans (k3.mono B0.out.size))
      have P1 := Lib.hid (Q1.out.below k3)
      have P2 := Lib.hid (Q2.out.below k3)
      clear PM Q1 Q2 Q3 B0 k3
      have N3 := Lib.hid (blockIs.new w3 (zeros 96) 27)
      have A3 := Lib.hid (alloc_below w3 (.cells (zeros 96).toArray 27 (0, 0)))
      go_wp2_with (refine wpList_store_block rfl 27 _ _ rfl w3.heap.size 0 LL rfl rfl (zeros 96) 27 N3.out (by rw [infoRing, HLL.out]) (by simp [zeros, HLL.out]) HL1.out ?_)
      intro w4 h1 h2 h3
      have h1 := h1.out
      rw [splice_all _ _ (by simp [zeros, HLL.out])] at h1
      have G4 := Lib.hid h1
      have k4 := A3.out.trans (h2.out.below (Nat.le_refl _) A3.out.size)
      have B4 := Lib.hid (B3.out.trans (k4.mono B3.out.size))
      have cv1 := conv_string w4 a K c (P1.out.below k4)
      have cv2 := conv_string w4 b f d (P2.out.below k4)
      clear h1 h2 h3 N3 A3 B3 k4 P1 P2
      generalize w3.heap.size = g at *
      go_wp2_with fail
      with_reducible refine (PD.out _).mono ?_
      rintro e w5 ⟨rfl, k5⟩
      have G5 := Lib.hid (G4.out.below k5 G4.out.lt)
      have B5 := Lib.hid (B4.out.trans (k5.mono B4.out.size))
      clear PD G4 B4 k5 cv1 cv2
      have N5 := Lib.hid (blockIs.new w5 (zeros 96) 33)
      have A5 := Lib.hid (alloc_below w5 (.cells (zeros 96).toArray 33 (0, 0)))
      go_wp2_with (refine wpList_store_block rfl 33 _ _ rfl w5.heap.size 0 LL rfl rfl (zeros 96) 33 N5.out (by rw [infoRing2, HLL.out]) (by simp [zeros, HLL.out]) HL1.out ?_)
      intro w6 h1 h2 h3
      have h1 := h1.out
      rw [splice_all _ _ (by simp [zeros, HLL.out])] at h1
      have N6 := Lib.hid h1
      have k6 := A5.out.trans (h2.out.below (Nat.le_refl _) A5.out.size)
      have G6 := Lib.hid (G5.out.below k6 G5.out.lt)
      have B6 := Lib.hid (B5.out.trans (k6.mono B5.out.size))
      have T6 := Lib.hid (HT.out.below B6.out HT.out.2.2.1 HT.out.2.2.2)
      clear h1 h2 h3 N5 A5 B5 k6 G5 HT
      generalize w5.heap.size = h at *
      have PR : Hid (∀ X : World, Below w6.heap.size w6 X → Calls Tryd.prog 7 #[] X fun e w' => e = .returned (.bool true) ∧ Below w6.heap.size w6 w') := Lib.hid (fun X hX => (rings_any X (T6.out.below hX T6.out.2.2.1 T6.out.2.2.2)).mono fun e w' ⟨q1, q2⟩ => ⟨q1, hX.trans (q2.mono hX.size)⟩)
      have PF : Hid (∀ X : World, Below w6.heap.size w6 X → Calls Tryd.prog 8 #[.agg LL.toArray] X fun e w' => e = .returned (.agg LL.toArray) ∧ Below w6.heap.size w6 w') := Lib.hid (fun X hX => (HFR.out X).mono fun e w' ⟨q1, q2⟩ => ⟨q1, hX.trans (q2.mono hX.size)⟩)
      clear HFR T6
      have BB := Below.refl w6.heap.size w6
      have RG : Hid (∀ X : World, Below w6.heap.size w6 X → X.rangeAt g 0 LL) := Lib.hid (fun X hX => range_of (G6.out.below hX G6.out.lt))
      have RH : Hid (∀ X : World, Below w6.heap.size w6 X → X.rangeAt h 0 LL) := Lib.hid (fun X hX => range_of (N6.out.below hX N6.out.lt))
      clear G6 N6
      go_wp2_with fail
      refine wp_region_noPanic ?_
      refine wp_region_held_drew (S := fun w' => Below w6.heap.size w6 w') (by kernel_rfl) (below_drew' BB) (fun hH => ?_)
      refine wpAnyH_ready (rs := [0]) (by kernel_rfl) (by simp) ?_
      refine AllReadyH.cons (o := { dst := some 45, op := Op.call { callee := Callee.value (Operand.func 7), args := #[], argTypes := #[] }, type := 4, pos := "law.go:37", after := #[], guard := none }) rfl (fun KK hKK => ?_) AllReadyH.nil
      go_simp
      refine (PR.out _ hH).mono ?_
      rintro e x1 ⟨rfl, kk⟩
      clear hH
      refine hKK.out _ _ kk (fun hH => ?_)
      clear hKK KK kk
      try simp only [Act.put, List.setIfInBounds_toArray, List.set_cons_zero, List.set_cons_succ]
      refine wpAnyH_take (i := 1) (oi := { dst := some 46, op := Op.move (Operand.tmp 45), type := 4, pos := "law.go:37", after := #[{ on := 0, ground := Ground.data }, { on := 0, ground := Ground.chain }], guard := none }) (v := .bool true) rfl (by kernel_rfl) (by kernel_rfl) (by kernel_rfl) (fun _ _ _ h => h) (Or.inl ⟨by rfl, fun wx hS => ?_⟩) hH ?_
      · go_simp
      simp only [Act.put, List.setIfInBounds_toArray, List.set_cons_zero, List.set_cons_succ]
      refine wpAnyH_take (i := 2) (oi := { dst := some 47, op := Op.load 27 (Operand.tmp 7), type := 27, pos := "law.go:37", after := #[{ on := 1, ground := Ground.guard }], guard := some (1, true) }) (v := .agg LL.toArray) rfl (by kernel_rfl) (by kernel_rfl) (by kernel_rfl) (fun _ _ _ h => h) (yieldsIf_load_mid (by rfl) 27 _ rfl g 0 rfl LL _ (fun wx hS => RG.out wx hS) Tryd.underlying27 rfl (by rw [infoRing, HLL.out])) hH ?_
      simp only [Act.put, List.setIfInBounds_toArray, List.set_cons_zero, List.set_cons_succ]
      refine wpAnyH_take (i := 4) (oi := { dst := some 49, op := Op.load 33 (Operand.tmp 9), type := 33, pos := "law.go:37", after := #[{ on := 1, ground := Ground.guard }], guard := some (1, true) }) (v := .agg LL.toArray) rfl (by kernel_rfl) (by kernel_rfl) (by kernel_rfl) (fun _ _ _ h => h) (yieldsIf_load_mid (by rfl) 33 _ rfl h 0 rfl LL _ (fun wx hS => RH.out wx hS) Tryd.underlying33 rfl (by rw [infoRing2, HLL.out])) hH ?_
      simp only [Act.put, List.setIfInBounds_toArray, List.set_cons_zero, List.set_cons_succ]
      refine wpAnyH_ready (rs := [3]) (by kernel_rfl) (by simp) ?_
      refine AllReadyH.cons (o := { dst := some 48, op := Op.call { callee := Callee.value (Operand.func 8), args := #[Operand.tmp 47], argTypes := #[27] }, type := 33, pos := "law.go:37", after := #[{ on := 2, ground := Ground.data }, { on := 1, ground := Ground.chain }, { on := 1, ground := Ground.guard }], guard := some (1, true) }) rfl (fun KK hKK => ?_) AllReadyH.nil
      go_simp
      refine (PF.out _ hH).mono ?_
      rintro e x2 ⟨rfl, kk⟩
      clear hH
      refine hKK.out _ _ kk (fun hH => ?_)
      clear hKK KK kk
      try simp only [Act.put, List.setIfInBounds_toArray, List.set_cons_zero, List.set_cons_succ]
      refine wpAnyH_take (i := 5) (oi := { dst := some 50, op := Op.binOp BinOp.eql 33 (Operand.tmp 48) (Operand.tmp 49) 33, type := 4, pos := "law.go:37", after := #[{ on := 3, ground := Ground.data }, { on := 4, ground := Ground.data }, { on := 1, ground := Ground.guard }], guard := some (1, true) }) (v := .bool true) rfl (by kernel_rfl) (by kernel_rfl) (by kernel_rfl) (fun _ _ _ h => h) (Or.inl ⟨by rfl, fun wx hS => ?_⟩) hH ?_
      · exact HEQ.out _ _ _ _ rfl rfl rfl wx
      simp only [Act.put, List.setIfInBounds_toArray, List.set_cons_zero, List.set_cons_succ]
      refine wpAnyH_take (i := 6) (oi := { dst := some 51, op := Op.pick (Operand.tmp 46) (Operand.tmp 50) (Operand.const (Value.bool false)), type := 4, pos := "law.go:37", after := #[{ on := 1, ground := Ground.data }, { on := 5, ground := Ground.data }], guard := none }) (v := .bool true) rfl (by kernel_rfl) (by kernel_rfl) (by kernel_rfl) (fun _ _ _ h => h) (Or.inl ⟨by rfl, fun wx hS => ?_⟩) hH ?_
      · go_simp
      simp only [Act.put, List.setIfInBounds_toArray, List.set_cons_zero, List.set_cons_succ]
      refine wpAnyH_take (i := 7) (oi := { dst := some 52, op := Op.move (Operand.tmp 51), type := 4, pos := "law.go:37", after := #[{ on := 6, ground := Ground.data }, { on := 3, ground := Ground.chain }], guard := none }) (v := .bool true) rfl (by kernel_rfl) (by kernel_rfl) (by kernel_rfl) (fun _ _ _ h => h) (Or.inl ⟨by rfl, fun wx hS => ?_⟩) hH ?_
      · go_simp
      simp only [Act.put, List.setIfInBounds_toArray, List.set_cons_zero, List.set_cons_succ]
      refine wpAnyH_take (i := 8) (oi := { dst := some 53, op := Op.move (Operand.tmp 8), type := 28, pos := "law.go:37", after := #[{ on := 7, ground := Ground.guard }], guard := some (7, true) }) (v := .int .i64 r) rfl (by kernel_rfl) (by kernel_rfl) (by kernel_rfl) (fun _ _ _ h => h) (Or.inl ⟨by rfl, fun wx hS => ?_⟩) hH ?_
      · go_simp
      simp only [Act.put, List.setIfInBounds_toArray, List.set_cons_zero, List.set_cons_succ]
      refine wpAnyH_take (i := 9) (oi := { dst := some 54, op := Op.move (Operand.tmp 10), type := 28, pos := "law.go:37", after := #[{ on := 7, ground := Ground.guard }], guard := some (7, true) }) (v := .int .i64 r) rfl (by kernel_rfl) (by kernel_rfl) (by kernel_rfl) (fun _ _ _ h => h) (Or.inl ⟨by rfl, fun wx hS => ?_⟩) hH ?_
      · go_simp
      simp only [Act.put, List.setIfInBounds_toArray, List.set_cons_zero, List.set_cons_succ]
      refine wpAnyH_take (i := 10) (oi := { dst := some 55, op := Op.binOp BinOp.eql 28 (Operand.tmp 53) (Operand.tmp 54) 28, type := 4, pos := "law.go:37", after := #[{ on := 8, ground := Ground.data }, { on := 9, ground := Ground.data }, { on := 7, ground := Ground.guard }], guard := some (7, true) }) (v := .bool true) rfl (by kernel_rfl) (by kernel_rfl) (by kernel_rfl) (fun _ _ _ h => h) (Or.inl ⟨by rfl, fun wx hS => ?_⟩) hH ?_
      · go_simp
      simp only [Act.put, List.setIfInBounds_toArray, List.set_cons_zero, List.set_cons_succ]
      refine wpAnyH_take (i := 11) (oi := { dst := some 56, op := Op.pick (Operand.tmp 52) (Operand.tmp 55) (Operand.const (Value.bool false)), type := 4, pos := "law.go:37", after := #[{ on := 7, ground := Ground.data }, { on := 10, ground := Ground.data }], guard := none }) (v := .bool true) rfl (by kernel_rfl) (by kernel_rfl) (by kernel_rfl) (fun _ _ _ h => h) (Or.inl ⟨by rfl, fun wx hS => ?_⟩) hH ?_
      · go_simp
      simp only [Act.put, List.setIfInBounds_toArray, List.set_cons_zero, List.set_cons_succ]
      refine wpAnyH_take (i := 12) (oi := { dst := some 6, op := Op.assign (Operand.tmp 56), type := 4, pos := "law.go:37", after := #[{ on := 11, ground := Ground.data }, { on := 7, ground := Ground.chain }, { on := 0, ground := Ground.phase }, { on := 1, ground := Ground.phase }, { on := 2, ground := Ground.phase }, { on := 3, ground := Ground.phase }, { on := 4, ground := Ground.phase }, { on := 5, ground := Ground.phase }, { on := 6, ground := Ground.phase }, { on := 7, ground := Ground.phase }, { on := 8, ground := Ground.phase }, { on := 9, ground := Ground.phase }, { on := 10, ground := Ground.phase }, { on := 11, ground := Ground.phase }], guard := none }) (v := .bool true) rfl (by kernel_rfl) (by kernel_rfl) (by kernel_rfl) (fun _ _ _ h => h) (Or.inl ⟨by rfl, fun wx hS => ?_⟩) hH ?_
      · go_simp
      simp only [Act.put, List.setIfInBounds_toArray, List.set_cons_zero, List.set_cons_succ]
      refine wpAnyH_done (by kernel_rfl) ?_ _
      refine NoPanic.normal ?_
      go_wp2_with fail
      go_ret
      exact ⟨rfl, B6.out.trans (hH.mono B6.out.size)⟩
    · have c3 : 100000 < z := by omega
      obtain rfl := hy3 c2
      clear hy1 hy2 hy3
      go_upto_region 4 with fail
      go_wp2_with fail
      with_reducible refine PM.out.mono ?_
      rintro e w3 ⟨rfl, k3⟩
      have B3 := Lib.hid (B0.out.trans (k3.mono B0.out.size))
      have P1 := Lib.hid (Q1.out.below k3)
      have P2 := Lib.hid (Q2.out.below k3)
      clear PM Q1 Q2 Q3 B0 k3
      have N3 := Lib.hid (blockIs.new w3 (zeros 96) 27)
      have A3 := Lib.hid (alloc_below w3 (.cells (zeros 96).toArray 27 (0, 0)))
      go_wp2_with (refine wpList_store_block rfl 27 _ _ rfl w3.heap.size 0 LL rfl rfl (zeros 96) 27 N3.out (by rw [infoRing, HLL.out]) (by simp [zeros, HLL.out]) HL1.out ?_)
      intro w4 h1 h2 h3
      have h1 := h1.out
      rw [splice_all _ _ (by simp [zeros, HLL.out])] at h1
      have G4 := Lib.hid h1
      have k4 := A3.out.trans (h2.out.below (Nat.le_refl _) A3.out.size)
      have B4 := Lib.hid (B3.out.trans (k4.mono B3.out.size))
      have cv1 := conv_string w4 a K c (P1.out.below k4)
      have cv2 := conv_string w4 b f d (P2.out.below k4)
      clear h1 h2 h3 N3 A3 B3 k4 P1 P2
      generalize w3.heap.size = g at *
      go_wp2_with fail
      with_reducible refine (PD.out _).mono ?_
      rintro e w5 ⟨rfl, k5⟩
      have G5 := Lib.hid (G4.out.below k5 G4.out.lt)
      have B5 := Lib.hid (B4.out.trans (k5.mono B4.out.size))
      clear PD G4 B4 k5 cv1 cv2
      have N5 := Lib.hid (blockIs.new w5 (zeros 96) 33)
      have A5 := Lib.hid (alloc_below w5 (.cells (zeros 96).toArray 33 (0, 0)))
      go_wp2_with (refine wpList_store_block rfl 33 _ _ rfl w5.heap.size 0 LL rfl rfl (zeros 96) 33 N5.out (by rw [infoRing2, HLL.out]) (by simp [zeros, HLL.out]) HL1.out ?_)
      intro w6 h1 h2 h3
      have h1 := h1.out
      rw [splice_all _ _ (by simp [zeros, HLL.out])] at h1
      have N6 := Lib.hid h1
      have k6 := A5.out.trans (h2.out.below (Nat.le_refl _) A5.out.size)
      have G6 := Lib.hid (G5.out.below k6 G5.out.lt)
      have B6 := Lib.hid (B5.out.trans (k6.mono B5.out.size))
      have T6 := Lib.hid (HT.out.below B6.out HT.out.2.2.1 HT.out.2.2.2)
      clear h1 h2 h3 N5 A5 B5 k6 G5 HT
      generalize w5.heap.size = h at *
      have PR : Hid (∀ X : World, Below w6.heap.size w6 X → Calls Tryd.prog 7 #[] X fun e w' => e = .returned (.bool true) ∧ Below w6.heap.size w6 w') := Lib.hid (fun X hX => (rings_any X (T6.out.below hX T6.out.2.2.1 T6.out.2.2.2)).mono fun e w' ⟨q1, q2⟩ => ⟨q1, hX.trans (q2.mono hX.size)⟩)
      have PF : Hid (∀ X : World, Below w6.heap.size w6 X → Calls Tryd.prog 8 #[.agg LL.toArray] X fun e w' => e = .returned (.agg LL.toArray) ∧ Below w6.heap.size w6 w') := Lib.hid (fun X hX => (HFR.out X).mono fun e w' ⟨q1, q2⟩ => ⟨q1, hX.trans (q2.mono hX.size)⟩)
      clear HFR T6
      have BB := Below.refl w6.heap.size w6
      have RG : Hid (∀ X : World, Below w6.heap.size w6 X → X.rangeAt g 0 LL) := Lib.hid (fun X hX => range_of (G6.out.below hX G6.out.lt))
      have RH : Hid (∀ X : World, Below w6.heap.size w6 X → X.rangeAt h 0 LL) := Lib.hid (fun X hX => range_of (N6.out.below hX N6.out.lt))
      clear G6 N6
      go_wp2_with fail
      refine wp_region_noPanic ?_
      refine wp_region_held_drew (S := fun w' => Below w6.heap.size w6 w') (by kernel_rfl) (below_drew' BB) (fun hH => ?_)
      refine wpAnyH_ready (rs := [0]) (by kernel_rfl) (by simp) ?_
      refine AllReadyH.cons (o := { dst := some 45, op := Op.call { callee := Callee.value (Operand.func 7), args := #[], argTypes := #[] }, type := 4, pos := "law.go:37", after := #[], guard := none }) rfl (fun KK hKK => ?_) AllReadyH.nil
      go_simp
      refine (PR.out _ hH).mono ?_
      rintro e x1 ⟨rfl, kk⟩
      clear hH
      refine hKK.out _ _ kk (fun hH => ?_)
      clear hKK KK kk
      try simp only [Act.put, List.setIfInBounds_toArray, List.set_cons_zero, List.set_cons_succ]
      refine wpAnyH_take (i := 1) (oi := { dst := some 46, op := Op.move (Operand.tmp 45), type := 4, pos := "law.go:37", after := #[{ on := 0, ground := Ground.data }, { on := 0, ground := Ground.chain }], guard := none }) (v := .bool true) rfl (by kernel_rfl) (by kernel_rfl) (by kernel_rfl) (fun _ _ _ h => h) (Or.inl ⟨by rfl, fun wx hS => ?_⟩) hH ?_
      · go_simp
      simp only [Act.put, List.setIfInBounds_toArray, List.set_cons_zero, List.set_cons_succ]
      refine wpAnyH_take (i := 2) (oi := { dst := some 47, op := Op.load 27 (Operand.tmp 7), type := 27, pos := "law.go:37", after := #[{ on := 1, ground := Ground.guard }], guard := some (1, true) }) (v := .agg LL.toArray) rfl (by kernel_rfl) (by kernel_rfl) (by kernel_rfl) (fun _ _ _ h => h) (yieldsIf_load_mid (by rfl) 27 _ rfl g 0 rfl LL _ (fun wx hS => RG.out wx hS) Tryd.underlying27 rfl (by rw [infoRing, HLL.out])) hH ?_
      simp only [Act.put, List.setIfInBounds_toArray, List.set_cons_zero, List.set_cons_succ]
      refine wpAnyH_take (i := 4) (oi := { dst := some 49, op := Op.load 33 (Operand.tmp 9), type := 33, pos := "law.go:37", after := #[{ on := 1, ground := Ground.guard }], guard := some (1, true) }) (v := .agg LL.toArray) rfl (by kernel_rfl) (by kernel_rfl) (by kernel_rfl) (fun _ _ _ h => h) (yieldsIf_load_mid (by rfl) 33 _ rfl h 0 rfl LL _ (fun wx hS => RH.out wx hS) Tryd.underlying33 rfl (by rw [infoRing2, HLL.out])) hH ?_
      simp only [Act.put, List.setIfInBounds_toArray, List.set_cons_zero, List.set_cons_succ]
      refine wpAnyH_ready (rs := [3]) (by kernel_rfl) (by simp) ?_
      refine AllReadyH.cons (o := { dst := some 48, op := Op.call { callee := Callee.value (Operand.func 8), args := #[Operand.tmp 47], argTypes := #[27] }, type := 33, pos := "law.go:37", after := #[{ on := 2, ground := Ground.data }, { on := 1, ground := Ground.chain }, { on := 1, ground := Ground.guard }], guard := some (1, true) }) rfl (fun KK hKK => ?_) AllReadyH.nil
      go_simp
      refine (PF.out _ hH).mono ?_
      rintro e x2 ⟨rfl, kk⟩
      clear hH
      refine hKK.out _ _ kk (fun hH => ?_)
      clear hKK KK kk
      try simp only [Act.put, List.setIfInBounds_toArray, List.set_cons_zero, List.set_cons_succ]
      refine wpAnyH_take (i := 5) (oi := { dst := some 50, op := Op.binOp BinOp.eql 33 (Operand.tmp 48) (Operand.tmp 49) 33, type := 4, pos := "law.go:37", after := #[{ on := 3, ground := Ground.data }, { on := 4, ground := Ground.data }, { on := 1, ground := Ground.guard }], guard := some (1, true) }) (v := .bool true) rfl (by kernel_rfl) (by kernel_rfl) (by kernel_rfl) (fun _ _ _ h => h) (Or.inl ⟨by rfl, fun wx hS => ?_⟩) hH ?_
      · exact HEQ.out _ _ _ _ rfl rfl rfl wx
      simp only [Act.put, List.setIfInBounds_toArray, List.set_cons_zero, List.set_cons_succ]
      refine wpAnyH_take (i := 6) (oi := { dst := some 51, op := Op.pick (Operand.tmp 46) (Operand.tmp 50) (Operand.const (Value.bool false)), type := 4, pos := "law.go:37", after := #[{ on := 1, ground := Ground.data }, { on := 5, ground := Ground.data }], guard := none }) (v := .bool true) rfl (by kernel_rfl) (by kernel_rfl) (by kernel_rfl) (fun _ _ _ h => h) (Or.inl ⟨by rfl, fun wx hS => ?_⟩) hH ?_
      · go_simp
      simp only [Act.put, List.setIfInBounds_toArray, List.set_cons_zero, List.set_cons_succ]
      refine wpAnyH_take (i := 7) (oi := { dst := some 52, op := Op.move (Operand.tmp 51), type := 4, pos := "law.go:37", after := #[{ on := 6, ground := Ground.data }, { on := 3, ground := Ground.chain }], guard := none }) (v := .bool true) rfl (by kernel_rfl) (by kernel_rfl) (by kernel_rfl) (fun _ _ _ h => h) (Or.inl ⟨by rfl, fun wx hS => ?_⟩) hH ?_
      · go_simp
      simp only [Act.put, List.setIfInBounds_toArray, List.set_cons_zero, List.set_cons_succ]
      refine wpAnyH_take (i := 8) (oi := { dst := some 53, op := Op.move (Operand.tmp 8), type := 28, pos := "law.go:37", after := #[{ on := 7, ground := Ground.guard }], guard := some (7, true) }) (v := .int .i64 r) rfl (by kernel_rfl) (by kernel_rfl) (by kernel_rfl) (fun _ _ _ h => h) (Or.inl ⟨by rfl, fun wx hS => ?_⟩) hH ?_
      · go_simp
      simp only [Act.put, List.setIfInBounds_toArray, List.set_cons_zero, List.set_cons_succ]
      refine wpAnyH_take (i := 9) (oi := { dst := some 54, op := Op.move (Operand.tmp 10), type := 28, pos := "law.go:37", after := #[{ on := 7, ground := Ground.guard }], guard := some (7, true) }) (v := .int .i64 r) rfl (by kernel_rfl) (by kernel_rfl) (by kernel_rfl) (fun _ _ _ h => h) (Or.inl ⟨by rfl, fun wx hS => ?_⟩) hH ?_
      · go_simp
      simp only [Act.put, List.setIfInBounds_toArray, List.set_cons_zero, List.set_cons_succ]
      refine wpAnyH_take (i := 10) (oi := { dst := some 55, op := Op.binOp BinOp.eql 28 (Operand.tmp 53) (Operand.tmp 54) 28, type := 4, pos := "law.go:37", after := #[{ on := 8, ground := Ground.data }, { on := 9, ground := Ground.data }, { on := 7, ground := Ground.guard }], guard := some (7, true) }) (v := .bool true) rfl (by kernel_rfl) (by kernel_rfl) (by kernel_rfl) (fun _ _ _ h => h) (Or.inl ⟨by rfl, fun wx hS => ?_⟩) hH ?_
      · go_simp
      simp only [Act.put, List.setIfInBounds_toArray, List.set_cons_zero, List.set_cons_succ]
      refine wpAnyH_take (i := 11) (oi := { dst := some 56, op := Op.pick (Operand.tmp 52) (Operand.tmp 55) (Operand.const (Value.bool false)), type := 4, pos := "law.go:37", after := #[{ on := 7, ground := Ground.data }, { on := 10, ground := Ground.data }], guard := none }) (v := .bool true) rfl (by kernel_rfl) (by kernel_rfl) (by kernel_rfl) (fun _ _ _ h => h) (Or.inl ⟨by rfl, fun wx hS => ?_⟩) hH ?_
      · go_simp
      simp only [Act.put, List.setIfInBounds_toArray, List.set_cons_zero, List.set_cons_succ]
      refine wpAnyH_take (i := 12) (oi := { dst := some 6, op := Op.assign (Operand.tmp 56), type := 4, pos := "law.go:37", after := #[{ on := 11, ground := Ground.data }, { on := 7, ground := Ground.chain }, { on := 0, ground := Ground.phase }, { on := 1, ground := Ground.phase }, { on := 2, ground := Ground.phase }, { on := 3, ground := Ground.phase }, { on := 4, ground := Ground.phase }, { on := 5, ground := Ground.phase }, { on := 6, ground := Ground.phase }, { on := 7, ground := Ground.phase }, { on := 8, ground := Ground.phase }, { on := 9, ground := Ground.phase }, { on := 10, ground := Ground.phase }, { on := 11, ground := Ground.phase }], guard := none }) (v := .bool true) rfl (by kernel_rfl) (by kernel_rfl) (by kernel_rfl) (fun _ _ _ h => h) (Or.inl ⟨by rfl, fun wx hS => ?_⟩) hH ?_
      · go_simp
      simp only [Act.put, List.setIfInBounds_toArray, List.set_cons_zero, List.set_cons_succ]
      refine wpAnyH_done (by kernel_rfl) ?_ _
      refine NoPanic.normal ?_
      go_wp2_with fail
      go_ret
      exact ⟨rfl, B6.out.trans (hH.mono B6.out.size)⟩
  · obtain rfl := hy2 c1
    clear hy1 hy2 hy3
    go_upto_region 4 with fail
    go_wp2_with fail
    with_reducible refine PM.out.mono ?_
    rintro e w3 ⟨rfl, k3⟩
    have B3 := Lib.hid (B0.out.trans (k3.mono B0.out.size))
    have P1 := Lib.hid (Q1.out.below k3)
    have P2 := Lib.hid (Q2.out.below k3)
    clear PM Q1 Q2 Q3 B0 k3
    have N3 := Lib.hid (blockIs.new w3 (zeros 96) 27)
    have A3 := Lib.hid (alloc_below w3 (.cells (zeros 96).toArray 27 (0, 0)))
    go_wp2_with (refine wpList_store_block rfl 27 _ _ rfl w3.heap.size 0 LL rfl rfl (zeros 96) 27 N3.out (by rw [infoRing, HLL.out]) (by simp [zeros, HLL.out]) HL1.out ?_)
    intro w4 h1 h2 h3
    have h1 := h1.out
    rw [splice_all _ _ (by simp [zeros, HLL.out])] at h1
    have G4 := Lib.hid h1
    have k4 := A3.out.trans (h2.out.below (Nat.le_refl _) A3.out.size)
    have B4 := Lib.hid (B3.out.trans (k4.mono B3.out.size))
    have cv1 := conv_string w4 a K c (P1.out.below k4)
    have cv2 := conv_string w4 b f d (P2.out.below k4)
    clear h1 h2 h3 N3 A3 B3 k4 P1 P2
    generalize w3.heap.size = g at *
    go_wp2_with fail
    with_reducible refine (PD.out _).mono ?_
    rintro e w5 ⟨rfl, k5⟩
    have G5 := Lib.hid (G4.out.below k5 G4.out.lt)
    have B5 := Lib.hid (B4.out.trans (k5.mono B4.out.size))
    clear PD G4 B4 k5 cv1 cv2
    have N5 := Lib.hid (blockIs.new w5 (zeros 96) 33)
    have A5 := Lib.hid (alloc_below w5 (.cells (zeros 96).toArray 33 (0, 0)))
    go_wp2_with (refine wpList_store_block rfl 33 _ _ rfl w5.heap.size 0 LL rfl rfl (zeros 96) 33 N5.out (by rw [infoRing2, HLL.out]) (by simp [zeros, HLL.out]) HL1.out ?_)
    intro w6 h1 h2 h3
    have h1 := h1.out
    rw [splice_all _ _ (by simp [zeros, HLL.out])] at h1
    have N6 := Lib.hid h1
    have k6 := A5.out.trans (h2.out.below (Nat.le_refl _) A5.out.size)
    have G6 := Lib.hid (G5.out.below k6 G5.out.lt)
    have B6 := Lib.hid (B5.out.trans (k6.mono B5.out.size))
    have T6 := Lib.hid (HT.out.below B6.out HT.out.2.2.1 HT.out.2.2.2)
    clear h1 h2 h3 N5 A5 B5 k6 G5 HT
    generalize w5.heap.size = h at *
    have PR : Hid (∀ X : World, Below w6.heap.size w6 X → Calls Tryd.prog 7 #[] X fun e w' => e = .returned (.bool true) ∧ Below w6.heap.size w6 w') := Lib.hid (fun X hX => (rings_any X (T6.out.below hX T6.out.2.2.1 T6.out.2.2.2)).mono fun e w' ⟨q1, q2⟩ => ⟨q1, hX.trans (q2.mono hX.size)⟩)
    have PF : Hid (∀ X : World, Below w6.heap.size w6 X → Calls Tryd.prog 8 #[.agg LL.toArray] X fun e w' => e = .returned (.agg LL.toArray) ∧ Below w6.heap.size w6 w') := Lib.hid (fun X hX => (HFR.out X).mono fun e w' ⟨q1, q2⟩ => ⟨q1, hX.trans (q2.mono hX.size)⟩)
    clear HFR T6
    have BB := Below.refl w6.heap.size w6
    have RG : Hid (∀ X : World, Below w6.heap.size w6 X → X.rangeAt g 0 LL) := Lib.hid (fun X hX => range_of (G6.out.below hX G6.out.lt))
    have RH : Hid (∀ X : World, Below w6.heap.size w6 X → X.rangeAt h 0 LL) := Lib.hid (fun X hX => range_of (N6.out.below hX N6.out.lt))
    clear G6 N6
    go_wp2_with fail
    refine wp_region_noPanic ?_
    refine wp_region_held_drew (S := fun w' => Below w6.heap.size w6 w') (by kernel_rfl) (below_drew' BB) (fun hH => ?_)
    refine wpAnyH_ready (rs := [0]) (by kernel_rfl) (by simp) ?_
    refine AllReadyH.cons (o := { dst := some 45, op := Op.call { callee := Callee.value (Operand.func 7), args := #[], argTypes := #[] }, type := 4, pos := "law.go:37", after := #[], guard := none }) rfl (fun KK hKK => ?_) AllReadyH.nil
    go_simp
    refine (PR.out _ hH).mono ?_
    rintro e x1 ⟨rfl, kk⟩
    clear hH
    refine hKK.out _ _ kk (fun hH => ?_)
    clear hKK KK kk
    try simp only [Act.put, List.setIfInBounds_toArray, List.set_cons_zero, List.set_cons_succ]
    refine wpAnyH_take (i := 1) (oi := { dst := some 46, op := Op.move (Operand.tmp 45), type := 4, pos := "law.go:37", after := #[{ on := 0, ground := Ground.data }, { on := 0, ground := Ground.chain }], guard := none }) (v := .bool true) rfl (by kernel_rfl) (by kernel_rfl) (by kernel_rfl) (fun _ _ _ h => h) (Or.inl ⟨by rfl, fun wx hS => ?_⟩) hH ?_
    · go_simp
    simp only [Act.put, List.setIfInBounds_toArray, List.set_cons_zero, List.set_cons_succ]
    refine wpAnyH_take (i := 2) (oi := { dst := some 47, op := Op.load 27 (Operand.tmp 7), type := 27, pos := "law.go:37", after := #[{ on := 1, ground := Ground.guard }], guard := some (1, true) }) (v := .agg LL.toArray) rfl (by kernel_rfl) (by kernel_rfl) (by kernel_rfl) (fun _ _ _ h => h) (yieldsIf_load_mid (by rfl) 27 _ rfl g 0 rfl LL _ (fun wx hS => RG.out wx hS) Tryd.underlying27 rfl (by rw [infoRing, HLL.out])) hH ?_
    simp only [Act.put, List.setIfInBounds_toArray, List.set_cons_zero, List.set_cons_succ]
    refine wpAnyH_take (i := 4) (oi := { dst := some 49, op := Op.load 33 (Operand.tmp 9), type := 33, pos := "law.go:37", after := #[{ on := 1, ground := Ground.guard }], guard := some (1, true) }) (v := .agg LL.toArray) rfl (by kernel_rfl) (by kernel_rfl) (by kernel_rfl) (fun _ _ _ h => h) (yieldsIf_load_mid (by rfl) 33 _ rfl h 0 rfl LL _ (fun wx hS => RH.out wx hS) Tryd.underlying33 rfl (by rw [infoRing2, HLL.out])) hH ?_
    simp only [Act.put, List.setIfInBounds_toArray, List.set_cons_zero, List.set_cons_succ]
    refine wpAnyH_ready (rs := [3]) (by kernel_rfl) (by simp) ?_
    refine AllReadyH.cons (o := { dst := some 48, op := Op.call { callee := Callee.value (Operand.func 8), args := #[Operand.tmp 47], argTypes := #[27] }, type := 33, pos := "law.go:37", after := #[{ on := 2, ground := Ground.data }, { on := 1, ground := Ground.chain }, { on := 1, ground := Ground.guard }], guard := some (1, true) }) rfl (fun KK hKK => ?_) AllReadyH.nil
    go_simp
    refine (PF.out _ hH).mono ?_
    rintro e x2 ⟨rfl, kk⟩
    clear hH
    refine hKK.out _ _ kk (fun hH => ?_)
    clear hKK KK kk
    try simp only [Act.put, List.setIfInBounds_toArray, List.set_cons_zero, List.set_cons_succ]
    refine wpAnyH_take (i := 5) (oi := { dst := some 50, op := Op.binOp BinOp.eql 33 (Operand.tmp 48) (Operand.tmp 49) 33, type := 4, pos := "law.go:37", after := #[{ on := 3, ground := Ground.data }, { on := 4, ground := Ground.data }, { on := 1, ground := Ground.guard }], guard := some (1, true) }) (v := .bool true) rfl (by kernel_rfl) (by kernel_rfl) (by kernel_rfl) (fun _ _ _ h => h) (Or.inl ⟨by rfl, fun wx hS => ?_⟩) hH ?_
    · exact HEQ.out _ _ _ _ rfl rfl rfl wx
    simp only [Act.put, List.setIfInBounds_toArray, List.set_cons_zero, List.set_cons_succ]
    refine wpAnyH_take (i := 6) (oi := { dst := some 51, op := Op.pick (Operand.tmp 46) (Operand.tmp 50) (Operand.const (Value.bool false)), type := 4, pos := "law.go:37", after := #[{ on := 1, ground := Ground.data }, { on := 5, ground := Ground.data }], guard := none }) (v := .bool true) rfl (by kernel_rfl) (by kernel_rfl) (by kernel_rfl) (fun _ _ _ h => h) (Or.inl ⟨by rfl, fun wx hS => ?_⟩) hH ?_
    · go_simp
    simp only [Act.put, List.setIfInBounds_toArray, List.set_cons_zero, List.set_cons_succ]
    refine wpAnyH_take (i := 7) (oi := { dst := some 52, op := Op.move (Operand.tmp 51), type := 4, pos := "law.go:37", after := #[{ on := 6, ground := Ground.data }, { on := 3, ground := Ground.chain }], guard := none }) (v := .bool true) rfl (by kernel_rfl) (by kernel_rfl) (by kernel_rfl) (fun _ _ _ h => h) (Or.inl ⟨by rfl, fun wx hS => ?_⟩) hH ?_
    · go_simp
    simp only [Act.put, List.setIfInBounds_toArray, List.set_cons_zero, List.set_cons_succ]
    refine wpAnyH_take (i := 8) (oi := { dst := some 53, op := Op.move (Operand.tmp 8), type := 28, pos := "law.go:37", after := #[{ on := 7, ground := Ground.guard }], guard := some (7, true) }) (v := .int .i64 r) rfl (by kernel_rfl) (by kernel_rfl) (by kernel_rfl) (fun _ _ _ h => h) (Or.inl ⟨by rfl, fun wx hS => ?_⟩) hH ?_
    · go_simp
    simp only [Act.put, List.setIfInBounds_toArray, List.set_cons_zero, List.set_cons_succ]
    refine wpAnyH_take (i := 9) (oi := { dst := some 54, op := Op.move (Operand.tmp 10), type := 28, pos := "law.go:37", after := #[{ on := 7, ground := Ground.guard }], guard := some (7, true) }) (v := .int .i64 r) rfl (by kernel_rfl) (by kernel_rfl) (by kernel_rfl) (fun _ _ _ h => h) (Or.inl ⟨by rfl, fun wx hS => ?_⟩) hH ?_
    · go_simp
    simp only [Act.put, List.setIfInBounds_toArray, List.set_cons_zero, List.set_cons_succ]
    refine wpAnyH_take (i := 10) (oi := { dst := some 55, op := Op.binOp BinOp.eql 28 (Operand.tmp 53) (Operand.tmp 54) 28, type := 4, pos := "law.go:37", after := #[{ on := 8, ground := Ground.data }, { on := 9, ground := Ground.data }, { on := 7, ground := Ground.guard }], guard := some (7, true) }) (v := .bool true) rfl (by kernel_rfl) (by kernel_rfl) (by kernel_rfl) (fun _ _ _ h => h) (Or.inl ⟨by rfl, fun wx hS => ?_⟩) hH ?_
    · go_simp
    simp only [Act.put, List.setIfInBounds_toArray, List.set_cons_zero, List.set_cons_succ]
    refine wpAnyH_take (i := 11) (oi := { dst := some 56, op := Op.pick (Operand.tmp 52) (Operand.tmp 55) (Operand.const (Value.bool false)), type := 4, pos := "law.go:37", after := #[{ on := 7, ground := Ground.data }, { on := 10, ground := Ground.data }], guard := none }) (v := .bool true) rfl (by kernel_rfl) (by kernel_rfl) (by kernel_rfl) (fun _ _ _ h => h) (Or.inl ⟨by rfl, fun wx hS => ?_⟩) hH ?_
    · go_simp
    simp only [Act.put, List.setIfInBounds_toArray, List.set_cons_zero, List.set_cons_succ]
    refine wpAnyH_take (i := 12) (oi := { dst := some 6, op := Op.assign (Operand.tmp 56), type := 4, pos := "law.go:37", after := #[{ on := 11, ground := Ground.data }, { on := 7, ground := Ground.chain }, { on := 0, ground := Ground.phase }, { on := 1, ground := Ground.phase }, { on := 2, ground := Ground.phase }, { on := 3, ground := Ground.phase }, { on := 4, ground := Ground.phase }, { on := 5, ground := Ground.phase }, { on := 6, ground := Ground.phase }, { on := 7, ground := Ground.phase }, { on := 8, ground := Ground.phase }, { on := 9, ground := Ground.phase }, { on := 10, ground := Ground.phase }, { on := 11, ground := Ground.phase }], guard := none }) (v := .bool true) rfl (by kernel_rfl) (by kernel_rfl) (by kernel_rfl) (fun _ _ _ h => h) (Or.inl ⟨by rfl, fun wx hS => ?_⟩) hH ?_
    · go_simp
    simp only [Act.put, List.setIfInBounds_toArray, List.set_cons_zero, List.set_cons_succ]
    refine wpAnyH_done (by kernel_rfl) ?_ _
    refine NoPanic.normal ?_
    go_wp2_with fail
    go_ret
    exact ⟨rfl, B6.out.trans (hH.mono B6.out.size)⟩
end Go.Proofs.YtjemgniochjgmaaDoor
