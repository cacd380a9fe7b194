/- The law KeyHands: its walk. -/
import Derived.Test.YtjkhokholcchfaaDoorKhn
namespace Go.Proofs.YtjkhokholcchfaaDoor
open Go.RowKit Sha

theorem seal_open_n (H M N : List UInt8) (kd : UInt8) (b : List UInt8) (hN : N.length = 16) (hb : b.length ≤ 1000) : openR H M kd [110] (sealR H M kd [110] N b).1 = (b, 0) := by
  rcases (seal_open H M N kd [110] b hN hb).2 with h | h
  · rw [(sealR_ok H M kd N b hN).1] at h
    cases h
  · exact h.2
set_option maxRecDepth 100000 in
set_option maxHeartbeats 8000000 in
theorem law_keyHands (L : Ln) (w : World) (hok : L.ok w) (ht : tables w) :
    Calls Tryd.prog 11 #[.agg L.cells.toArray] w fun e w' => e = .returned (.bool true) ∧ Below w.heap.size w w' := by
  have A0 := alloc_below w (.cells L.cells.toArray 56 (0, 0))
  have N1 := Lib.hid (blockIs.new w L.cells 56)
  have OK1 := Lib.hid (hok.below A0)
  have T1 := Lib.hid (ht.below A0 ht.2.2.1 ht.2.2.2)
  have PN := Lib.hid (fun X (a : L.ok X) (b : tables X) => pen_any L X a b)
  obtain ⟨H, M, C, hH, hM, hC, hR⟩ := ring3 L.ring L.ring_length
  have HL := Lib.hid hH
  have ML := Lib.hid hM
  have DL := Lib.hid hC
  rw [hR] at PN
  have RL : Hid ((H ++ (M ++ C)).length = 96) := Lib.hid (by simp [hH, hM, hC])
  clear hH hM hC
  have B1 := Lib.hid A0
  clear A0 ht
  obtain ⟨K, hK⟩ : ∃ K, K = L.word := ⟨_, rfl⟩
  have hKl : K.length ≤ 101 := by rw [hK]; exact L.word_length
  have hK0 : 0 < K.length := by rw [hK]; unfold Ln.word; simp
  obtain ⟨z, hz⟩ : ∃ z, z = L.z := ⟨_, rfl⟩
  have ZE : Hid (wrap64 ((IntKind.u64.wrap L.st).tmod 5) = (z : Int)) := Lib.hid (by rw [hz]; exact L.z_eq.1)
  have hz5 : z < 5 := by rw [hz]; exact L.z_eq.2
  have HRK : Hid (ringL (stretch K saltL z) = H ++ (M ++ C)) := Lib.hid (by rw [← hR, hK, hz]; rfl)
  have hKW : 119 :: L.W.take 100 = K := hK.symm
  clear hR hK hz
  obtain ⟨wa, wc, W, st, ba, bc, G, ra, rc, R, kd, nm⟩ := L
  dsimp only at hKW ZE
  have OKG := Lib.hid OK1.out.begins
  have OKR := Lib.hid OK1.out.rows
  dsimp only at OKG OKR
  generalize hCL : Ln.cells ⟨wa, wc, W, st, ba, bc, G, ra, rc, R, kd, nm⟩ = CL at *
  have C2 : Hid (CL[2]? = some (.slice ba G.length bc)) := Lib.hid (by rw [← hCL]; rfl)
  have C3 : Hid (CL[3]? = some (.slice ra R.length rc)) := Lib.hid (by rw [← hCL]; rfl)
  have C4 : Hid (CL[4]? = some (.int .u8 (V kd))) := Lib.hid (by rw [← hCL]; rfl)
  have C0 : Hid (CL[0]? = some (.slice wa W.length wc)) := Lib.hid (by rw [← hCL]; rfl)
  have C1 : Hid (CL[1]? = some (.int .i64 st)) := Lib.hid (by rw [← hCL]; rfl)
  have CL6 : Hid (CL.length = 6) := Lib.hid (by rw [← hCL]; rfl)
  clear hCL
  have PN1 := Lib.hid (PN.out _ OK1.out T1.out)
  dsimp only at PN1
  have OKW := Lib.hid OK1.out.word
  dsimp only at OKW
  clear PN hok
  go_enter Tryd.func11, Tryd.ntmps11
  have R0 := Lib.hid (Ci.range_of N1.out)
  have hzp := zeroPen
  have hzr := zeroRing2
  go_wp2_with (refine Ci.wpList_load_mid_if (by rfl) 56 _ rfl w.heap.size 0 rfl CL _ R0.out Tryd.underlying56 rfl (by rw [infoLine, CL6.out]) ?_)
  with_reducible refine PN1.out.mono ?_
  rintro e w2 ⟨tb, fa, fc, rfl, hlo, htp, kk⟩
  have HLO := Lib.hid (Nat.le_trans B1.out.size hlo)
  have HTB2 : Hid (1 ≠ tb ∧ 0 ≠ tb) := Lib.hid ⟨Nat.ne_of_lt (Nat.lt_of_lt_of_le T1.out.2.2.1 hlo), Nat.ne_of_lt (Nat.lt_of_lt_of_le T1.out.2.2.2 hlo)⟩
  have HLN : Hid (tb ≠ w.heap.size) := Lib.hid (by have := N1.out.lt; omega)
  have B2 := Lib.hid (B1.out.trans (kk.mono B1.out.size))
  have N2 := Lib.hid (N1.out.below kk N1.out.lt)
  have T2 := Lib.hid (T1.out.below kk T1.out.2.2.1 T1.out.2.2.2)
  have HRT := Lib.hid (fun j (hj : j < R.length) => OKR.out.apart hlo j hj)
  have OKW2 := Lib.hid (OKW.out.below kk)
  have U2 := Lib.hid (But.of_below (b := tb) kk)
  have OKR2 := Lib.hid (OKR.out.below kk)
  have HT2 := Lib.hid htp
  clear hlo htp kk B1 N1 T1 OKG OKW OKR OK1 PN1 R0
  generalize w.alloc (.cells CL.toArray 56 (0, 0)) = w1 at *
  obtain ⟨RG, hRG⟩ : ∃ RG, RG = H ++ (M ++ C) := ⟨_, rfl⟩
  rw [← hRG] at RL HRK ⊢
  have HRG := Lib.hid hRG
  obtain ⟨PC, hPC⟩ : ∃ PC, PC = penCells RG tb := ⟨_, rfl⟩
  rw [← hPC]
  have HPC := Lib.hid hPC
  have PL : Hid (PC.length = 97) := Lib.hid (by rw [hPC]; exact penCells_length RG tb RL.out)
  have PO : Hid (∀ v ∈ PC, v.oneCell' = true) := Lib.hid (by rw [hPC]; exact penCells_one RG tb)
  clear hRG hPC
  have P2 := (blockIs.new w2 (zeros 96 ++ [Value.pointer none]) 60).alloc (.cells (zeros 96).toArray 62 (0, 0))
  have Q2 := blockIs.last (w2.alloc (.cells (zeros 96 ++ [Value.pointer none]).toArray 60 (0, 0))) (zeros 96) 62 (w2.heap.size + 1) (by simp)
  have k2 := (alloc_below w2 (.cells (zeros 96 ++ [Value.pointer none]).toArray 60 (0, 0))).alloc (by simp) (.cells (zeros 96).toArray 62 (0, 0))
  have P2 := Lib.hid P2
  have Q2 := Lib.hid Q2
  have K2 := Lib.hid k2
  clear k2
  go_wp2_with (refine wpList_store_block rfl 60 _ _ rfl w2.heap.size 0 PC rfl rfl (zeros 96 ++ [Value.pointer none]) 60 P2.out (by rw [infoPen, PL.out]) (by rw [PL.out]; simp [zeros]) PO.out ?_)
  intro w3 h1 h2 h3
  have h1 := h1.out
  rw [splice_all _ _ (by rw [PL.out]; simp [zeros])] at h1
  have P3 := Lib.hid h1
  have Q3 := Lib.hid (h2.out.is Q2.out (by omega))
  have K3 := Lib.hid (K2.out.trans (h2.out.below (Nat.le_refl _) K2.out.size))
  clear h1 h2 h3 P2 Q2 K2 hzp hzr PO
  go_wp2_with (refine wpList_store_block rfl 62 _ _ rfl (w2.heap.size + 1) 0 (byteCells RG) rfl rfl (zeros 96) 62 Q3.out (by rw [infoRing2, byteCells_length, RL.out]) (by simp [zeros, byteCells_length, RL.out]) (byteCells_one _) ?_)
  intro w4 h1 h2 h3
  have h1 := h1.out
  rw [splice_all _ _ (by simp [zeros, byteCells_length, RL.out])] at h1
  have Q4 := Lib.hid h1
  have P4 := Lib.hid (h2.out.is P3.out (by omega))
  have kk := K3.out.trans (h2.out.below (Nat.le_succ _) K3.out.size)
  obtain ⟨pb, hpb⟩ : ∃ pb, pb = w2.heap.size := ⟨_, rfl⟩
  have HPT : Hid (pb ≠ tb ∧ pb + 1 ≠ tb) := Lib.hid (by have := HT2.out.is.lt; omega)
  rw [← hpb] at P4 Q4 ⊢
  have B4 := Lib.hid (B2.out.trans (kk.mono B2.out.size))
  have N4 := Lib.hid (N2.out.below kk N2.out.lt)
  have T4 := Lib.hid (T2.out.below kk T2.out.2.2.1 T2.out.2.2.2)
  have OKW4 := Lib.hid (OKW2.out.below kk)
  have U4 := Lib.hid (U2.out.trans (But.of_below kk))
  have OKR4 := Lib.hid (OKR2.out.below kk)
  have HT4 := Lib.hid (HT2.out.below kk)
  clear h1 h2 h3 P3 Q3 K3 kk hpb B2 N2 T2 OKW2 OKR2 HT2 U2
  have wl := w_lit w4
  have LIT := Lib.hid (w_row w4)
  have KLL := Lib.hid (alloc_below w4 (.cells #[.int .u8 119] 5 (1, 2)))
  have c0 : (w4.alloc (.cells #[.int .u8 119] 5 (1, 2))).cell? ⟨w.heap.size, 0, none⟩ = some (.slice wa W.length wc) := by rw [(N4.out.below KLL.out N4.out.lt).cell]; exact C0.out
  have IW := Lib.hid (OKW4.out.1.2.2.below KLL.out)
  go_upto_region 2 with fail
  go_cut [6] (fun v wx => ∃ ka kc, v = .slice ka K.length kc ∧ Hid (Pt.ok0 wx ⟨ka, kc, K⟩) ∧ Hid (Below w4.heap.size w4 wx))
  case first =>
    by_cases h8 : 100 < W.length
    · have q8 : (100 : Int) < (W.length : Int) := by omega
      have H8 : Hid (100 = (W.take 100).length) := Lib.hid (by rw [List.length_take]; omega)
      have hl9 : ([119] : List UInt8).length + (W.take 100).length ≤ 1000000 := by rw [← H8.out]; decide
      have hc8 : (100 : Int) ≤ (wc : Int) := by have h : W.length ≤ wc := OKW4.out.1.1; omega
      have I8 := IW.out.take 100
      go_wp2_with (at_builtin; go_loud (refine append_M0 rfl _ _ rfl w4.heap.size _ [119] rfl LIT.out wa 100 wc (W.take 100) H8.out rfl I8 hl9 KLL.out.size ?_; intro v' w' r1 r2))
      go_meet
      case rel =>
        obtain ⟨ka, kc, e1, e2⟩ := meetW r1 hKW
        exact ⟨ka, kc, e1, Lib.hid e2, Lib.hid (KLL.out.trans (LIT.out.grown r2 KLL.out.size))⟩
    · have q8 : ¬ (100 : Int) < (W.length : Int) := by omega
      have hl9 : ([119] : List UInt8).length + W.length ≤ 1000000 := by show 1 + _ ≤ _; omega
      have hc8 : (W.length : Int) ≤ (wc : Int) := by have h : W.length ≤ wc := OKW4.out.1.1; omega
      go_wp2_with (at_builtin; go_loud (refine append_M0 rfl _ _ rfl w4.heap.size _ [119] rfl LIT.out wa W.length wc W rfl rfl IW.out hl9 KLL.out.size ?_; intro v' w' r1 r2))
      go_meet
      case rel =>
        obtain ⟨ka, kc, e1, e2⟩ := meetW (B := K) r1 (by rw [← hKW, List.take_of_length_le (by omega)])
        exact ⟨ka, kc, e1, Lib.hid e2, Lib.hid (KLL.out.trans (LIT.out.grown r2 KLL.out.size))⟩
  obtain ⟨ka, kc, rfl, OKK, KB⟩ := hcut
  rename World => v2
  have B5 := Lib.hid (B4.out.trans (KB.out.mono B4.out.size))
  have N5 := Lib.hid (N4.out.below KB.out N4.out.lt)
  have P5 := Lib.hid (P4.out.below KB.out P4.out.lt)
  have Q5 := Lib.hid (Q4.out.below KB.out Q4.out.lt)
  have T5 := Lib.hid (T4.out.below KB.out T4.out.2.2.1 T4.out.2.2.2)
  have U5 := Lib.hid (U4.out.trans (But.of_below KB.out))
  have HT5 := Lib.hid (HT4.out.below KB.out)
  have HVL : Hid (pb + 2 ≤ v2.heap.size) := Lib.hid (by have := Q5.out.lt; omega)
  have CELL1 := Lib.hid (fun X (hX : Below v2.heap.size v2 X) => show X.cell? ⟨w.heap.size, 1, none⟩ = some (.int .i64 st) by rw [(N5.out.below hX N5.out.lt).cell]; exact C1.out)
  have MK := Lib.hid (fun X (hX : Below v2.heap.size v2 X) sg (hs : bytesIn X (some ⟨sg, 0, none⟩) saltL) => make_ok ka (some ⟨sg, 0, none⟩) kc 16 K saltL (z : Int) X hK0 (by omega) OKK.out.1.1 OKK.out.1.2.1 (OKK.out.1.2.2.below hX) rfl (by decide) (by omega) hs (by omega) (by omega) (T5.out.below hX T5.out.2.2.1 T5.out.2.2.2))
  rw [show saltL.length = 16 from rfl] at MK
  simp only [Int.toNat_natCast] at MK
  rw [HRK.out] at MK
  clear wl LIT KLL c0 IW OKW4 KB B4 N4 P4 Q4 T4 C0 hKW U4 HT4 OKR4
  go_upto_region 3 with fail
  refine wp_region_noPanic ?_
  refine wp_region_held_drew (S := fun w' => Below v2.heap.size v2 w') (by kernel_rfl) (below_drew' (Below.refl _ _)) (fun hH => ?_)
  generalize v2.drew = x0 at *
  refine wpAnyH_take (i := 0) (oi := { dst := some 36, op := Op.move (Operand.tmp 6), type := 22, pos := "more.go:12", after := #[], guard := none }) (v := .slice ka K.length kc) rfl (by kernel_rfl) (by kernel_rfl) (by kernel_rfl) (fun _ _ _ h => h) (Or.inl ⟨by rfl, fun wx hS => ?_⟩) hH ?_
  · go_simp
  simp only [Act.put, List.setIfInBounds_toArray, List.set_cons_zero, List.set_cons_succ]
  refine wpAnyH_take (i := 2) (oi := { dst := some 38, op := Op.fieldAddr 56 (Operand.tmp 1) 1, type := 0, pos := "more.go:12", after := #[], guard := none }) (v := .pointer (some ⟨w.heap.size, 1, none⟩)) rfl (by kernel_rfl) (by kernel_rfl) (by kernel_rfl) (fun _ _ _ h => h) (Or.inl ⟨by rfl, fun wx hS => ?_⟩) hH ?_
  · go_simp
  simp only [Act.put, List.setIfInBounds_toArray, List.set_cons_zero, List.set_cons_succ]
  refine wpAnyH_take (i := 3) (oi := { dst := some 39, op := Op.load 3 (Operand.tmp 38), type := 3, pos := "more.go:12", after := #[{ on := 2, ground := Ground.data }], guard := none }) (v := .int .i64 st) rfl (by kernel_rfl) (by kernel_rfl) (by kernel_rfl) (fun _ _ _ h => h) (Or.inl ⟨by rfl, fun wx hS => ?_⟩) hH ?_
  · have e1 := CELL1.out wx hS; go_simp
  simp only [Act.put, List.setIfInBounds_toArray, List.set_cons_zero, List.set_cons_succ]
  refine wpAnyH_take (i := 4) (oi := { dst := some 40, op := Op.convert 3 40 (Operand.tmp 39), type := 40, pos := "more.go:12", after := #[{ on := 3, ground := Ground.data }], guard := none }) (v := .int .u64 (IntKind.u64.wrap st)) rfl (by kernel_rfl) (by kernel_rfl) (by kernel_rfl) (fun _ _ _ h => h) (Or.inl ⟨by rfl, fun wx hS => ?_⟩) hH ?_
  · go_simp
  simp only [Act.put, List.setIfInBounds_toArray, List.set_cons_zero, List.set_cons_succ]
  refine wpAnyH_take (i := 5) (oi := { dst := some 41, op := Op.binOp BinOp.rem 40 (Operand.tmp 40) (Operand.const (Value.int IntKind.u64 5)) 40, type := 40, pos := "more.go:12", after := #[{ on := 4, ground := Ground.data }], guard := none }) (v := .int .u64 ((IntKind.u64.wrap st).tmod 5)) rfl (by kernel_rfl) (by kernel_rfl) (by kernel_rfl) (fun _ _ _ h => h) (Or.inl ⟨by rfl, fun wx hS => ?_⟩) hH ?_
  · go_simp
  simp only [Act.put, List.setIfInBounds_toArray, List.set_cons_zero, List.set_cons_succ]
  refine wpAnyH_take (i := 6) (oi := { dst := some 42, op := Op.convert 40 3 (Operand.tmp 41), type := 3, pos := "more.go:12", after := #[{ on := 5, ground := Ground.data }], guard := none }) (v := .int .i64 (z : Int)) rfl (by kernel_rfl) (by kernel_rfl) (by kernel_rfl) (fun _ _ _ h => h) (Or.inl ⟨by rfl, fun wx hS => ?_⟩) hH ?_
  · go_simp; have e1 := ZE.out; unfold wrap64 at e1; rw [IntKind.wrap_i64]; generalize (IntKind.u64.wrap st).tmod 5 = q at *; omega
  simp only [Act.put, List.setIfInBounds_toArray, List.set_cons_zero, List.set_cons_succ]
  have hz96 := zeroRing
  have SALT := Lib.hid (fun X => salt_at X)
  revert hH
  refine join2 (Q := ?Q3_1_) (H := fun sg rg wx => Below v2.heap.size v2 wx ∧ True ∧ bytesIn wx (some ⟨sg, 0, none⟩) saltL ∧ (blockIs wx rg (zeros 96) 58 ∧ v2.heap.size ≤ rg)) (fun REST => ?main3_1_) ?rest3_1_
  case main3_1_ =>
    intro hH 
    refine wpAnyH_ready (rs := [1, 11]) (by kernel_rfl) (by simp) ?_
    refine AllReadyH.cons (o := { dst := some 37, op := Op.call { callee := Callee.value (Operand.func 30), args := #[], argTypes := #[] }, type := 22, pos := "more.go:12", after := #[], guard := none }) rfl (fun KK hKK => ?_) (AllReadyH.cons (o := { dst := some 7, op := Op.alloc 58, type := 0, pos := "more.go:12", after := #[], guard := none }) rfl (fun KK hKK => ?_) AllReadyH.nil)
    · go_simp
      with_reducible refine (SALT.out x0).mono ?_
      rintro e x3_1_0 ⟨sg, rfl, hsg, kb⟩
      have hN := hH.trans (kb.mono hH.size)
      clear hH kb
      refine hKK.out _ _ hN (fun hH => ?_)
      clear hKK KK hN
      try simp only [Act.put, List.setIfInBounds_toArray, List.set_cons_zero, List.set_cons_succ]
      refine wpAnyH_ready (rs := [7, 11]) (by kernel_rfl) (by simp) ?_
      refine AllReadyH.cons (o := { dst := some 43, op := Op.call { callee := Callee.value (Operand.func 29), args := #[Operand.tmp 36, Operand.tmp 37, Operand.tmp 42], argTypes := #[22, 22, 3] }, type := 67, pos := "more.go:12", after := #[{ on := 0, ground := Ground.data }, { on := 1, ground := Ground.data }, { on := 6, ground := Ground.data }, { on := 1, ground := Ground.chain }], guard := none }) rfl (fun KK hKK => ?_) (AllReadyH.cons (o := { dst := some 7, op := Op.alloc 58, type := 0, pos := "more.go:12", after := #[], guard := none }) rfl (fun KK hKK => ?_) AllReadyH.nil)
      · go_simp
        with_reducible refine (MK.out x3_1_0 hH sg hsg).mono ?_
        rintro e x3_1_1 ⟨rfl, kb⟩
        replace hsg := hsg.below kb
        have hN := hH.trans (kb.mono hH.size)
        clear hH kb
        refine hKK.out _ _ hN (fun hH => ?_)
        clear hKK KK hN
        try simp only [Act.put, List.setIfInBounds_toArray, List.set_cons_zero, List.set_cons_succ]
        refine wpAnyH_take (i := 8) (oi := { dst := some 35, op := Op.move (Operand.tmp 43), type := 67, pos := "more.go:12", after := #[{ on := 7, ground := Ground.data }], guard := none }) (v := .tuple #[.agg (byteCells RG).toArray, .int .i64 0]) rfl (by kernel_rfl) (by kernel_rfl) (by kernel_rfl) (fun _ _ _ h => h) (Or.inl ⟨by rfl, fun wx hS => ?_⟩) hH ?_
        · go_simp
        simp only [Act.put, List.setIfInBounds_toArray, List.set_cons_zero, List.set_cons_succ]
        refine wpAnyH_take (i := 9) (oi := { dst := some 44, op := Op.extract (Operand.tmp 35) 0, type := 58, pos := "more.go:12", after := #[{ on := 8, ground := Ground.data }], guard := none }) (v := .agg (byteCells RG).toArray) rfl (by kernel_rfl) (by kernel_rfl) (by kernel_rfl) (fun _ _ _ h => h) (Or.inl ⟨by rfl, fun wx hS => ?_⟩) hH ?_
        · go_simp
        simp only [Act.put, List.setIfInBounds_toArray, List.set_cons_zero, List.set_cons_succ]
        refine wpAnyH_take (i := 10) (oi := { dst := some 45, op := Op.extract (Operand.tmp 35) 1, type := 41, pos := "more.go:12", after := #[{ on := 8, ground := Ground.data }, { on := 12, ground := Ground.gcOnly Departure.lateStores }], guard := none }) (v := .int .i64 0) rfl (by kernel_rfl) (by kernel_rfl) (by kernel_rfl) (fun _ _ _ h => h) (Or.inl ⟨by rfl, fun wx hS => ?_⟩) hH ?_
        · go_simp
        simp only [Act.put, List.setIfInBounds_toArray, List.set_cons_zero, List.set_cons_succ]
        refine wpAnyH_ready (rs := [11]) (by kernel_rfl) (by simp) ?_
        refine AllReadyH.cons (o := { dst := some 7, op := Op.alloc 58, type := 0, pos := "more.go:12", after := #[], guard := none }) rfl (fun KK hKK => ?_) AllReadyH.nil
        have kb := alloc_below x3_1_1 (.cells (zeros 96).toArray 58 (0, 0))
        replace hsg := hsg.below kb
        have q_rg := And.intro (blockIs.new x3_1_1 (zeros 96) 58) hH.size
        have hN := hH.trans (kb.mono hH.size)
        clear hH kb
        go_simp
        refine hKK.out _ _ hN (fun hH => ?_)
        clear hKK KK hN
        try simp only [Act.put, List.setIfInBounds_toArray, List.set_cons_zero, List.set_cons_succ]
        generalize x3_1_1.alloc (.cells (zeros 96).toArray 58 (0, 0)) = x3_1_2 at *
        generalize x3_1_1.heap.size = rg at q_rg ⊢
        refine wpAnyH_listed (L2 := #[true, true, true, true, true, true, true, true, true, true, true, true, false, false]) (by kernel_rfl) ?_
        exact REST sg rg x3_1_2 ⟨hH, True.intro, hsg, q_rg⟩
      · have kb := alloc_below x3_1_0 (.cells (zeros 96).toArray 58 (0, 0))
        replace hsg := hsg.below kb
        have q_rg := And.intro (blockIs.new x3_1_0 (zeros 96) 58) hH.size
        have hN := hH.trans (kb.mono hH.size)
        clear hH kb
        go_simp
        refine hKK.out _ _ hN (fun hH => ?_)
        clear hKK KK hN
        try simp only [Act.put, List.setIfInBounds_toArray, List.set_cons_zero, List.set_cons_succ]
        generalize x3_1_0.alloc (.cells (zeros 96).toArray 58 (0, 0)) = x3_1_1 at *
        generalize x3_1_0.heap.size = rg at q_rg ⊢
        refine wpAnyH_ready (rs := [7]) (by kernel_rfl) (by simp) ?_
        refine AllReadyH.cons (o := { dst := some 43, op := Op.call { callee := Callee.value (Operand.func 29), args := #[Operand.tmp 36, Operand.tmp 37, Operand.tmp 42], argTypes := #[22, 22, 3] }, type := 67, pos := "more.go:12", after := #[{ on := 0, ground := Ground.data }, { on := 1, ground := Ground.data }, { on := 6, ground := Ground.data }, { on := 1, ground := Ground.chain }], guard := none }) rfl (fun KK hKK => ?_) AllReadyH.nil
        go_simp
        with_reducible refine (MK.out x3_1_1 hH sg hsg).mono ?_
        rintro e x3_1_2 ⟨rfl, kb⟩
        replace hsg := hsg.below kb
        replace q_rg := And.intro (q_rg.1.below kb q_rg.1.lt) q_rg.2
        have hN := hH.trans (kb.mono hH.size)
        clear hH kb
        refine hKK.out _ _ hN (fun hH => ?_)
        clear hKK KK hN
        try simp only [Act.put, List.setIfInBounds_toArray, List.set_cons_zero, List.set_cons_succ]
        refine wpAnyH_take (i := 8) (oi := { dst := some 35, op := Op.move (Operand.tmp 43), type := 67, pos := "more.go:12", after := #[{ on := 7, ground := Ground.data }], guard := none }) (v := .tuple #[.agg (byteCells RG).toArray, .int .i64 0]) rfl (by kernel_rfl) (by kernel_rfl) (by kernel_rfl) (fun _ _ _ h => h) (Or.inl ⟨by rfl, fun wx hS => ?_⟩) hH ?_
        · go_simp
        simp only [Act.put, List.setIfInBounds_toArray, List.set_cons_zero, List.set_cons_succ]
        refine wpAnyH_take (i := 9) (oi := { dst := some 44, op := Op.extract (Operand.tmp 35) 0, type := 58, pos := "more.go:12", after := #[{ on := 8, ground := Ground.data }], guard := none }) (v := .agg (byteCells RG).toArray) rfl (by kernel_rfl) (by kernel_rfl) (by kernel_rfl) (fun _ _ _ h => h) (Or.inl ⟨by rfl, fun wx hS => ?_⟩) hH ?_
        · go_simp
        simp only [Act.put, List.setIfInBounds_toArray, List.set_cons_zero, List.set_cons_succ]
        refine wpAnyH_take (i := 10) (oi := { dst := some 45, op := Op.extract (Operand.tmp 35) 1, type := 41, pos := "more.go:12", after := #[{ on := 8, ground := Ground.data }, { on := 12, ground := Ground.gcOnly Departure.lateStores }], guard := none }) (v := .int .i64 0) rfl (by kernel_rfl) (by kernel_rfl) (by kernel_rfl) (fun _ _ _ h => h) (Or.inl ⟨by rfl, fun wx hS => ?_⟩) hH ?_
        · go_simp
        simp only [Act.put, List.setIfInBounds_toArray, List.set_cons_zero, List.set_cons_succ]
        refine wpAnyH_listed (L2 := #[true, true, true, true, true, true, true, true, true, true, true, true, false, false]) (by kernel_rfl) ?_
        exact REST sg rg x3_1_2 ⟨hH, True.intro, hsg, q_rg⟩
    · have kb := alloc_below x0 (.cells (zeros 96).toArray 58 (0, 0))
      have q_rg := And.intro (blockIs.new x0 (zeros 96) 58) hH.size
      have hN := hH.trans (kb.mono hH.size)
      clear hH kb
      go_simp
      refine hKK.out _ _ hN (fun hH => ?_)
      clear hKK KK hN
      try simp only [Act.put, List.setIfInBounds_toArray, List.set_cons_zero, List.set_cons_succ]
      generalize x0.alloc (.cells (zeros 96).toArray 58 (0, 0)) = x3_1_0 at *
      generalize x0.heap.size = rg at q_rg ⊢
      refine wpAnyH_ready (rs := [1]) (by kernel_rfl) (by simp) ?_
      refine AllReadyH.cons (o := { dst := some 37, op := Op.call { callee := Callee.value (Operand.func 30), args := #[], argTypes := #[] }, type := 22, pos := "more.go:12", after := #[], guard := none }) rfl (fun KK hKK => ?_) AllReadyH.nil
      go_simp
      with_reducible refine (SALT.out x3_1_0).mono ?_
      rintro e x3_1_1 ⟨sg, rfl, hsg, kb⟩
      replace q_rg := And.intro (q_rg.1.below kb q_rg.1.lt) q_rg.2
      have hN := hH.trans (kb.mono hH.size)
      clear hH kb
      refine hKK.out _ _ hN (fun hH => ?_)
      clear hKK KK hN
      try simp only [Act.put, List.setIfInBounds_toArray, List.set_cons_zero, List.set_cons_succ]
      refine wpAnyH_ready (rs := [7]) (by kernel_rfl) (by simp) ?_
      refine AllReadyH.cons (o := { dst := some 43, op := Op.call { callee := Callee.value (Operand.func 29), args := #[Operand.tmp 36, Operand.tmp 37, Operand.tmp 42], argTypes := #[22, 22, 3] }, type := 67, pos := "more.go:12", after := #[{ on := 0, ground := Ground.data }, { on := 1, ground := Ground.data }, { on := 6, ground := Ground.data }, { on := 1, ground := Ground.chain }], guard := none }) rfl (fun KK hKK => ?_) AllReadyH.nil
      go_simp
      with_reducible refine (MK.out x3_1_1 hH sg hsg).mono ?_
      rintro e x3_1_2 ⟨rfl, kb⟩
      replace hsg := hsg.below kb
      replace q_rg := And.intro (q_rg.1.below kb q_rg.1.lt) q_rg.2
      have hN := hH.trans (kb.mono hH.size)
      clear hH kb
      refine hKK.out _ _ hN (fun hH => ?_)
      clear hKK KK hN
      try simp only [Act.put, List.setIfInBounds_toArray, List.set_cons_zero, List.set_cons_succ]
      refine wpAnyH_take (i := 8) (oi := { dst := some 35, op := Op.move (Operand.tmp 43), type := 67, pos := "more.go:12", after := #[{ on := 7, ground := Ground.data }], guard := none }) (v := .tuple #[.agg (byteCells RG).toArray, .int .i64 0]) rfl (by kernel_rfl) (by kernel_rfl) (by kernel_rfl) (fun _ _ _ h => h) (Or.inl ⟨by rfl, fun wx hS => ?_⟩) hH ?_
      · go_simp
      simp only [Act.put, List.setIfInBounds_toArray, List.set_cons_zero, List.set_cons_succ]
      refine wpAnyH_take (i := 9) (oi := { dst := some 44, op := Op.extract (Operand.tmp 35) 0, type := 58, pos := "more.go:12", after := #[{ on := 8, ground := Ground.data }], guard := none }) (v := .agg (byteCells RG).toArray) rfl (by kernel_rfl) (by kernel_rfl) (by kernel_rfl) (fun _ _ _ h => h) (Or.inl ⟨by rfl, fun wx hS => ?_⟩) hH ?_
      · go_simp
      simp only [Act.put, List.setIfInBounds_toArray, List.set_cons_zero, List.set_cons_succ]
      refine wpAnyH_take (i := 10) (oi := { dst := some 45, op := Op.extract (Operand.tmp 35) 1, type := 41, pos := "more.go:12", after := #[{ on := 8, ground := Ground.data }, { on := 12, ground := Ground.gcOnly Departure.lateStores }], guard := none }) (v := .int .i64 0) rfl (by kernel_rfl) (by kernel_rfl) (by kernel_rfl) (fun _ _ _ h => h) (Or.inl ⟨by rfl, fun wx hS => ?_⟩) hH ?_
      · go_simp
      simp only [Act.put, List.setIfInBounds_toArray, List.set_cons_zero, List.set_cons_succ]
      refine wpAnyH_listed (L2 := #[true, true, true, true, true, true, true, true, true, true, true, true, false, false]) (by kernel_rfl) ?_
      exact REST sg rg x3_1_2 ⟨hH, True.intro, hsg, q_rg⟩
  case rest3_1_ =>
    rintro sg rg x1 ⟨hH, -, hsg, q_rg⟩
    clear SALT hsg hz96 MK
    refine wpAnyH_ready (rs := [12]) (by kernel_rfl) (by simp) ?_
    refine AllReadyH.cons (o := { dst := none, op := Op.store 58 (Operand.tmp 7) (Operand.tmp 44), type := 0, pos := "more.go:12", after := #[{ on := 11, ground := Ground.data }, { on := 9, ground := Ground.data }, { on := 7, ground := Ground.chain }, { on := 0, ground := Ground.phase }, { on := 1, ground := Ground.phase }, { on := 2, ground := Ground.phase }, { on := 3, ground := Ground.phase }, { on := 4, ground := Ground.phase }, { on := 5, ground := Ground.phase }, { on := 6, ground := Ground.phase }, { on := 7, ground := Ground.phase }, { on := 8, ground := Ground.phase }, { on := 9, ground := Ground.phase }, { on := 10, ground := Ground.textOnly Departure.lateStores }, { on := 11, ground := Ground.phase }], guard := none }) rfl (fun KK hKK => ?_) AllReadyH.nil
    refine Ci.step_store_block rfl 58 _ _ rfl rg 0 (byteCells RG) rfl rfl (zeros 96) 58 q_rg.1 (by rw [infoRing, byteCells_length, RL.out]) (by simp [zeros, byteCells_length, RL.out]) (byteCells_one _) ?_
    intro x2 h1 h2 h3
    have h1 := h1.out
    rw [splice_all _ _ (by simp [zeros, byteCells_length, RL.out])] at h1
    have E2 := Lib.hid h1
    have hN := hH.trans (h2.out.below q_rg.2 hH.size)
    have RLO := Lib.hid q_rg.2
    clear h1 h2 h3 hH q_rg
    refine hKK.out _ _ hN (fun hH => ?_)
    clear hKK KK hN
    try simp only [Act.put, List.setIfInBounds_toArray, List.set_cons_zero, List.set_cons_succ]
    refine wpAnyH_ready (rs := [13]) (by kernel_rfl) (by simp) ?_
    refine AllReadyH.cons (o := { dst := some 8, op := Op.assign (Operand.tmp 45), type := 41, pos := "more.go:12", after := #[{ on := 10, ground := Ground.data }, { on := 12, ground := Ground.chain }, { on := 0, ground := Ground.phase }, { on := 1, ground := Ground.phase }, { on := 2, ground := Ground.phase }, { on := 3, ground := Ground.phase }, { on := 4, ground := Ground.phase }, { on := 5, ground := Ground.phase }, { on := 6, ground := Ground.phase }, { on := 7, ground := Ground.phase }, { on := 8, ground := Ground.phase }, { on := 9, ground := Ground.phase }, { on := 10, ground := Ground.phase }, { on := 11, ground := Ground.phase }, { on := 12, ground := Ground.phase }], guard := none }) rfl (fun KK hKK => ?_) AllReadyH.nil
    go_simp
    refine hKK.out _ _ hH (fun hH => ?_)
    clear hKK KK
    try simp only [Act.put, List.setIfInBounds_toArray, List.set_cons_zero, List.set_cons_succ]
    refine wpAnyH_done (by kernel_rfl) ?_ _
    refine NoPanic.normal ?_
    have B6 := Lib.hid (B5.out.trans (hH.mono B5.out.size))
    have N6 := Lib.hid (N5.out.below hH N5.out.lt)
    have P6 := Lib.hid (P5.out.below hH P5.out.lt)
    have Q6 := Lib.hid (Q5.out.below hH Q5.out.lt)
    have T6 := Lib.hid (T5.out.below hH T5.out.2.2.1 T5.out.2.2.2)
    have U6 := Lib.hid (U5.out.trans (But.of_below hH))
    have HT6 := Lib.hid (HT5.out.below hH)
    have HRB : Hid (rg ≠ tb ∧ pb < rg) := Lib.hid (by have := HT5.out.is.lt; have := RLO.out; have := HVL.out; omega)
    clear hH B5 N5 P5 Q5 T5 U5 HT5 RLO HVL CELL1 OKK ZE HRK
    have PR : Hid (∀ X : World, Below x2.heap.size x2 X → Calls Tryd.prog 27 #[] X fun e w' => e = .returned (.bool true) ∧ Below x2.heap.size x2 w') := Lib.hid (fun X hX => (rings_any X (T6.out.below hX T6.out.2.2.1 T6.out.2.2.2)).mono fun e w' ⟨q1, q2⟩ => ⟨q1, hX.trans (q2.mono hX.size)⟩)
    have PF : Hid (∀ X : World, Below x2.heap.size x2 X → Calls Tryd.prog 31 #[.agg (byteCells RG).toArray] X fun e w' => e = .returned (.agg (byteCells RG).toArray) ∧ Below x2.heap.size x2 w') := Lib.hid (fun X hX => (from_any RG X RL.out).mono fun e w' ⟨q1, q2⟩ => ⟨q1, hX.trans (q2.mono hX.size)⟩)
    have RO : Hid (∀ X : World, Below x2.heap.size x2 X → X.rangeAt rg 0 (byteCells RG)) := Lib.hid (fun X hX => Ci.range_of (E2.out.below hX E2.out.lt))
    have RP : Hid (∀ X : World, Below x2.heap.size x2 X → X.rangeAt pb 0 (byteCells RG)) := Lib.hid (fun X hX => rkeys_at HPC.out (P6.out.below hX P6.out.lt))
    have RQ : Hid (∀ X : World, Below x2.heap.size x2 X → X.rangeAt (pb + 1) 0 (byteCells RG)) := Lib.hid (fun X hX => Ci.range_of (Q6.out.below hX Q6.out.lt))
    have RGL : Hid ((byteCells RG).length = 96) := Lib.hid (by rw [byteCells_length, RL.out])
    have NE1 := Lib.hid (neq_op_ring1 RG RL.out)
    have NE2 := Lib.hid (neq_op_ring2 RG RL.out)
    go_upto_region 4 with fail
    refine wp_region_noPanic ?_
    refine wp_region_held_drew (S := fun w' => Below x2.heap.size x2 w') (by kernel_rfl) (below_drew' (Below.refl _ _)) (fun hH => ?_)
    generalize x2.drew = z0 at *
    refine wpAnyH_ready (rs := [0]) (by kernel_rfl) (by simp) ?_
    refine AllReadyH.cons (o := { dst := some 46, op := Op.call { callee := Callee.value (Operand.func 27), args := #[], argTypes := #[] }, type := 4, pos := "more.go:13", after := #[], guard := none }) rfl (fun KK hKK => ?_) AllReadyH.nil
    go_simp
    refine (PR.out _ hH).mono ?_
    rintro e z1 ⟨rfl, kk⟩
    clear hH
    refine hKK.out _ _ kk (fun hH => ?_)
    clear hKK KK kk
    try simp only [Act.put, List.setIfInBounds_toArray, List.set_cons_zero, List.set_cons_succ]
    refine wpAnyH_take (i := 1) (oi := { dst := some 47, op := Op.unOp UnOp.not 4 (Operand.tmp 46), type := 4, pos := "more.go:13", after := #[{ on := 0, ground := Ground.data }], guard := none }) (v := .bool false) rfl (by kernel_rfl) (by kernel_rfl) (by kernel_rfl) (fun _ _ _ h => h) (Or.inl ⟨by rfl, fun wx hS => ?_⟩) hH ?_
    · go_simp
    simp only [Act.put, List.setIfInBounds_toArray, List.set_cons_zero, List.set_cons_succ]
    refine wpAnyH_take (i := 2) (oi := { dst := some 48, op := Op.move (Operand.tmp 47), type := 4, pos := "more.go:13", after := #[{ on := 1, ground := Ground.data }, { on := 0, ground := Ground.chain }], guard := none }) (v := .bool false) rfl (by kernel_rfl) (by kernel_rfl) (by kernel_rfl) (fun _ _ _ h => h) (Or.inl ⟨by rfl, fun wx hS => ?_⟩) hH ?_
    · go_simp
    simp only [Act.put, List.setIfInBounds_toArray, List.set_cons_zero, List.set_cons_succ]
    refine wpAnyH_take (i := 3) (oi := { dst := some 49, op := Op.move (Operand.tmp 5), type := 4, pos := "more.go:13", after := #[{ on := 2, ground := Ground.guard }], guard := some (2, false) }) (v := .bool true) rfl (by kernel_rfl) (by kernel_rfl) (by kernel_rfl) (fun _ _ _ h => h) (Or.inl ⟨by rfl, fun wx hS => ?_⟩) hH ?_
    · go_simp
    simp only [Act.put, List.setIfInBounds_toArray, List.set_cons_zero, List.set_cons_succ]
    refine wpAnyH_take (i := 4) (oi := { dst := some 50, op := Op.unOp UnOp.not 4 (Operand.tmp 49), type := 4, pos := "more.go:13", after := #[{ on := 3, ground := Ground.data }, { on := 2, ground := Ground.guard }], guard := some (2, false) }) (v := .bool false) rfl (by kernel_rfl) (by kernel_rfl) (by kernel_rfl) (fun _ _ _ h => h) (Or.inl ⟨by rfl, fun wx hS => ?_⟩) hH ?_
    · go_simp
    simp only [Act.put, List.setIfInBounds_toArray, List.set_cons_zero, List.set_cons_succ]
    refine wpAnyH_take (i := 5) (oi := { dst := some 51, op := Op.pick (Operand.tmp 48) (Operand.const (Value.bool true)) (Operand.tmp 50), type := 4, pos := "more.go:13", after := #[{ on := 2, ground := Ground.data }, { on := 4, ground := Ground.data }], guard := none }) (v := .bool false) rfl (by kernel_rfl) (by kernel_rfl) (by kernel_rfl) (fun _ _ _ h => h) (Or.inl ⟨by rfl, fun wx hS => ?_⟩) hH ?_
    · go_simp
    simp only [Act.put, List.setIfInBounds_toArray, List.set_cons_zero, List.set_cons_succ]
    refine wpAnyH_take (i := 6) (oi := { dst := some 52, op := Op.move (Operand.tmp 51), type := 4, pos := "more.go:13", after := #[{ on := 5, ground := Ground.data }, { on := 2, ground := Ground.chain }], guard := none }) (v := .bool false) rfl (by kernel_rfl) (by kernel_rfl) (by kernel_rfl) (fun _ _ _ h => h) (Or.inl ⟨by rfl, fun wx hS => ?_⟩) hH ?_
    · go_simp
    simp only [Act.put, List.setIfInBounds_toArray, List.set_cons_zero, List.set_cons_succ]
    refine wpAnyH_take (i := 7) (oi := { dst := some 53, op := Op.move (Operand.tmp 8), type := 41, pos := "more.go:13", after := #[{ on := 6, ground := Ground.guard }], guard := some (6, false) }) (v := .int .i64 0) rfl (by kernel_rfl) (by kernel_rfl) (by kernel_rfl) (fun _ _ _ h => h) (Or.inl ⟨by rfl, fun wx hS => ?_⟩) hH ?_
    · go_simp
    simp only [Act.put, List.setIfInBounds_toArray, List.set_cons_zero, List.set_cons_succ]
    refine wpAnyH_take (i := 8) (oi := { dst := some 54, op := Op.binOp BinOp.neq 41 (Operand.tmp 53) (Operand.const (Value.int IntKind.i64 0)) 41, type := 4, pos := "more.go:13", after := #[{ on := 7, ground := Ground.data }, { on := 6, ground := Ground.guard }], guard := some (6, false) }) (v := .bool false) rfl (by kernel_rfl) (by kernel_rfl) (by kernel_rfl) (fun _ _ _ h => h) (Or.inl ⟨by rfl, fun wx hS => ?_⟩) hH ?_
    · go_simp
    simp only [Act.put, List.setIfInBounds_toArray, List.set_cons_zero, List.set_cons_succ]
    refine wpAnyH_take (i := 9) (oi := { dst := some 55, op := Op.pick (Operand.tmp 52) (Operand.const (Value.bool true)) (Operand.tmp 54), type := 4, pos := "more.go:13", after := #[{ on := 6, ground := Ground.data }, { on := 8, ground := Ground.data }], guard := none }) (v := .bool false) rfl (by kernel_rfl) (by kernel_rfl) (by kernel_rfl) (fun _ _ _ h => h) (Or.inl ⟨by rfl, fun wx hS => ?_⟩) hH ?_
    · go_simp
    simp only [Act.put, List.setIfInBounds_toArray, List.set_cons_zero, List.set_cons_succ]
    refine wpAnyH_take (i := 10) (oi := { dst := some 56, op := Op.move (Operand.tmp 55), type := 4, pos := "more.go:13", after := #[{ on := 9, ground := Ground.data }, { on := 6, ground := Ground.chain }], guard := none }) (v := .bool false) rfl (by kernel_rfl) (by kernel_rfl) (by kernel_rfl) (fun _ _ _ h => h) (Or.inl ⟨by rfl, fun wx hS => ?_⟩) hH ?_
    · go_simp
    simp only [Act.put, List.setIfInBounds_toArray, List.set_cons_zero, List.set_cons_succ]
    refine wpAnyH_take (i := 11) (oi := { dst := some 57, op := Op.load 58 (Operand.tmp 7), type := 58, pos := "more.go:13", after := #[{ on := 10, ground := Ground.guard }], guard := some (10, false) }) (v := .agg (byteCells RG).toArray) rfl (by kernel_rfl) (by kernel_rfl) (by kernel_rfl) (fun _ _ _ h => h) (yieldsIf_load_mid (by rfl) 58 _ rfl (rg) 0 rfl (byteCells RG) _ (fun wx hS => RO.out wx hS) Tryd.underlying58 rfl (by rw [infoRing, RGL.out])) hH ?_
    simp only [Act.put, List.setIfInBounds_toArray, List.set_cons_zero, List.set_cons_succ]
    refine wpAnyH_take (i := 12) (oi := { dst := some 58, op := Op.fieldAddr 60 (Operand.tmp 3) 0, type := 0, pos := "more.go:13", after := #[{ on := 10, ground := Ground.guard }], guard := some (10, false) }) (v := .pointer (some ⟨pb, 0, none⟩)) rfl (by kernel_rfl) (by kernel_rfl) (by kernel_rfl) (fun _ _ _ h => h) (Or.inl ⟨by rfl, fun wx hS => ?_⟩) hH ?_
    · go_simp
    simp only [Act.put, List.setIfInBounds_toArray, List.set_cons_zero, List.set_cons_succ]
    refine wpAnyH_take (i := 13) (oi := { dst := some 59, op := Op.load 58 (Operand.tmp 58), type := 58, pos := "more.go:13", after := #[{ on := 12, ground := Ground.data }, { on := 10, ground := Ground.guard }], guard := some (10, false) }) (v := .agg (byteCells RG).toArray) rfl (by kernel_rfl) (by kernel_rfl) (by kernel_rfl) (fun _ _ _ h => h) (yieldsIf_load_mid (by rfl) 58 _ rfl (pb) 0 rfl (byteCells RG) _ (fun wx hS => RP.out wx hS) Tryd.underlying58 rfl (by rw [infoRing, RGL.out])) hH ?_
    simp only [Act.put, List.setIfInBounds_toArray, List.set_cons_zero, List.set_cons_succ]
    refine wpAnyH_take (i := 14) (oi := { dst := some 60, op := Op.binOp BinOp.neq 58 (Operand.tmp 57) (Operand.tmp 59) 58, type := 4, pos := "more.go:13", after := #[{ on := 11, ground := Ground.data }, { on := 13, ground := Ground.data }, { on := 10, ground := Ground.guard }], guard := some (10, false) }) (v := .bool false) rfl (by kernel_rfl) (by kernel_rfl) (by kernel_rfl) (fun _ _ _ h => h) (Or.inl ⟨by rfl, fun wx hS => ?_⟩) hH ?_
    · exact NE1.out _ _ _ _ rfl rfl rfl wx
    simp only [Act.put, List.setIfInBounds_toArray, List.set_cons_zero, List.set_cons_succ]
    refine wpAnyH_take (i := 15) (oi := { dst := some 61, op := Op.pick (Operand.tmp 56) (Operand.const (Value.bool true)) (Operand.tmp 60), type := 4, pos := "more.go:13", after := #[{ on := 10, ground := Ground.data }, { on := 14, ground := Ground.data }], guard := none }) (v := .bool false) rfl (by kernel_rfl) (by kernel_rfl) (by kernel_rfl) (fun _ _ _ h => h) (Or.inl ⟨by rfl, fun wx hS => ?_⟩) hH ?_
    · go_simp
    simp only [Act.put, List.setIfInBounds_toArray, List.set_cons_zero, List.set_cons_succ]
    refine wpAnyH_take (i := 16) (oi := { dst := some 62, op := Op.move (Operand.tmp 61), type := 4, pos := "more.go:13", after := #[{ on := 15, ground := Ground.data }, { on := 10, ground := Ground.chain }], guard := none }) (v := .bool false) rfl (by kernel_rfl) (by kernel_rfl) (by kernel_rfl) (fun _ _ _ h => h) (Or.inl ⟨by rfl, fun wx hS => ?_⟩) hH ?_
    · go_simp
    simp only [Act.put, List.setIfInBounds_toArray, List.set_cons_zero, List.set_cons_succ]
    refine wpAnyH_take (i := 17) (oi := { dst := some 63, op := Op.load 58 (Operand.tmp 7), type := 58, pos := "more.go:13", after := #[{ on := 16, ground := Ground.guard }], guard := some (16, false) }) (v := .agg (byteCells RG).toArray) rfl (by kernel_rfl) (by kernel_rfl) (by kernel_rfl) (fun _ _ _ h => h) (yieldsIf_load_mid (by rfl) 58 _ rfl (rg) 0 rfl (byteCells RG) _ (fun wx hS => RO.out wx hS) Tryd.underlying58 rfl (by rw [infoRing, RGL.out])) hH ?_
    simp only [Act.put, List.setIfInBounds_toArray, List.set_cons_zero, List.set_cons_succ]
    refine wpAnyH_take (i := 19) (oi := { dst := some 65, op := Op.load 62 (Operand.tmp 4), type := 62, pos := "more.go:13", after := #[{ on := 16, ground := Ground.guard }], guard := some (16, false) }) (v := .agg (byteCells RG).toArray) rfl (by kernel_rfl) (by kernel_rfl) (by kernel_rfl) (fun _ _ _ h => h) (yieldsIf_load_mid (by rfl) 62 _ rfl ((pb + 1)) 0 rfl (byteCells RG) _ (fun wx hS => RQ.out wx hS) Tryd.underlying62 rfl (by rw [infoRing2, RGL.out])) hH ?_
    simp only [Act.put, List.setIfInBounds_toArray, List.set_cons_zero, List.set_cons_succ]
    refine wpAnyH_ready (rs := [18]) (by kernel_rfl) (by simp) ?_
    refine AllReadyH.cons (o := { dst := some 64, op := Op.call { callee := Callee.value (Operand.func 31), args := #[Operand.tmp 63], argTypes := #[58] }, type := 62, pos := "more.go:13", after := #[{ on := 17, ground := Ground.data }, { on := 16, ground := Ground.chain }, { on := 16, ground := Ground.guard }], guard := some (16, false) }) rfl (fun KK hKK => ?_) AllReadyH.nil
    go_simp
    refine (PF.out _ hH).mono ?_
    rintro e z2 ⟨rfl, kk⟩
    clear hH
    refine hKK.out _ _ kk (fun hH => ?_)
    clear hKK KK kk
    try simp only [Act.put, List.setIfInBounds_toArray, List.set_cons_zero, List.set_cons_succ]
    refine wpAnyH_take (i := 20) (oi := { dst := some 66, op := Op.binOp BinOp.neq 62 (Operand.tmp 64) (Operand.tmp 65) 62, type := 4, pos := "more.go:13", after := #[{ on := 18, ground := Ground.data }, { on := 19, ground := Ground.data }, { on := 16, ground := Ground.guard }], guard := some (16, false) }) (v := .bool false) rfl (by kernel_rfl) (by kernel_rfl) (by kernel_rfl) (fun _ _ _ h => h) (Or.inl ⟨by rfl, fun wx hS => ?_⟩) hH ?_
    · exact NE2.out _ _ _ _ rfl rfl rfl wx
    simp only [Act.put, List.setIfInBounds_toArray, List.set_cons_zero, List.set_cons_succ]
    refine wpAnyH_take (i := 21) (oi := { dst := some 67, op := Op.pick (Operand.tmp 62) (Operand.const (Value.bool true)) (Operand.tmp 66), type := 4, pos := "more.go:13", after := #[{ on := 16, ground := Ground.data }, { on := 20, ground := Ground.data }], guard := none }) (v := .bool false) rfl (by kernel_rfl) (by kernel_rfl) (by kernel_rfl) (fun _ _ _ h => h) (Or.inl ⟨by rfl, fun wx hS => ?_⟩) hH ?_
    · go_simp
    simp only [Act.put, List.setIfInBounds_toArray, List.set_cons_zero, List.set_cons_succ]
    refine wpAnyH_done (by kernel_rfl) ?_ _
    refine NoPanic.normal ?_
    have B7 := Lib.hid (B6.out.trans (hH.mono B6.out.size))
    have N7 := Lib.hid (N6.out.below hH N6.out.lt)
    have P7 := Lib.hid (P6.out.below hH P6.out.lt)
    have E7 := Lib.hid (E2.out.below hH E2.out.lt)
    have T7 := Lib.hid (T6.out.below hH T6.out.2.2.1 T6.out.2.2.2)
    have U7 := Lib.hid (U6.out.trans (But.of_below hH))
    have HT7 := Lib.hid (HT6.out.below hH)
    clear hH B6 N6 P6 Q6 E2 T6 U6 HT6 PR PF RO RP RQ NE1 NE2
    generalize z2 = w5 at *
    generalize G.take 100 = G2 at *
    have NX := Lib.hid (fun X (k : But tb w5 X) => k.is N7.out (Ne.symm HLN.out))
    have PX := Lib.hid (fun X (k : But tb w5 X) => k.is P7.out HPT.out.1)
    have EX := Lib.hid (fun X (k : But tb w5 X) => k.is E7.out HRB.out.1)
    have TX := Lib.hid (fun X (k : But tb w5 X) => T7.out.but k HTB2.out)
    have RX : Hid (∀ j, j < R.length → ∃ pb po, ra = some ⟨pb, po, none⟩ ∧ ∃ aj cj, ∀ Y, But tb w5 Y → Y.cell? ⟨pb, po + j, none⟩ = some (.slice aj (R.getD j []).length cj) ∧ Pt.ok0 Y ⟨aj, cj, R.getD j []⟩) := Lib.hid (fun j hj => by
      obtain ⟨pb, po, e, aj, cj, h⟩ := HRT.out j hj
      exact ⟨pb, po, e, aj, cj, fun Y k => h Y (U7.out.trans k)⟩)
    have BX := Lib.hid (fun X (k : But tb w5 X) => B7.out.trans (k.below HLO.out B7.out.size))
    clear N7 P7 E7 T7 HRT U7 B7 HLN HPT HRB
    go_upto_region 6 with fail
    go_wp2_with fail
    go_loopw [9] (fun i wr => ∃ k : Nat, k ≤ R.length ∧ k ≤ 5 ∧ i = .int .i64 k ∧ But tb w5 wr ∧ tapeAt wr tb fa fc G2 (16 * k)) (fun i _ => 5 - (intOf i).toNat)
    case atStart => exact ⟨0, by omega, by omega, rfl, But.refl _ _, HT7.out⟩
    case round =>
      obtain ⟨k, hkR, hk8, rfl, hB, hT⟩ := hrel
      have HB := Lib.hid hB
      have HT := Lib.hid hT
      clear hB hT
      have c3 : wr.cell? ⟨w.heap.size, 3, none⟩ = some (.slice ra R.length rc) := by rw [(NX.out wr HB.out).cell]; exact C3.out
      by_cases hgo : k < R.length ∧ k < 5
      · obtain ⟨hR, h8⟩ := hgo
        have q8 : (k : Int) < 5 := by omega
        have qR : (k : Int) < (R.length : Int) := by omega
        have p0 : (0 : Int) ≤ (k : Int) := by omega
        obtain ⟨zb, zo, rfl, aj, cj, hrow⟩ := RX.out k hR
        obtain ⟨RB, hRB⟩ : ∃ RB, RB = R.getD k [] := ⟨_, rfl⟩
        rw [← hRB] at hrow
        obtain ⟨m, hm⟩ : ∃ m, m = min RB.length 200 := ⟨_, rfl⟩
        have HMIN : Hid (min (RB.length : Int) 200 = (m : Int)) := Lib.hid (by omega)
        obtain ⟨sa, sc, hsl, hso⟩ := cut_to aj cj RB 200 m hm (hrow wr HB.out).2.1.1
        have hb1 : (RB.take 200).length ≤ 200 := by rw [List.length_take]; omega
        have SL := Lib.hid hsl
        have OB := Lib.hid (fun Y (h : But tb w5 Y) => hso Y (hrow Y h).2)
        have C3X : Hid (∀ X, Below wr.heap.size wr X → X.cell? ⟨w.heap.size, 3, none⟩ = some (.slice (some ⟨zb, zo, none⟩) R.length rc)) := Lib.hid (fun X hX => by rw [(NX.out X (HB.out.trans (But.of_below hX))).cell]; exact C3.out)
        have CJX := Lib.hid (fun X (hX : Below wr.heap.size wr X) => (hrow X (HB.out.trans (But.of_below hX))).1)
        clear hrow hRB hm hsl hso
        generalize RB.take 200 = BB at *
        go_upto_region 9 with fail
        clear c3
        refine wp_region_noPanic ?_
        refine wp_region_held_drew (S := fun w' => Below wr.heap.size wr w') (by kernel_rfl) (below_drew' (Below.refl _ _)) (fun hH => ?_)
        generalize wr.drew = x9 at *
        refine wpAnyH_take (i := 0) (oi := { dst := some 79, op := Op.fieldAddr 56 (Operand.tmp 1) 3, type := 0, pos := "more.go:17", after := #[], guard := none }) (v := .pointer (some ⟨w.heap.size, 3, none⟩)) rfl (by kernel_rfl) (by kernel_rfl) (by kernel_rfl) (fun _ _ _ h => h) (Or.inl ⟨by rfl, fun wx hS => ?_⟩) hH ?_
        · go_simp
        simp only [Act.put, List.setIfInBounds_toArray, List.set_cons_zero, List.set_cons_succ]
        refine wpAnyH_take (i := 1) (oi := { dst := some 80, op := Op.load 54 (Operand.tmp 79), type := 54, pos := "more.go:17", after := #[{ on := 0, ground := Ground.data }], guard := none }) (v := .slice (some ⟨zb, zo, none⟩) R.length rc) rfl (by kernel_rfl) (by kernel_rfl) (by kernel_rfl) (fun _ _ _ h => h) (Or.inl ⟨by rfl, fun wx hS => ?_⟩) hH ?_
        · have e1 := C3X.out wx hS; go_simp
        simp only [Act.put, List.setIfInBounds_toArray, List.set_cons_zero, List.set_cons_succ]
        refine wpAnyH_take (i := 2) (oi := { dst := some 81, op := Op.move (Operand.tmp 9), type := 3, pos := "more.go:17", after := #[], guard := none }) (v := .int .i64 (k : Int)) rfl (by kernel_rfl) (by kernel_rfl) (by kernel_rfl) (fun _ _ _ h => h) (Or.inl ⟨by rfl, fun wx hS => ?_⟩) hH ?_
        · go_simp
        simp only [Act.put, List.setIfInBounds_toArray, List.set_cons_zero, List.set_cons_succ]
        refine wpAnyH_take (i := 3) (oi := { dst := some 82, op := Op.indexAddr 54 (Operand.tmp 80) (Operand.tmp 81), type := 0, pos := "more.go:17", after := #[{ on := 1, ground := Ground.data }, { on := 2, ground := Ground.data }], guard := none }) (v := .pointer (some ⟨zb, zo + k, none⟩)) rfl (by kernel_rfl) (by kernel_rfl) (by kernel_rfl) (fun _ _ _ h => h) (Or.inl ⟨by rfl, fun wx hS => ?_⟩) hH ?_
        · go_simp
        simp only [Act.put, List.setIfInBounds_toArray, List.set_cons_zero, List.set_cons_succ]
        refine wpAnyH_take (i := 4) (oi := { dst := some 83, op := Op.load 22 (Operand.tmp 82), type := 22, pos := "more.go:17", after := #[{ on := 3, ground := Ground.data }], guard := none }) (v := .slice aj RB.length cj) rfl (by kernel_rfl) (by kernel_rfl) (by kernel_rfl) (fun _ _ _ h => h) (Or.inl ⟨by rfl, fun wx hS => ?_⟩) hH ?_
        · have e1 := CJX.out wx hS; go_simp
        simp only [Act.put, List.setIfInBounds_toArray, List.set_cons_zero, List.set_cons_succ]
        refine wpAnyH_take (i := 5) (oi := { dst := some 84, op := Op.fieldAddr 56 (Operand.tmp 1) 3, type := 0, pos := "more.go:17", after := #[], guard := none }) (v := .pointer (some ⟨w.heap.size, 3, none⟩)) rfl (by kernel_rfl) (by kernel_rfl) (by kernel_rfl) (fun _ _ _ h => h) (Or.inl ⟨by rfl, fun wx hS => ?_⟩) hH ?_
        · go_simp
        simp only [Act.put, List.setIfInBounds_toArray, List.set_cons_zero, List.set_cons_succ]
        refine wpAnyH_take (i := 6) (oi := { dst := some 85, op := Op.load 54 (Operand.tmp 84), type := 54, pos := "more.go:17", after := #[{ on := 5, ground := Ground.data }], guard := none }) (v := .slice (some ⟨zb, zo, none⟩) R.length rc) rfl (by kernel_rfl) (by kernel_rfl) (by kernel_rfl) (fun _ _ _ h => h) (Or.inl ⟨by rfl, fun wx hS => ?_⟩) hH ?_
        · have e1 := C3X.out wx hS; go_simp
        simp only [Act.put, List.setIfInBounds_toArray, List.set_cons_zero, List.set_cons_succ]
        refine wpAnyH_take (i := 7) (oi := { dst := some 86, op := Op.move (Operand.tmp 9), type := 3, pos := "more.go:17", after := #[], guard := none }) (v := .int .i64 (k : Int)) rfl (by kernel_rfl) (by kernel_rfl) (by kernel_rfl) (fun _ _ _ h => h) (Or.inl ⟨by rfl, fun wx hS => ?_⟩) hH ?_
        · go_simp
        simp only [Act.put, List.setIfInBounds_toArray, List.set_cons_zero, List.set_cons_succ]
        refine wpAnyH_take (i := 8) (oi := { dst := some 87, op := Op.indexAddr 54 (Operand.tmp 85) (Operand.tmp 86), type := 0, pos := "more.go:17", after := #[{ on := 6, ground := Ground.data }, { on := 7, ground := Ground.data }], guard := none }) (v := .pointer (some ⟨zb, zo + k, none⟩)) rfl (by kernel_rfl) (by kernel_rfl) (by kernel_rfl) (fun _ _ _ h => h) (Or.inl ⟨by rfl, fun wx hS => ?_⟩) hH ?_
        · go_simp
        simp only [Act.put, List.setIfInBounds_toArray, List.set_cons_zero, List.set_cons_succ]
        refine wpAnyH_take (i := 9) (oi := { dst := some 88, op := Op.load 22 (Operand.tmp 87), type := 22, pos := "more.go:17", after := #[{ on := 8, ground := Ground.data }], guard := none }) (v := .slice aj RB.length cj) rfl (by kernel_rfl) (by kernel_rfl) (by kernel_rfl) (fun _ _ _ h => h) (Or.inl ⟨by rfl, fun wx hS => ?_⟩) hH ?_
        · have e1 := CJX.out wx hS; go_simp
        simp only [Act.put, List.setIfInBounds_toArray, List.set_cons_zero, List.set_cons_succ]
        refine wpAnyH_take (i := 10) (oi := { dst := some 89, op := Op.call { callee := Callee.builtin Builtin.len, args := #[Operand.tmp 88], argTypes := #[22] }, type := 3, pos := "more.go:17", after := #[{ on := 9, ground := Ground.data }], guard := none }) (v := .int .i64 (RB.length : Int)) rfl (by kernel_rfl) (by kernel_rfl) (by kernel_rfl) (fun _ _ _ h => h) (Or.inl ⟨by rfl, fun wx hS => ?_⟩) hH ?_
        · go_simp
        simp only [Act.put, List.setIfInBounds_toArray, List.set_cons_zero, List.set_cons_succ]
        refine wpAnyH_take (i := 11) (oi := { dst := some 90, op := Op.call { callee := Callee.builtin Builtin.min, args := #[Operand.tmp 89, Operand.const (Value.int IntKind.i64 200)], argTypes := #[3, 3] }, type := 3, pos := "more.go:17", after := #[{ on := 10, ground := Ground.data }], guard := none }) (v := .int .i64 (m : Int)) rfl (by kernel_rfl) (by kernel_rfl) (by kernel_rfl) (fun _ _ _ h => h) (Or.inl ⟨by rfl, fun wx hS => ?_⟩) hH ?_
        · go_simp; have e1 := HMIN.out; omega
        simp only [Act.put, List.setIfInBounds_toArray, List.set_cons_zero, List.set_cons_succ]
        refine wpAnyH_take (i := 12) (oi := { dst := some 91, op := Op.slice 22 (Operand.tmp 83) none (some (Operand.tmp 90)) none, type := 22, pos := "more.go:17", after := #[{ on := 4, ground := Ground.data }, { on := 11, ground := Ground.data }], guard := none }) (v := .slice sa BB.length sc) rfl (by kernel_rfl) (by kernel_rfl) (by kernel_rfl) (fun _ _ _ h => h) (Or.inl ⟨by rfl, fun wx hS => ?_⟩) hH ?_
        · have e1 := SL.out wx; go_simp
        simp only [Act.put, List.setIfInBounds_toArray, List.set_cons_zero, List.set_cons_succ]
        refine wpAnyH_ready (rs := [13]) (by kernel_rfl) (by simp) ?_
        refine AllReadyH.cons (o := { dst := some 10, op := Op.assign (Operand.tmp 91), type := 22, pos := "more.go:17", after := #[{ on := 12, ground := Ground.data }, { on := 0, ground := Ground.phase }, { on := 1, ground := Ground.phase }, { on := 2, ground := Ground.phase }, { on := 3, ground := Ground.phase }, { on := 4, ground := Ground.phase }, { on := 5, ground := Ground.phase }, { on := 6, ground := Ground.phase }, { on := 7, ground := Ground.phase }, { on := 8, ground := Ground.phase }, { on := 9, ground := Ground.phase }, { on := 10, ground := Ground.phase }, { on := 11, ground := Ground.phase }, { on := 12, ground := Ground.phase }], guard := none }) rfl (fun KK hKK => ?_) AllReadyH.nil
        go_simp
        refine hKK.out _ _ hH (fun hH => ?_)
        clear hKK KK
        try simp only [Act.put, List.setIfInBounds_toArray, List.set_cons_zero, List.set_cons_succ]
        refine wpAnyH_done (by kernel_rfl) ?_ _
        refine NoPanic.normal ?_
        clear C3X CJX SL HMIN qR
        have HB1 := Lib.hid (HB.out.trans (But.of_below hH))
        have HT1 := Lib.hid (HT.out.below hH)
        clear HB HT hH
        have c4 : x9.cell? ⟨w.heap.size, 4, none⟩ = some (.int .u8 (V kd)) := by rw [(NX.out _ HB1.out).cell]; exact C4.out
        have RP := Lib.hid (Ci.range_of (PX.out _ HB1.out))
        have AB := alloc_below x9 (.cells #[.slice sa BB.length sc] 22 (0, 0))
        have AC := cellsAt.new x9 #[.slice sa BB.length sc] x9.heap.size 22 [.slice sa BB.length sc] rfl rfl
        have HB2 := Lib.hid (HB1.out.trans (But.of_below AB))
        have HT2 := Lib.hid (HT1.out.below AB)
        have HTL : Hid (tb < x9.heap.size) := Lib.hid HT1.out.is.lt
        have PP := Lib.hid (fun X (kx : But tb (x9.alloc (.cells #[.slice sa BB.length sc] 22 (0, 0))) X) => parts_one (X := X) (g := x9.heap.size) (a := sa) (c := sc) (l := BB) (kx.cell (AC 0 _ rfl) (Nat.ne_of_gt HTL.out)) (OB.out X (HB2.out.trans kx)))
        obtain ⟨t, ht⟩ : ∃ t, t = 16 * k := ⟨_, rfl⟩
        have HTK := Lib.hid ht
        rw [← ht] at HT2
        clear ht
        have PW := Lib.hid (pwrite_any H M C tb fa fc G2 t kd [110] (some ⟨x9.heap.size, 0, none⟩) 1 [BB] _ HL.out ML.out DL.out (by simp) (by simp; omega) PP.out (TX.out _ HB2.out) HTB2.out HT2.out (by have := HTK.out; omega))
        have NL : Hid ((tbytes G2 t 16).length = 16) := Lib.hid (tbytes_length _ _ _)
        generalize hN : tbytes G2 t 16 = N at *
        clear hN
        have SO := Lib.hid (sealR_ok H M kd N BB NL.out)
        have OPN := Lib.hid (seal_open_n H M N kd BB NL.out (by omega))
        rw [← HRG.out, ← HPC.out, show [BB].flatten = BB by simp, show [BB].length = 1 from rfl, str_n, SO.out.1] at PW
        obtain ⟨s1, hs1⟩ : ∃ s1, s1 = (sealR H M kd [110] N BB).1 := ⟨_, rfl⟩
        rw [← hs1] at PW OPN SO
        clear hs1
        clear AB AC PP HB1 HT1
        go_wp2_with (refine Ci.wpList_load_mid_if (by rfl) 60 _ rfl pb 0 rfl PC _ RP.out Tryd.underlying60 rfl (by rw [infoPen, PL.out]) ?_)
        with_reducible refine PW.out.mono ?_
        rintro e x11 ⟨v, rfl, hv, hT, kk⟩
        obtain ⟨va, vc, rfl, hv1, hv2, hv3, -⟩ := hv.form
        have HB3 := Lib.hid (HB2.out.trans kk)
        have HT3 := Lib.hid hT
        have HV1 := Lib.hid hv1
        have HV2 := Lib.hid hv2
        have HV := Lib.hid hv3
        clear kk hT hv hv1 hv2 hv3 HTL PW HB2 HT2 RP c4
        have KL : Hid ((keyCells H M).length = 64) := Lib.hid (keyCells_length HL.out ML.out)
        have OP := Lib.hid (fun X l a c (h1 : l.length ≤ 800000) (h2 : l.length ≤ c) (h3 : c ≤ 9223372036854775807) (h4 : bytesIn X a l) (h5 : tables X) => openR_any H M kd [110] l a c X HL.out ML.out h1 h2 h3 h4 h5)
        rw [str_n] at OP
        have OPF := Lib.hid (fun l => openR_few H M kd l)
        have EK := Lib.hid (fun X (k : But tb w5 X) => keys_at HRG.out (EX.out X k))
        obtain ⟨KC, hKC⟩ : ∃ KC, KC = keyCells H M := ⟨_, rfl⟩
        rw [← hKC] at EK KL OP
        clear hKC
        have O1 := Lib.hid (OP.out x11 s1 va vc (by rw [SO.out.2.2]; omega) HV1.out HV2.out HV.out (TX.out _ HB3.out))
        rw [OPN.out] at O1
        dsimp only at O1
        have RK := Lib.hid (EK.out _ HB3.out)
        have c4 : x11.cell? ⟨w.heap.size, 4, none⟩ = some (.int .u8 (V kd)) := by rw [(NX.out _ HB3.out).cell]; exact C4.out
        go_upto_region 11 with fail
        go_wp2_with (refine Ci.wpList_load_mid_if (by rfl) 45 _ rfl rg 0 rfl KC _ RK.out Tryd.underlying45 rfl (by rw [infoWK, KL.out]) ?_)
        with_reducible refine O1.out.mono ?_
        rintro e x12 ⟨v, rfl, hv, kk⟩
        obtain ⟨oa, oc, rfl, -, -, ho3, -⟩ := hv.form
        have HB4 := Lib.hid (HB3.out.trans (But.of_below kk))
        have HT4 := Lib.hid (HT3.out.below kk)
        have HV4 := Lib.hid (HV.out.below kk)
        have HO4 := Lib.hid ho3
        clear kk hv ho3 O1 RK HB3 HT3 HV c4
        have O2 := Lib.hid (OP.out x12 s1 va vc (by rw [SO.out.2.2]; omega) HV1.out HV2.out HV4.out (TX.out _ HB4.out))
        rw [OPN.out] at O2
        dsimp only at O2
        have RK := Lib.hid (EK.out _ HB4.out)
        have c4 : x12.cell? ⟨w.heap.size, 4, none⟩ = some (.int .u8 (V kd)) := by rw [(NX.out _ HB4.out).cell]; exact C4.out
        go_upto_region 12 with fail
        go_wp2_with (refine Ci.wpList_load_mid_if (by rfl) 45 _ rfl rg 0 rfl KC _ RK.out Tryd.underlying45 rfl (by rw [infoWK, KL.out]) ?_)
        with_reducible refine O2.out.mono ?_
        rintro e x13 ⟨v, rfl, hv, kk⟩
        obtain ⟨ya, yc, rfl, -, -, hy3, -⟩ := hv.form
        have HB5 := Lib.hid (HB4.out.trans (But.of_below kk))
        have HT5 := Lib.hid (HT4.out.below kk)
        have HV5 := Lib.hid (HV4.out.below kk)
        have HO5 := Lib.hid (HO4.out.below kk)
        have HY5 := Lib.hid hy3
        clear kk hv hy3 O2 RK HB4 HT4 HV4 HO4 c4
        have SL0 := Pt.run_h ⟨va, vc, s1⟩ 47 (by show 47 ≤ s1.length; rw [SO.out.2.2]; omega) HV1.out
        rw [show ((47 : Nat) : Int) = 47 from rfl] at SL0
        have SL := Lib.hid SL0
        clear SL0
        dsimp only at SL
        have OKP := Lib.hid (fun X (h : bytesIn X va s1) => Pt.sub_ok (p := ⟨va, vc, s1⟩) ⟨HV1.out, HV2.out, h⟩ 0 47 (by omega) (by show 47 ≤ s1.length; rw [SO.out.2.2]; omega))
        have PL47 : Hid ((Pt.sub ⟨va, vc, s1⟩ 0 47).l.length = 47) := Lib.hid (by show ((s1.take 47).drop 0).length = 47; rw [List.drop_zero, List.length_take, SO.out.2.2]; omega)
        generalize Pt.sub ⟨va, vc, s1⟩ 0 47 = p1 at *
        have O3 := Lib.hid (fun X (hX : Below x13.heap.size x13 X) => OP.out X p1.l p1.a p1.c (by rw [PL47.out]; omega) (OKP.out X (HV5.out.below hX)).1 (OKP.out X (HV5.out.below hX)).2.1 (OKP.out X (HV5.out.below hX)).2.2 (TX.out _ (HB5.out.trans (But.of_below hX))))
        rw [OPF.out p1.l (by rw [PL47.out]; omega)] at O3
        dsimp only at O3
        have RKX := Lib.hid (fun X (hX : Below x13.heap.size x13 X) => EK.out _ (HB5.out.trans (But.of_below hX)))
        have NY := Lib.hid (fun X (hX : Below x13.heap.size x13 X) => NX.out _ (HB5.out.trans (But.of_below hX)))
        clear OP OPF OKP EK
        go_upto_region 13 with fail
        refine wp_region_noPanic ?_
        refine wp_region_held_drew (S := fun w' => Below x13.heap.size x13 w') (by kernel_rfl) (below_drew' (Below.refl _ _)) (fun hH => ?_)
        have k3 := below_drew' (Below.refl x13.heap.size x13)
        generalize x13.drew = y0 at *
        refine wpAnyH_take (i := 0) (oi := { dst := some 120, op := Op.fieldAddr 58 (Operand.tmp 7) 0, type := 0, pos := "more.go:21", after := #[], guard := none }) (v := .pointer (some ⟨rg, 0, none⟩)) rfl (by kernel_rfl) (by kernel_rfl) (by kernel_rfl) (fun _ _ _ h => h) (Or.inl ⟨by rfl, fun wx hS => ?_⟩) hH ?_
        · go_simp
        simp only [Act.put, List.setIfInBounds_toArray, List.set_cons_zero, List.set_cons_succ]
        refine wpAnyH_take (i := 1) (oi := { dst := some 121, op := Op.load 45 (Operand.tmp 120), type := 45, pos := "more.go:21", after := #[{ on := 0, ground := Ground.data }], guard := none }) (v := .agg (KC).toArray) rfl (by kernel_rfl) (by kernel_rfl) (by kernel_rfl) (fun _ _ _ h => h) (yieldsIf_load_mid (by rfl) 45 _ rfl (rg) 0 rfl (KC) _ (fun wx hS => RKX.out wx hS) Tryd.underlying45 rfl (by rw [infoWK, KL.out])) hH ?_
        simp only [Act.put, List.setIfInBounds_toArray, List.set_cons_zero, List.set_cons_succ]
        refine wpAnyH_take (i := 2) (oi := { dst := some 122, op := Op.fieldAddr 56 (Operand.tmp 1) 4, type := 0, pos := "more.go:21", after := #[], guard := none }) (v := .pointer (some ⟨w.heap.size, 4, none⟩)) rfl (by kernel_rfl) (by kernel_rfl) (by kernel_rfl) (fun _ _ _ h => h) (Or.inl ⟨by rfl, fun wx hS => ?_⟩) hH ?_
        · go_simp
        simp only [Act.put, List.setIfInBounds_toArray, List.set_cons_zero, List.set_cons_succ]
        refine wpAnyH_take (i := 3) (oi := { dst := some 123, op := Op.load 5 (Operand.tmp 122), type := 5, pos := "more.go:21", after := #[{ on := 2, ground := Ground.data }], guard := none }) (v := .int .u8 (V kd)) rfl (by kernel_rfl) (by kernel_rfl) (by kernel_rfl) (fun _ _ _ h => h) (Or.inl ⟨by rfl, fun wx hS => ?_⟩) hH ?_
        · have e1 : wx.cell? ⟨w.heap.size, 4, none⟩ = some (.int .u8 (V kd)) := (by rw [(NY.out _ hS).cell]; exact C4.out); go_simp
        simp only [Act.put, List.setIfInBounds_toArray, List.set_cons_zero, List.set_cons_succ]
        refine wpAnyH_take (i := 4) (oi := { dst := some 124, op := Op.move (Operand.tmp 11), type := 22, pos := "more.go:21", after := #[], guard := none }) (v := .slice va s1.length vc) rfl (by kernel_rfl) (by kernel_rfl) (by kernel_rfl) (fun _ _ _ h => h) (Or.inl ⟨by rfl, fun wx hS => ?_⟩) hH ?_
        · go_simp
        simp only [Act.put, List.setIfInBounds_toArray, List.set_cons_zero, List.set_cons_succ]
        refine wpAnyH_take (i := 5) (oi := { dst := some 125, op := Op.slice 22 (Operand.tmp 124) none (some (Operand.const (Value.int IntKind.i64 47))) none, type := 22, pos := "more.go:21", after := #[{ on := 4, ground := Ground.data }], guard := none }) (v := .slice p1.a p1.l.length p1.c) rfl (by kernel_rfl) (by kernel_rfl) (by kernel_rfl) (fun _ _ _ h => h) (Or.inl ⟨by rfl, fun wx hS => ?_⟩) hH ?_
        · have e1 := SL.out wx; go_simp
        simp only [Act.put, List.setIfInBounds_toArray, List.set_cons_zero, List.set_cons_succ]
        refine wpAnyH_ready (rs := [6]) (by kernel_rfl) (by simp) ?_
        refine AllReadyH.cons (o := { dst := some 126, op := Op.call { callee := Callee.value (Operand.func 25), args := #[Operand.tmp 121, Operand.tmp 123, Operand.const (Value.string { data := #[110] }), Operand.tmp 125], argTypes := #[45, 5, 9, 22] }, type := 44, pos := "more.go:21", after := #[{ on := 1, ground := Ground.data }, { on := 3, ground := Ground.data }, { on := 5, ground := Ground.data }], guard := none }) rfl (fun KK hKK => ?_) AllReadyH.nil
        go_simp
        with_reducible refine (O3.out y0 k3).mono ?_
        rintro e y1 ⟨v, rfl, hv, kb⟩
        replace k3 := k3.trans (kb.mono k3.size)
        have hN := hH.trans (kb.mono hH.size)
        clear hH kb
        refine hKK.out _ _ hN (fun hH => ?_)
        clear hKK KK hN
        try simp only [Act.put, List.setIfInBounds_toArray, List.set_cons_zero, List.set_cons_succ]
        refine wpAnyH_take (i := 7) (oi := { dst := some 119, op := Op.move (Operand.tmp 126), type := 44, pos := "more.go:21", after := #[{ on := 6, ground := Ground.data }], guard := none }) (v := .tuple #[v, .int .i64 10]) rfl (by kernel_rfl) (by kernel_rfl) (by kernel_rfl) (fun _ _ _ h => h) (Or.inl ⟨by rfl, fun wx hS => ?_⟩) hH ?_
        · go_simp
        simp only [Act.put, List.setIfInBounds_toArray, List.set_cons_zero, List.set_cons_succ]
        refine wpAnyH_take (i := 8) (oi := { dst := some 127, op := Op.extract (Operand.tmp 119) 0, type := 22, pos := "more.go:21", after := #[{ on := 7, ground := Ground.data }], guard := none }) (v := v) rfl (by kernel_rfl) (by kernel_rfl) (by kernel_rfl) (fun _ _ _ h => h) (Or.inl ⟨by rfl, fun wx hS => ?_⟩) hH ?_
        · go_simp
        simp only [Act.put, List.setIfInBounds_toArray, List.set_cons_zero, List.set_cons_succ]
        refine wpAnyH_take (i := 9) (oi := { dst := some 128, op := Op.extract (Operand.tmp 119) 1, type := 41, pos := "more.go:21", after := #[{ on := 7, ground := Ground.data }, { on := 10, ground := Ground.gcOnly Departure.lateStores }], guard := none }) (v := .int .i64 10) rfl (by kernel_rfl) (by kernel_rfl) (by kernel_rfl) (fun _ _ _ h => h) (Or.inl ⟨by rfl, fun wx hS => ?_⟩) hH ?_
        · go_simp
        simp only [Act.put, List.setIfInBounds_toArray, List.set_cons_zero, List.set_cons_succ]
        refine wpAnyH_ready (rs := [10]) (by kernel_rfl) (by simp) ?_
        refine AllReadyH.cons (o := { dst := some 17, op := Op.assign (Operand.tmp 127), type := 22, pos := "more.go:21", after := #[{ on := 8, ground := Ground.data }, { on := 6, ground := Ground.chain }, { on := 0, ground := Ground.phase }, { on := 1, ground := Ground.phase }, { on := 2, ground := Ground.phase }, { on := 3, ground := Ground.phase }, { on := 4, ground := Ground.phase }, { on := 5, ground := Ground.phase }, { on := 6, ground := Ground.phase }, { on := 7, ground := Ground.phase }, { on := 8, ground := Ground.phase }, { on := 9, ground := Ground.textOnly Departure.lateStores }], guard := none }) rfl (fun KK hKK => ?_) AllReadyH.nil
        go_simp
        refine hKK.out _ _ hH (fun hH => ?_)
        clear hKK KK
        try simp only [Act.put, List.setIfInBounds_toArray, List.set_cons_zero, List.set_cons_succ]
        refine wpAnyH_ready (rs := [11]) (by kernel_rfl) (by simp) ?_
        refine AllReadyH.cons (o := { dst := some 18, op := Op.assign (Operand.tmp 128), type := 41, pos := "more.go:21", after := #[{ on := 9, ground := Ground.data }, { on := 10, ground := Ground.chain }, { on := 0, ground := Ground.phase }, { on := 1, ground := Ground.phase }, { on := 2, ground := Ground.phase }, { on := 3, ground := Ground.phase }, { on := 4, ground := Ground.phase }, { on := 5, ground := Ground.phase }, { on := 6, ground := Ground.phase }, { on := 7, ground := Ground.phase }, { on := 8, ground := Ground.phase }, { on := 9, ground := Ground.phase }, { on := 10, ground := Ground.phase }], guard := none }) rfl (fun KK hKK => ?_) AllReadyH.nil
        go_simp
        refine hKK.out _ _ hH (fun hH => ?_)
        clear hKK KK
        try simp only [Act.put, List.setIfInBounds_toArray, List.set_cons_zero, List.set_cons_succ]
        refine wpAnyH_done (by kernel_rfl) ?_ _
        refine NoPanic.normal ?_
        have HB6 := Lib.hid (HB5.out.trans (But.of_below hH))
        have HT6 := Lib.hid (HT5.out.below hH)
        have cv1 := conv_string y1 oa BB oc (HO5.out.below hH)
        have cv2 := conv_string y1 ya BB yc (HY5.out.below hH)
        have cv3 := conv_string y1 sa BB sc (OB.out _ HB6.out).1.2.2
        have sb : ((str BB).toList == (str BB).toList) = true := by simp
        clear hH hv k3 HB5 HT5 HV5 HO5 HY5 SL O3 RKX NY
        go_wp2_with fail
        go_roundw
        case rel => exact ⟨k + 1, by omega, by omega, by go_num, HB6.out, by rw [show 16 * (k + 1) = t + 16 by have := HTK.out; omega]; exact HT6.out⟩
        case measure => simp [intOf]; omega
      · by_cases h8 : k < 5
        · have hR : ¬ k < R.length := fun h => hgo ⟨h, h8⟩
          have q8 : (k : Int) < 5 := by omega
          have qR : ¬ (k : Int) < (R.length : Int) := by omega
          go_wp2_with fail
          go_ret
          exact ⟨rfl, BX.out _ HB.out⟩
        · have q8 : ¬ (k : Int) < 5 := by omega
          by_cases hR : k < R.length
          · have qR : (k : Int) < (R.length : Int) := by omega
            go_wp2_with fail
            go_ret
            exact ⟨rfl, BX.out _ HB.out⟩
          · have qR : ¬ (k : Int) < (R.length : Int) := by omega
            go_wp2_with fail
            go_ret
            exact ⟨rfl, BX.out _ HB.out⟩
end Go.Proofs.YtjkhokholcchfaaDoor
