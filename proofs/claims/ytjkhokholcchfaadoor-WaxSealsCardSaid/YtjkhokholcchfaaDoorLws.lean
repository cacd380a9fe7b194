/- The law WaxSeals: its walk. -/
import Derived.Test.YtjkhokholcchfaaDoorGp
namespace Go.Proofs.YtjkhokholcchfaaDoor
open Go.RowKit Sha

theorem partsN (l : List UInt8) (i : Nat) : [(l.take i).drop 0, [], (l.take l.length).drop i].flatten = l := by
  rw [List.take_length]
  simp
theorem cut_numW (z : Int) (n : Nat) (hn : n < 9223372036854775807) : ∃ i : Nat, i ≤ n ∧ wrap64 ((IntKind.u64.wrap z).tmod ((n : Int) + 1)) = (i : Int) := by
  have h0 : 0 ≤ IntKind.u64.wrap z := by rw [IntKind.wrap_u64]; omega
  have h1 : (IntKind.u64.wrap z).tmod ((n : Int) + 1) = IntKind.u64.wrap z % ((n : Int) + 1) := Int.tmod_eq_emod_of_nonneg h0
  have h2 := Int.emod_lt_of_pos (IntKind.u64.wrap z) (show (0 : Int) < (n : Int) + 1 by omega)
  have h3 := Int.emod_nonneg (IntKind.u64.wrap z) (show ((n : Int) + 1) ≠ 0 by omega)
  rw [h1]
  generalize IntKind.u64.wrap z % ((n : Int) + 1) = q at *
  refine ⟨q.toNat, by omega, ?_⟩
  unfold wrap64
  omega

set_option maxRecDepth 100000 in
set_option maxHeartbeats 8000000 in
theorem law_waxSeals (H M : List UInt8) (kd : UInt8) (nm N : List UInt8) (a : Option Addr) (c : Nat) (F0 : List UInt8) (z : Int) (w : World) (hH : H.length = 32) (hM : M.length = 32) (hN : N.length = 16) (hF : F0.length ≤ c) (hc : c ≤ 9223372036854775807) (hz : a = none → c = 0) (hin : bytesIn w a F0) (_ : (Lit.int .i64 z).wf = true) (ht : tables w) :
    Calls Tryd.prog 4 #[.agg (letterCells H M kd nm N (.slice a F0.length c)).toArray, .int .i64 z] w fun e w' => e = .returned (.bool true) ∧ Below w.heap.size w w' := by
  have KL : Hid ((keyCells H M).length = 64) := Lib.hid (keyCells_length hH hM)
  have NL : Hid ((byteCells N).length = 16) := Lib.hid (by rw [byteCells_length]; exact hN)
  have B1 := Lib.hid (alloc_below w (.cells (letterCells H M kd nm N (.slice a F0.length c)).toArray 38 (0, 0)))
  have L1 := Lib.hid (letter_of hH hM hN (blockIs.new w (letterCells H M kd nm N (.slice a F0.length c)) 38))
  have T1 := Lib.hid (ht.below B1.out ht.2.2.1 ht.2.2.2)
  have I1 := Lib.hid ((hin.take 150).below B1.out)
  have HZ := Lib.hid hz
  have hsz := str_size nm
  have e3 : (F0.take 150).length ≤ c := by rw [List.length_take]; omega
  have e4 : (F0.take 150).length ≤ 150 := by rw [List.length_take]; omega
  have CT := Lib.hid (fun X => to_any H M X hH hM)
  have CD := Lib.hid (fun X (f : List UInt8) h => docSealR_any H M N kd nm f X hH hM hN h)
  have CS0 := Lib.hid (fun W hW ps vs hvs hp L hL hm n hn hn2 X g hX hc => seal_at W H M N kd nm hH hM hN hW ps vs hvs hp L hL hm n hn hn2 X g hX hc)
  have CC1 := Lib.hid (fun X => cut_any a F0.length c X hF hc)
  rw [show min F0.length 150 = (F0.take 150).length by rw [List.length_take]; omega] at CC1
  clear hin ht hH hM hN hz
  obtain ⟨C, hC⟩ : ∃ C, C = keyCells H M := ⟨_, rfl⟩
  obtain ⟨NB, hNB⟩ : ∃ NB, NB = byteCells N := ⟨_, rfl⟩
  have LKEY : Hid (∀ X g v, letterAt X g H M kd nm N v → X.rangeAt g 0 C) := Lib.hid (fun X g v h => by rw [hC]; exact h.keys)
  have LNON : Hid (∀ X g v, letterAt X g H M kd nm N v → X.rangeAt g 66 NB) := Lib.hid (fun X g v h => by rw [hNB]; exact h.nonce)
  rw [← hC] at KL CT CD CS0
  rw [← hNB] at NL CD CS0
  clear hC hNB
  generalize letterCells H M kd nm N (.slice a F0.length c) = CC at *
  go_enter Tryd.func4, Tryd.ntmps4
  have c65 := L1.out.name
  have c82 := L1.out.bytes
  go_upto_region 1 with fail
  generalize w.alloc (.cells CC.toArray 38 (0, 0)) = w1 at *
  obtain ⟨g, hg⟩ : ∃ g, g = w.heap.size := ⟨_, rfl⟩
  rw [← hg] at L1 c65 c82 ⊢
  clear hg
  by_cases hbig : 1000 < nm.length
  · have g0 : (1000 : Int) < (nm.length : Int) := by omega
    have WX := Lib.hid (waxes_any w1 T1.out)
    go_wp2_with fail
    with_reducible refine WX.out.mono ?_
    rintro e w2 ⟨rfl, kk⟩
    have B2 := Lib.hid (B1.out.trans (kk.mono B1.out.size))
    clear kk
    go_wp2_with fail
    go_ret
    exact ⟨rfl, B2.out⟩
  have g0 : ¬ (1000 : Int) < (nm.length : Int) := by omega
  go_upto_region 3 with fail
  go_wp2_with fail
  with_reducible refine (CC1.out _).mono ?_
  rintro e wq ⟨rfl, rfl⟩
  clear hF g0 CC1
  generalize F0.take 150 = f at *
  obtain ⟨i, hi, r0⟩ := cut_numW z f.length (by omega)
  have R0 := Lib.hid r0
  clear r0
  have s1 : IntKind.i64.wrap ((f.length : Int) + 1) = (f.length : Int) + 1 := IntWalk.i64_in _ (by omega)
  have s2 : IntKind.u64.wrap ((f.length : Int) + 1) = (f.length : Int) + 1 := IntWalk.u64_in _ (by omega)
  have s5 : ¬ (f.length : Int) + 1 = 0 := by omega
  have s6 : (0 : Int) ≤ (f.length : Int) + 1 := by omega
  go_upto_region 5 with fail
  rw [R0.out]
  clear R0 s1 s2 s5 s6 c82
  have c64 := L1.out.kind
  have R0 := Lib.hid (LKEY.out _ _ _ L1.out)
  have R1 := Lib.hid (LNON.out _ _ _ L1.out)
  have cv := conv_string w1 a f c I1.out
  have CD1 := Lib.hid (CD.out w1 f (by omega))
  go_wp2_with (first
    | (refine Ci.wpList_load_mid_if (by rfl) 36 _ rfl g 0 rfl C _ R0.out Tryd.underlying36 rfl (by rw [infoRK, KL.out]) ?_)
    | (refine Ci.wpList_load_mid_if (by rfl) 28 _ rfl g 66 rfl NB _ R1.out Tryd.underlying28 rfl (by rw [infoN, NL.out]) ?_))
  with_reducible refine CD1.out.mono ?_
  rintro e w2 ⟨rfl, kk⟩
  have B2 := Lib.hid (B1.out.trans (kk.mono B1.out.size))
  have LT1 := Lib.hid (L1.out.below kk)
  have T2 := Lib.hid (T1.out.below kk T1.out.2.2.1 T1.out.2.2.2)
  have okf : (⟨a, c, f⟩ : Pt).ok0 w2 := ⟨⟨e3, hc, I1.out.below kk⟩, HZ.out⟩
  have CS1 := Lib.hid (fun X ga hX hq => CS0.out w2 T2.out [⟨a, c, f⟩] [.slice a f.length c] rfl (by simp only [List.mem_singleton]; rintro p rfl; exact okf) f (by simp) (by omega) 1 rfl (by omega) X ga hX hq)
  have LK1 := Lib.hid (fun X (hX : Below w2.heap.size w2 X) => LKEY.out X g _ (LT1.out.below hX))
  have LN1 := Lib.hid (fun X (hX : Below w2.heap.size w2 X) => LNON.out X g _ (LT1.out.below hX))
  have OKF := Lib.hid okf
  clear kk cv CD1 CD c64 c65 R0 R1 I1 L1 T1 B1 okf
  go_upto_region 6 with fail
  refine wp_region_noPanic ?_
  refine wp_region_held_drew (S := fun w' => Below w2.heap.size w2 w') (by kernel_rfl) (below_drew' (Below.refl _ _)) (fun hH => ?_)
  generalize w2.drew = x0 at *
  refine wpAnyH_take (i := 0) (oi := { dst := some 44, op := Op.fieldAddr 38 (Operand.tmp 2) 0, type := 0, pos := "law.go:41", after := #[], guard := none }) (v := .pointer (some ⟨g, 0, none⟩)) rfl (by kernel_rfl) (by kernel_rfl) (by kernel_rfl) (fun _ _ _ h => h) (Or.inl ⟨by rfl, fun wx hS => ?_⟩) hH ?_
  · go_simp
  simp only [Act.put, List.setIfInBounds_toArray, List.set_cons_zero, List.set_cons_succ]
  refine wpAnyH_take (i := 1) (oi := { dst := some 45, op := Op.load 36 (Operand.tmp 44), type := 36, pos := "law.go:41", after := #[{ on := 0, ground := Ground.data }], guard := none }) (v := .agg (C).toArray) rfl (by kernel_rfl) (by kernel_rfl) (by kernel_rfl) (fun _ _ _ h => h) (yieldsIf_load_mid (by rfl) 36 _ rfl (g) 0 rfl (C) _ (fun wx hS => LK1.out wx hS) Tryd.underlying36 rfl (by rw [infoRK, KL.out])) hH ?_
  simp only [Act.put, List.setIfInBounds_toArray, List.set_cons_zero, List.set_cons_succ]
  refine wpAnyH_take (i := 3) (oi := { dst := some 47, op := Op.fieldAddr 38 (Operand.tmp 2) 1, type := 0, pos := "law.go:41", after := #[], guard := none }) (v := .pointer (some ⟨g, 64, none⟩)) rfl (by kernel_rfl) (by kernel_rfl) (by kernel_rfl) (fun _ _ _ h => h) (Or.inl ⟨by rfl, fun wx hS => ?_⟩) hH ?_
  · go_simp
  simp only [Act.put, List.setIfInBounds_toArray, List.set_cons_zero, List.set_cons_succ]
  refine wpAnyH_take (i := 4) (oi := { dst := some 48, op := Op.load 5 (Operand.tmp 47), type := 5, pos := "law.go:41", after := #[{ on := 3, ground := Ground.data }], guard := none }) (v := .int .u8 (V kd)) rfl (by kernel_rfl) (by kernel_rfl) (by kernel_rfl) (fun _ _ _ h => h) (Or.inl ⟨by rfl, fun wx hS => ?_⟩) hH ?_
  · have e1 := (LT1.out.below hS).kind; go_simp
  simp only [Act.put, List.setIfInBounds_toArray, List.set_cons_zero, List.set_cons_succ]
  refine wpAnyH_take (i := 5) (oi := { dst := some 49, op := Op.fieldAddr 38 (Operand.tmp 2) 2, type := 0, pos := "law.go:41", after := #[], guard := none }) (v := .pointer (some ⟨g, 65, none⟩)) rfl (by kernel_rfl) (by kernel_rfl) (by kernel_rfl) (fun _ _ _ h => h) (Or.inl ⟨by rfl, fun wx hS => ?_⟩) hH ?_
  · go_simp
  simp only [Act.put, List.setIfInBounds_toArray, List.set_cons_zero, List.set_cons_succ]
  refine wpAnyH_take (i := 6) (oi := { dst := some 50, op := Op.load 9 (Operand.tmp 49), type := 9, pos := "law.go:41", after := #[{ on := 5, ground := Ground.data }], guard := none }) (v := .string (str nm)) rfl (by kernel_rfl) (by kernel_rfl) (by kernel_rfl) (fun _ _ _ h => h) (Or.inl ⟨by rfl, fun wx hS => ?_⟩) hH ?_
  · have e1 := (LT1.out.below hS).name; go_simp
  simp only [Act.put, List.setIfInBounds_toArray, List.set_cons_zero, List.set_cons_succ]
  refine wpAnyH_take (i := 7) (oi := { dst := some 51, op := Op.fieldAddr 38 (Operand.tmp 2) 3, type := 0, pos := "law.go:41", after := #[], guard := none }) (v := .pointer (some ⟨g, 66, none⟩)) rfl (by kernel_rfl) (by kernel_rfl) (by kernel_rfl) (fun _ _ _ h => h) (Or.inl ⟨by rfl, fun wx hS => ?_⟩) hH ?_
  · go_simp
  simp only [Act.put, List.setIfInBounds_toArray, List.set_cons_zero, List.set_cons_succ]
  refine wpAnyH_take (i := 8) (oi := { dst := some 52, op := Op.load 28 (Operand.tmp 51), type := 28, pos := "law.go:41", after := #[{ on := 7, ground := Ground.data }], guard := none }) (v := .agg (NB).toArray) rfl (by kernel_rfl) (by kernel_rfl) (by kernel_rfl) (fun _ _ _ h => h) (yieldsIf_load_mid (by rfl) 28 _ rfl (g) 66 rfl (NB) _ (fun wx hS => LN1.out wx hS) Tryd.underlying28 rfl (by rw [infoN, NL.out])) hH ?_
  simp only [Act.put, List.setIfInBounds_toArray, List.set_cons_zero, List.set_cons_succ]
  refine wpAnyH_take (i := 9) (oi := { dst := some 53, op := Op.move (Operand.tmp 5), type := 22, pos := "law.go:41", after := #[], guard := none }) (v := .slice a f.length c) rfl (by kernel_rfl) (by kernel_rfl) (by kernel_rfl) (fun _ _ _ h => h) (Or.inl ⟨by rfl, fun wx hS => ?_⟩) hH ?_
  · go_simp
  simp only [Act.put, List.setIfInBounds_toArray, List.set_cons_zero, List.set_cons_succ]
  have k1 := hH
  revert hH
  refine join1 (Q := ?Q6_1_) (H := fun ga wx => Below w2.heap.size w2 wx ∧ True ∧ cellsAt wx ga [.slice a f.length c]) (fun REST => ?main6_1_) ?rest6_1_
  case main6_1_ =>
    intro hH 
    refine wpAnyH_ready (rs := [2, 10]) (by kernel_rfl) (by simp) ?_
    refine AllReadyH.cons (o := { dst := some 46, op := Op.call { callee := Callee.value (Operand.func 22), args := #[Operand.tmp 45], argTypes := #[36] }, type := 45, pos := "law.go:41", after := #[{ on := 1, ground := Ground.data }], guard := none }) rfl (fun KK hKK => ?_) (AllReadyH.cons (o := { dst := some 54, op := Op.buildSlice 54 1 #[(0, Operand.tmp 53)], type := 54, pos := "law.go:41", after := #[{ on := 9, ground := Ground.data }], guard := none }) rfl (fun KK hKK => ?_) AllReadyH.nil)
    · go_simp
      with_reducible refine (CT.out x0).mono ?_
      rintro e x6_1_0 ⟨rfl, kb⟩
      have hN := hH.trans (kb.mono hH.size)
      clear hH kb
      refine hKK.out _ _ hN (fun hH => ?_)
      clear hKK KK hN
      try simp only [Act.put, List.setIfInBounds_toArray, List.set_cons_zero, List.set_cons_succ]
      refine wpAnyH_ready (rs := [10]) (by kernel_rfl) (by simp) ?_
      refine AllReadyH.cons (o := { dst := some 54, op := Op.buildSlice 54 1 #[(0, Operand.tmp 53)], type := 54, pos := "law.go:41", after := #[{ on := 9, ground := Ground.data }], guard := none }) rfl (fun KK hKK => ?_) AllReadyH.nil
      have kb := alloc_below x6_1_0 (.cells #[.slice a f.length c] 22 (0, 0))
      have q_ga := cellsAt.new x6_1_0 #[.slice a f.length c] x6_1_0.heap.size 22 [.slice a f.length c] rfl rfl
      have hN := hH.trans (kb.mono hH.size)
      clear hH kb
      go_simp
      refine hKK.out _ _ hN (fun hH => ?_)
      clear hKK KK hN
      try simp only [Act.put, List.setIfInBounds_toArray, List.set_cons_zero, List.set_cons_succ]
      generalize x6_1_0.alloc (.cells #[.slice a f.length c] 22 (0, 0)) = x6_1_1 at *
      generalize x6_1_0.heap.size = ga at *
      refine wpAnyH_listed (L2 := #[true, true, true, true, true, true, true, true, true, true, true, false, false, false, false, false, false]) (by kernel_rfl) ?_
      exact REST ga x6_1_1 ⟨hH, True.intro, q_ga⟩
    · have kb := alloc_below x0 (.cells #[.slice a f.length c] 22 (0, 0))
      have q_ga := cellsAt.new x0 #[.slice a f.length c] x0.heap.size 22 [.slice a f.length c] rfl rfl
      have hN := hH.trans (kb.mono hH.size)
      clear hH kb
      go_simp
      refine hKK.out _ _ hN (fun hH => ?_)
      clear hKK KK hN
      try simp only [Act.put, List.setIfInBounds_toArray, List.set_cons_zero, List.set_cons_succ]
      generalize x0.alloc (.cells #[.slice a f.length c] 22 (0, 0)) = x6_1_0 at *
      generalize x0.heap.size = ga at *
      refine wpAnyH_ready (rs := [2]) (by kernel_rfl) (by simp) ?_
      refine AllReadyH.cons (o := { dst := some 46, op := Op.call { callee := Callee.value (Operand.func 22), args := #[Operand.tmp 45], argTypes := #[36] }, type := 45, pos := "law.go:41", after := #[{ on := 1, ground := Ground.data }], guard := none }) rfl (fun KK hKK => ?_) AllReadyH.nil
      go_simp
      with_reducible refine (CT.out x6_1_0).mono ?_
      rintro e x6_1_1 ⟨rfl, kb⟩
      replace q_ga := q_ga.keep kb
      have hN := hH.trans (kb.mono hH.size)
      clear hH kb
      refine hKK.out _ _ hN (fun hH => ?_)
      clear hKK KK hN
      try simp only [Act.put, List.setIfInBounds_toArray, List.set_cons_zero, List.set_cons_succ]
      refine wpAnyH_listed (L2 := #[true, true, true, true, true, true, true, true, true, true, true, false, false, false, false, false, false]) (by kernel_rfl) ?_
      exact REST ga x6_1_1 ⟨hH, True.intro, q_ga⟩
  case rest6_1_ =>
    rintro ga xaa ⟨hH, -, q_ga⟩
    refine wpAnyH_ready (rs := [11]) (by kernel_rfl) (by simp) ?_
    refine AllReadyH.cons (o := { dst := some 55, op := Op.call { callee := Callee.value (Operand.func 23), args := #[Operand.tmp 46, Operand.tmp 48, Operand.tmp 50, Operand.tmp 52, Operand.tmp 54], argTypes := #[45, 5, 9, 28, 54] }, type := 44, pos := "law.go:41", after := #[{ on := 2, ground := Ground.data }, { on := 4, ground := Ground.data }, { on := 6, ground := Ground.data }, { on := 8, ground := Ground.data }, { on := 10, ground := Ground.data }, { on := 2, ground := Ground.chain }], guard := none }) rfl (fun KK hKK => ?_) AllReadyH.nil
    go_simp
    with_reducible refine (CS1.out xaa ga hH q_ga).mono ?_
    rintro e xa ⟨v, rfl, ho, kb⟩
    have hN := hH.trans (kb.mono hH.size)
    clear hH kb
    refine hKK.out _ _ hN (fun hH => ?_)
    clear hKK KK hN
    try simp only [Act.put, List.setIfInBounds_toArray, List.set_cons_zero, List.set_cons_succ]
    obtain ⟨a1, c1, rfl, ok1⟩ := Pt.ok0_of ho
    refine wpAnyH_take (i := 12) (oi := { dst := some 43, op := Op.move (Operand.tmp 55), type := 44, pos := "law.go:41", after := #[{ on := 11, ground := Ground.data }], guard := none }) (v := .tuple #[.slice a1 (sealR H M kd nm N f).1.length c1, .int .i64 (sealR H M kd nm N f).2]) rfl (by kernel_rfl) (by kernel_rfl) (by kernel_rfl) (fun _ _ _ h => h) (Or.inl ⟨by rfl, fun wx hS => ?_⟩) hH ?_
    · go_simp
    simp only [Act.put, List.setIfInBounds_toArray, List.set_cons_zero, List.set_cons_succ]
    refine wpAnyH_take (i := 13) (oi := { dst := some 56, op := Op.extract (Operand.tmp 43) 0, type := 22, pos := "law.go:41", after := #[{ on := 12, ground := Ground.data }], guard := none }) (v := .slice a1 (sealR H M kd nm N f).1.length c1) rfl (by kernel_rfl) (by kernel_rfl) (by kernel_rfl) (fun _ _ _ h => h) (Or.inl ⟨by rfl, fun wx hS => ?_⟩) hH ?_
    · go_simp
    simp only [Act.put, List.setIfInBounds_toArray, List.set_cons_zero, List.set_cons_succ]
    refine wpAnyH_take (i := 14) (oi := { dst := some 57, op := Op.extract (Operand.tmp 43) 1, type := 41, pos := "law.go:41", after := #[{ on := 12, ground := Ground.data }, { on := 15, ground := Ground.gcOnly Departure.lateStores }], guard := none }) (v := .int .i64 (sealR H M kd nm N f).2) rfl (by kernel_rfl) (by kernel_rfl) (by kernel_rfl) (fun _ _ _ h => h) (Or.inl ⟨by rfl, fun wx hS => ?_⟩) hH ?_
    · go_simp
    simp only [Act.put, List.setIfInBounds_toArray, List.set_cons_zero, List.set_cons_succ]
    refine wpAnyH_ready (rs := [15]) (by kernel_rfl) (by simp) ?_
    refine AllReadyH.cons (o := { dst := some 9, op := Op.assign (Operand.tmp 56), type := 22, pos := "law.go:41", after := #[{ on := 13, ground := Ground.data }, { on := 11, ground := Ground.chain }, { on := 0, ground := Ground.phase }, { on := 1, ground := Ground.phase }, { on := 2, ground := Ground.phase }, { on := 3, ground := Ground.phase }, { on := 4, ground := Ground.phase }, { on := 5, ground := Ground.phase }, { on := 6, ground := Ground.phase }, { on := 7, ground := Ground.phase }, { on := 8, ground := Ground.phase }, { on := 9, ground := Ground.phase }, { on := 10, ground := Ground.phase }, { on := 11, ground := Ground.phase }, { on := 12, ground := Ground.phase }, { on := 13, ground := Ground.phase }, { on := 14, ground := Ground.textOnly Departure.lateStores }], guard := none }) rfl (fun KK hKK => ?_) AllReadyH.nil
    go_simp
    refine hKK.out _ _ hH (fun hH => ?_)
    clear hKK KK
    try simp only [Act.put, List.setIfInBounds_toArray, List.set_cons_zero, List.set_cons_succ]
    refine wpAnyH_ready (rs := [16]) (by kernel_rfl) (by simp) ?_
    refine AllReadyH.cons (o := { dst := some 10, op := Op.assign (Operand.tmp 57), type := 41, pos := "law.go:41", after := #[{ on := 14, ground := Ground.data }, { on := 15, ground := Ground.chain }, { on := 0, ground := Ground.phase }, { on := 1, ground := Ground.phase }, { on := 2, ground := Ground.phase }, { on := 3, ground := Ground.phase }, { on := 4, ground := Ground.phase }, { on := 5, ground := Ground.phase }, { on := 6, ground := Ground.phase }, { on := 7, ground := Ground.phase }, { on := 8, ground := Ground.phase }, { on := 9, ground := Ground.phase }, { on := 10, ground := Ground.phase }, { on := 11, ground := Ground.phase }, { on := 12, ground := Ground.phase }, { on := 13, ground := Ground.phase }, { on := 14, ground := Ground.phase }, { on := 15, ground := Ground.phase }], guard := none }) rfl (fun KK hKK => ?_) AllReadyH.nil
    go_simp
    refine hKK.out _ _ hH (fun hH => ?_)
    clear hKK KK
    try simp only [Act.put, List.setIfInBounds_toArray, List.set_cons_zero, List.set_cons_succ]
    refine wpAnyH_done (by kernel_rfl) ?_ _
    refine NoPanic.normal ?_
    have OK1 := Lib.hid ok1
    have KB1 := Lib.hid hH
    clear hH k1 ho ok1 q_ga CS1 LK1 LN1
    have B3 := Lib.hid (B2.out.trans (KB1.out.mono B2.out.size))
    have LT2 := Lib.hid (LT1.out.below KB1.out)
    have T3 := Lib.hid (T2.out.below KB1.out T2.out.2.2.1 T2.out.2.2.2)
    have okf := OKF.out.below KB1.out
    clear LT1 T2 B2 OKF KB1
    have g1 := Lib.hid (fun wx => (⟨a, c, f⟩ : Pt).run_h i hi e3 wx)
    have g2 := Lib.hid (fun wx => (⟨a, c, f⟩ : Pt).run_l i hi e3 wx)
    dsimp only at g1 g2
    have ok1 := Pt.sub_ok0 okf 0 i (by omega) hi
    have ok3 := Pt.sub_ok0 okf i f.length hi (Nat.le_refl _)
    have hfl := partsN f i
    have CS2 : Hid (∀ X ga, Below xa.heap.size xa X → cellsAt X ga [.slice ((⟨a, c, f⟩ : Pt).sub 0 i).a ((⟨a, c, f⟩ : Pt).sub 0 i).l.length ((⟨a, c, f⟩ : Pt).sub 0 i).c, .slice none 0 0, .slice ((⟨a, c, f⟩ : Pt).sub i f.length).a ((⟨a, c, f⟩ : Pt).sub i f.length).l.length ((⟨a, c, f⟩ : Pt).sub i f.length).c] → _) := Lib.hid (fun X ga (hX : Below xa.heap.size xa X) hq => CS0.out xa T3.out [(⟨a, c, f⟩ : Pt).sub 0 i, ⟨none, 0, []⟩, (⟨a, c, f⟩ : Pt).sub i f.length] _ rfl (by
      simp only [List.mem_cons, List.not_mem_nil, or_false]
      rintro p (rfl | rfl | rfl)
      · exact ok1
      · exact ⟨⟨Nat.le_refl _, by show (0 : Nat) ≤ _; omega, Or.inl rfl⟩, fun _ => rfl⟩
      · exact ok3) f hfl (by omega) 3 rfl (by omega) X ga hX hq)
    have LK2 := Lib.hid (fun X (hX : Below xa.heap.size xa X) => LKEY.out X g _ (LT2.out.below hX))
    have LN2 := Lib.hid (fun X (hX : Below xa.heap.size xa X) => LNON.out X g _ (LT2.out.below hX))
    generalize (⟨a, c, f⟩ : Pt).sub 0 i = p1 at *
    generalize (⟨a, c, f⟩ : Pt).sub i f.length = p2 at *
    clear ok1 ok3 okf hfl hi
    go_upto_region 7 with fail
    refine wp_region_noPanic ?_
    refine wp_region_held_drew (S := fun w' => Below xa.heap.size xa w') (by kernel_rfl) (below_drew' (Below.refl _ _)) (fun hH => ?_)
    generalize xa.drew = x1 at *
    refine wpAnyH_take (i := 0) (oi := { dst := some 59, op := Op.fieldAddr 38 (Operand.tmp 2) 0, type := 0, pos := "law.go:42", after := #[], guard := none }) (v := .pointer (some ⟨g, 0, none⟩)) rfl (by kernel_rfl) (by kernel_rfl) (by kernel_rfl) (fun _ _ _ h => h) (Or.inl ⟨by rfl, fun wx hS => ?_⟩) hH ?_
    · go_simp
    simp only [Act.put, List.setIfInBounds_toArray, List.set_cons_zero, List.set_cons_succ]
    refine wpAnyH_take (i := 1) (oi := { dst := some 60, op := Op.load 36 (Operand.tmp 59), type := 36, pos := "law.go:42", after := #[{ on := 0, ground := Ground.data }], guard := none }) (v := .agg (C).toArray) rfl (by kernel_rfl) (by kernel_rfl) (by kernel_rfl) (fun _ _ _ h => h) (yieldsIf_load_mid (by rfl) 36 _ rfl (g) 0 rfl (C) _ (fun wx hS => LK2.out wx hS) Tryd.underlying36 rfl (by rw [infoRK, KL.out])) hH ?_
    simp only [Act.put, List.setIfInBounds_toArray, List.set_cons_zero, List.set_cons_succ]
    refine wpAnyH_take (i := 3) (oi := { dst := some 62, op := Op.fieldAddr 38 (Operand.tmp 2) 1, type := 0, pos := "law.go:42", after := #[], guard := none }) (v := .pointer (some ⟨g, 64, none⟩)) rfl (by kernel_rfl) (by kernel_rfl) (by kernel_rfl) (fun _ _ _ h => h) (Or.inl ⟨by rfl, fun wx hS => ?_⟩) hH ?_
    · go_simp
    simp only [Act.put, List.setIfInBounds_toArray, List.set_cons_zero, List.set_cons_succ]
    refine wpAnyH_take (i := 4) (oi := { dst := some 63, op := Op.load 5 (Operand.tmp 62), type := 5, pos := "law.go:42", after := #[{ on := 3, ground := Ground.data }], guard := none }) (v := .int .u8 (V kd)) rfl (by kernel_rfl) (by kernel_rfl) (by kernel_rfl) (fun _ _ _ h => h) (Or.inl ⟨by rfl, fun wx hS => ?_⟩) hH ?_
    · have e1 := (LT2.out.below hS).kind; go_simp
    simp only [Act.put, List.setIfInBounds_toArray, List.set_cons_zero, List.set_cons_succ]
    refine wpAnyH_take (i := 5) (oi := { dst := some 64, op := Op.fieldAddr 38 (Operand.tmp 2) 2, type := 0, pos := "law.go:42", after := #[], guard := none }) (v := .pointer (some ⟨g, 65, none⟩)) rfl (by kernel_rfl) (by kernel_rfl) (by kernel_rfl) (fun _ _ _ h => h) (Or.inl ⟨by rfl, fun wx hS => ?_⟩) hH ?_
    · go_simp
    simp only [Act.put, List.setIfInBounds_toArray, List.set_cons_zero, List.set_cons_succ]
    refine wpAnyH_take (i := 6) (oi := { dst := some 65, op := Op.load 9 (Operand.tmp 64), type := 9, pos := "law.go:42", after := #[{ on := 5, ground := Ground.data }], guard := none }) (v := .string (str nm)) rfl (by kernel_rfl) (by kernel_rfl) (by kernel_rfl) (fun _ _ _ h => h) (Or.inl ⟨by rfl, fun wx hS => ?_⟩) hH ?_
    · have e1 := (LT2.out.below hS).name; go_simp
    simp only [Act.put, List.setIfInBounds_toArray, List.set_cons_zero, List.set_cons_succ]
    refine wpAnyH_take (i := 7) (oi := { dst := some 66, op := Op.fieldAddr 38 (Operand.tmp 2) 3, type := 0, pos := "law.go:42", after := #[], guard := none }) (v := .pointer (some ⟨g, 66, none⟩)) rfl (by kernel_rfl) (by kernel_rfl) (by kernel_rfl) (fun _ _ _ h => h) (Or.inl ⟨by rfl, fun wx hS => ?_⟩) hH ?_
    · go_simp
    simp only [Act.put, List.setIfInBounds_toArray, List.set_cons_zero, List.set_cons_succ]
    refine wpAnyH_take (i := 8) (oi := { dst := some 67, op := Op.load 28 (Operand.tmp 66), type := 28, pos := "law.go:42", after := #[{ on := 7, ground := Ground.data }], guard := none }) (v := .agg (NB).toArray) rfl (by kernel_rfl) (by kernel_rfl) (by kernel_rfl) (fun _ _ _ h => h) (yieldsIf_load_mid (by rfl) 28 _ rfl (g) 66 rfl (NB) _ (fun wx hS => LN2.out wx hS) Tryd.underlying28 rfl (by rw [infoN, NL.out])) hH ?_
    simp only [Act.put, List.setIfInBounds_toArray, List.set_cons_zero, List.set_cons_succ]
    refine wpAnyH_take (i := 9) (oi := { dst := some 68, op := Op.move (Operand.tmp 5), type := 22, pos := "law.go:42", after := #[], guard := none }) (v := .slice a f.length c) rfl (by kernel_rfl) (by kernel_rfl) (by kernel_rfl) (fun _ _ _ h => h) (Or.inl ⟨by rfl, fun wx hS => ?_⟩) hH ?_
    · go_simp
    simp only [Act.put, List.setIfInBounds_toArray, List.set_cons_zero, List.set_cons_succ]
    refine wpAnyH_take (i := 10) (oi := { dst := some 69, op := Op.move (Operand.tmp 6), type := 3, pos := "law.go:42", after := #[], guard := none }) (v := .int .i64 (i : Int)) rfl (by kernel_rfl) (by kernel_rfl) (by kernel_rfl) (fun _ _ _ h => h) (Or.inl ⟨by rfl, fun wx hS => ?_⟩) hH ?_
    · go_simp
    simp only [Act.put, List.setIfInBounds_toArray, List.set_cons_zero, List.set_cons_succ]
    refine wpAnyH_take (i := 11) (oi := { dst := some 70, op := Op.slice 22 (Operand.tmp 68) none (some (Operand.tmp 69)) none, type := 22, pos := "law.go:42", after := #[{ on := 9, ground := Ground.data }, { on := 10, ground := Ground.data }], guard := none }) (v := .slice p1.a p1.l.length p1.c) rfl (by kernel_rfl) (by kernel_rfl) (by kernel_rfl) (fun _ _ _ h => h) (Or.inl ⟨by rfl, fun wx hS => ?_⟩) hH ?_
    · have e1 := g1.out wx; go_simp
    simp only [Act.put, List.setIfInBounds_toArray, List.set_cons_zero, List.set_cons_succ]
    refine wpAnyH_take (i := 12) (oi := { dst := some 71, op := Op.move (Operand.tmp 5), type := 22, pos := "law.go:42", after := #[], guard := none }) (v := .slice a f.length c) rfl (by kernel_rfl) (by kernel_rfl) (by kernel_rfl) (fun _ _ _ h => h) (Or.inl ⟨by rfl, fun wx hS => ?_⟩) hH ?_
    · go_simp
    simp only [Act.put, List.setIfInBounds_toArray, List.set_cons_zero, List.set_cons_succ]
    refine wpAnyH_take (i := 13) (oi := { dst := some 72, op := Op.move (Operand.tmp 6), type := 3, pos := "law.go:42", after := #[], guard := none }) (v := .int .i64 (i : Int)) rfl (by kernel_rfl) (by kernel_rfl) (by kernel_rfl) (fun _ _ _ h => h) (Or.inl ⟨by rfl, fun wx hS => ?_⟩) hH ?_
    · go_simp
    simp only [Act.put, List.setIfInBounds_toArray, List.set_cons_zero, List.set_cons_succ]
    refine wpAnyH_take (i := 14) (oi := { dst := some 73, op := Op.slice 22 (Operand.tmp 71) (some (Operand.tmp 72)) none none, type := 22, pos := "law.go:42", after := #[{ on := 12, ground := Ground.data }, { on := 13, ground := Ground.data }], guard := none }) (v := .slice p2.a p2.l.length p2.c) rfl (by kernel_rfl) (by kernel_rfl) (by kernel_rfl) (fun _ _ _ h => h) (Or.inl ⟨by rfl, fun wx hS => ?_⟩) hH ?_
    · have e1 := g2.out wx; go_simp
    simp only [Act.put, List.setIfInBounds_toArray, List.set_cons_zero, List.set_cons_succ]
    have k1 := hH
    revert hH
    refine join1 (Q := ?Q7_1_) (H := fun ga wx => Below xa.heap.size xa wx ∧ True ∧ cellsAt wx ga [.slice p1.a p1.l.length p1.c, .slice none 0 0, .slice p2.a p2.l.length p2.c]) (fun REST => ?main7_1_) ?rest7_1_
    case main7_1_ =>
      intro hH 
      refine wpAnyH_ready (rs := [2, 15]) (by kernel_rfl) (by simp) ?_
      refine AllReadyH.cons (o := { dst := some 61, op := Op.call { callee := Callee.value (Operand.func 22), args := #[Operand.tmp 60], argTypes := #[36] }, type := 45, pos := "law.go:42", after := #[{ on := 1, ground := Ground.data }], guard := none }) rfl (fun KK hKK => ?_) (AllReadyH.cons (o := { dst := some 74, op := Op.buildSlice 54 3 #[(0, Operand.tmp 70), (1, Operand.const (Value.slice none 0 0)), (2, Operand.tmp 73)], type := 54, pos := "law.go:42", after := #[{ on := 11, ground := Ground.data }, { on := 14, ground := Ground.data }], guard := none }) rfl (fun KK hKK => ?_) AllReadyH.nil)
      · go_simp
        with_reducible refine (CT.out x1).mono ?_
        rintro e x7_1_0 ⟨rfl, kb⟩
        have hN := hH.trans (kb.mono hH.size)
        clear hH kb
        refine hKK.out _ _ hN (fun hH => ?_)
        clear hKK KK hN
        try simp only [Act.put, List.setIfInBounds_toArray, List.set_cons_zero, List.set_cons_succ]
        refine wpAnyH_ready (rs := [15]) (by kernel_rfl) (by simp) ?_
        refine AllReadyH.cons (o := { dst := some 74, op := Op.buildSlice 54 3 #[(0, Operand.tmp 70), (1, Operand.const (Value.slice none 0 0)), (2, Operand.tmp 73)], type := 54, pos := "law.go:42", after := #[{ on := 11, ground := Ground.data }, { on := 14, ground := Ground.data }], guard := none }) rfl (fun KK hKK => ?_) AllReadyH.nil
        have kb := alloc_below x7_1_0 (.cells #[.slice p1.a p1.l.length p1.c, .slice none 0 0, .slice p2.a p2.l.length p2.c] 22 (0, 0))
        have q_ga := cellsAt.new x7_1_0 #[.slice p1.a p1.l.length p1.c, .slice none 0 0, .slice p2.a p2.l.length p2.c] x7_1_0.heap.size 22 [.slice p1.a p1.l.length p1.c, .slice none 0 0, .slice p2.a p2.l.length p2.c] rfl rfl
        have hN := hH.trans (kb.mono hH.size)
        clear hH kb
        go_simp
        refine hKK.out _ _ hN (fun hH => ?_)
        clear hKK KK hN
        try simp only [Act.put, List.setIfInBounds_toArray, List.set_cons_zero, List.set_cons_succ]
        generalize x7_1_0.alloc (.cells #[.slice p1.a p1.l.length p1.c, .slice none 0 0, .slice p2.a p2.l.length p2.c] 22 (0, 0)) = x7_1_1 at *
        generalize x7_1_0.heap.size = ga at *
        refine wpAnyH_listed (L2 := #[true, true, true, true, true, true, true, true, true, true, true, true, true, true, true, true, false, false, false, false, false, false]) (by kernel_rfl) ?_
        exact REST ga x7_1_1 ⟨hH, True.intro, q_ga⟩
      · have kb := alloc_below x1 (.cells #[.slice p1.a p1.l.length p1.c, .slice none 0 0, .slice p2.a p2.l.length p2.c] 22 (0, 0))
        have q_ga := cellsAt.new x1 #[.slice p1.a p1.l.length p1.c, .slice none 0 0, .slice p2.a p2.l.length p2.c] x1.heap.size 22 [.slice p1.a p1.l.length p1.c, .slice none 0 0, .slice p2.a p2.l.length p2.c] rfl rfl
        have hN := hH.trans (kb.mono hH.size)
        clear hH kb
        go_simp
        refine hKK.out _ _ hN (fun hH => ?_)
        clear hKK KK hN
        try simp only [Act.put, List.setIfInBounds_toArray, List.set_cons_zero, List.set_cons_succ]
        generalize x1.alloc (.cells #[.slice p1.a p1.l.length p1.c, .slice none 0 0, .slice p2.a p2.l.length p2.c] 22 (0, 0)) = x7_1_0 at *
        generalize x1.heap.size = ga at *
        refine wpAnyH_ready (rs := [2]) (by kernel_rfl) (by simp) ?_
        refine AllReadyH.cons (o := { dst := some 61, op := Op.call { callee := Callee.value (Operand.func 22), args := #[Operand.tmp 60], argTypes := #[36] }, type := 45, pos := "law.go:42", after := #[{ on := 1, ground := Ground.data }], guard := none }) rfl (fun KK hKK => ?_) AllReadyH.nil
        go_simp
        with_reducible refine (CT.out x7_1_0).mono ?_
        rintro e x7_1_1 ⟨rfl, kb⟩
        replace q_ga := q_ga.keep kb
        have hN := hH.trans (kb.mono hH.size)
        clear hH kb
        refine hKK.out _ _ hN (fun hH => ?_)
        clear hKK KK hN
        try simp only [Act.put, List.setIfInBounds_toArray, List.set_cons_zero, List.set_cons_succ]
        refine wpAnyH_listed (L2 := #[true, true, true, true, true, true, true, true, true, true, true, true, true, true, true, true, false, false, false, false, false, false]) (by kernel_rfl) ?_
        exact REST ga x7_1_1 ⟨hH, True.intro, q_ga⟩
    case rest7_1_ =>
      rintro ga xba ⟨hH, -, q_ga⟩
      refine wpAnyH_ready (rs := [16]) (by kernel_rfl) (by simp) ?_
      refine AllReadyH.cons (o := { dst := some 75, op := Op.call { callee := Callee.value (Operand.func 23), args := #[Operand.tmp 61, Operand.tmp 63, Operand.tmp 65, Operand.tmp 67, Operand.tmp 74], argTypes := #[45, 5, 9, 28, 54] }, type := 44, pos := "law.go:42", after := #[{ on := 2, ground := Ground.data }, { on := 4, ground := Ground.data }, { on := 6, ground := Ground.data }, { on := 8, ground := Ground.data }, { on := 15, ground := Ground.data }, { on := 2, ground := Ground.chain }], guard := none }) rfl (fun KK hKK => ?_) AllReadyH.nil
      go_simp
      with_reducible refine (CS2.out xba ga hH q_ga).mono ?_
      rintro e xb ⟨v, rfl, ho, kb⟩
      have hN := hH.trans (kb.mono hH.size)
      clear hH kb
      refine hKK.out _ _ hN (fun hH => ?_)
      clear hKK KK hN
      try simp only [Act.put, List.setIfInBounds_toArray, List.set_cons_zero, List.set_cons_succ]
      obtain ⟨a2, c2, rfl, ok2⟩ := Pt.ok0_of ho
      refine wpAnyH_take (i := 17) (oi := { dst := some 58, op := Op.move (Operand.tmp 75), type := 44, pos := "law.go:42", after := #[{ on := 16, ground := Ground.data }], guard := none }) (v := .tuple #[.slice a2 (sealR H M kd nm N f).1.length c2, .int .i64 (sealR H M kd nm N f).2]) rfl (by kernel_rfl) (by kernel_rfl) (by kernel_rfl) (fun _ _ _ h => h) (Or.inl ⟨by rfl, fun wx hS => ?_⟩) hH ?_
      · go_simp
      simp only [Act.put, List.setIfInBounds_toArray, List.set_cons_zero, List.set_cons_succ]
      refine wpAnyH_take (i := 18) (oi := { dst := some 76, op := Op.extract (Operand.tmp 58) 0, type := 22, pos := "law.go:42", after := #[{ on := 17, ground := Ground.data }], guard := none }) (v := .slice a2 (sealR H M kd nm N f).1.length c2) rfl (by kernel_rfl) (by kernel_rfl) (by kernel_rfl) (fun _ _ _ h => h) (Or.inl ⟨by rfl, fun wx hS => ?_⟩) hH ?_
      · go_simp
      simp only [Act.put, List.setIfInBounds_toArray, List.set_cons_zero, List.set_cons_succ]
      refine wpAnyH_take (i := 19) (oi := { dst := some 77, op := Op.extract (Operand.tmp 58) 1, type := 41, pos := "law.go:42", after := #[{ on := 17, ground := Ground.data }, { on := 20, ground := Ground.gcOnly Departure.lateStores }], guard := none }) (v := .int .i64 (sealR H M kd nm N f).2) rfl (by kernel_rfl) (by kernel_rfl) (by kernel_rfl) (fun _ _ _ h => h) (Or.inl ⟨by rfl, fun wx hS => ?_⟩) hH ?_
      · go_simp
      simp only [Act.put, List.setIfInBounds_toArray, List.set_cons_zero, List.set_cons_succ]
      refine wpAnyH_ready (rs := [20]) (by kernel_rfl) (by simp) ?_
      refine AllReadyH.cons (o := { dst := some 11, op := Op.assign (Operand.tmp 76), type := 22, pos := "law.go:42", after := #[{ on := 18, ground := Ground.data }, { on := 16, ground := Ground.chain }, { on := 0, ground := Ground.phase }, { on := 1, ground := Ground.phase }, { on := 2, ground := Ground.phase }, { on := 3, ground := Ground.phase }, { on := 4, ground := Ground.phase }, { on := 5, ground := Ground.phase }, { on := 6, ground := Ground.phase }, { on := 7, ground := Ground.phase }, { on := 8, ground := Ground.phase }, { on := 9, ground := Ground.phase }, { on := 10, ground := Ground.phase }, { on := 11, ground := Ground.phase }, { on := 12, ground := Ground.phase }, { on := 13, ground := Ground.phase }, { on := 14, ground := Ground.phase }, { on := 15, ground := Ground.phase }, { on := 16, ground := Ground.phase }, { on := 17, ground := Ground.phase }, { on := 18, ground := Ground.phase }, { on := 19, ground := Ground.textOnly Departure.lateStores }], guard := none }) rfl (fun KK hKK => ?_) AllReadyH.nil
      go_simp
      refine hKK.out _ _ hH (fun hH => ?_)
      clear hKK KK
      try simp only [Act.put, List.setIfInBounds_toArray, List.set_cons_zero, List.set_cons_succ]
      refine wpAnyH_ready (rs := [21]) (by kernel_rfl) (by simp) ?_
      refine AllReadyH.cons (o := { dst := some 12, op := Op.assign (Operand.tmp 77), type := 41, pos := "law.go:42", after := #[{ on := 19, ground := Ground.data }, { on := 20, ground := Ground.chain }, { on := 0, ground := Ground.phase }, { on := 1, ground := Ground.phase }, { on := 2, ground := Ground.phase }, { on := 3, ground := Ground.phase }, { on := 4, ground := Ground.phase }, { on := 5, ground := Ground.phase }, { on := 6, ground := Ground.phase }, { on := 7, ground := Ground.phase }, { on := 8, ground := Ground.phase }, { on := 9, ground := Ground.phase }, { on := 10, ground := Ground.phase }, { on := 11, ground := Ground.phase }, { on := 12, ground := Ground.phase }, { on := 13, ground := Ground.phase }, { on := 14, ground := Ground.phase }, { on := 15, ground := Ground.phase }, { on := 16, ground := Ground.phase }, { on := 17, ground := Ground.phase }, { on := 18, ground := Ground.phase }, { on := 19, ground := Ground.phase }, { on := 20, ground := Ground.phase }], guard := none }) rfl (fun KK hKK => ?_) AllReadyH.nil
      go_simp
      refine hKK.out _ _ hH (fun hH => ?_)
      clear hKK KK
      try simp only [Act.put, List.setIfInBounds_toArray, List.set_cons_zero, List.set_cons_succ]
      refine wpAnyH_done (by kernel_rfl) ?_ _
      refine NoPanic.normal ?_
      have OK2 := Lib.hid ok2
      have KB2 := Lib.hid hH
      clear hH k1 ho ok2 q_ga CS2 LK2 LN2
      have B4 := Lib.hid (B3.out.trans (KB2.out.mono B3.out.size))
      have WX := Lib.hid (waxes_any xb (T3.out.below KB2.out T3.out.2.2.1 T3.out.2.2.2))
      have X1 := Lib.hid (OK1.out.below KB2.out)
      have X2 := Lib.hid OK2.out
      clear KB2 T3 B3 LT2 g1 g2 OK1 OK2
      generalize (sealR H M kd nm N f).1 = O at *
      generalize (sealR H M kd nm N f).2 = n at *
      go_wp2_with fail
      with_reducible refine WX.out.mono ?_
      rintro e w4 ⟨rfl, kk⟩
      have cv1 := conv_string w4 a1 O c1 (X1.out.1.2.2.below kk)
      have cv2 := conv_string w4 a2 O c2 (X2.out.1.2.2.below kk)
      have sb : ((str O).toList == (str O).toList) = true := by simp
      have B5 := Lib.hid (B4.out.trans (kk.mono B4.out.size))
      clear kk WX
      go_wp2_with fail
      go_ret
      exact ⟨rfl, B5.out⟩
end Go.Proofs.YtjkhokholcchfaaDoor
