/- The law WaxBack: its walk. -/
import Derived.Test.YtjkhokholcchfaaDoorGp
import Derived.Test.YtjkhokholcchfaaDoorZer
namespace Go.Proofs.YtjkhokholcchfaaDoor
open Go.RowKit Sha

theorem range_in {w : World} {g o : Nat} {l : List UInt8} (h : w.rangeAt g o (byteCells l)) : bytesIn w (some ⟨g, o, none⟩) l :=
  Or.inr ⟨_, _, rfl, fun j hj => h j _ (byteCells_get l j hj)⟩
theorem meetB {w : World} {base : Nat} {v : Value} {l B : List UInt8} {n : Nat} (h : rowM w base v ([] ++ l)) (hl : l = B) (hn : n = B.length) : ∃ ba bc, v = .slice ba n bc ∧ Pt.ok0 w ⟨ba, bc, B⟩ := by
  obtain ⟨a, c, hv, h1, h2, h3, h4, -⟩ := h.bytes
  rw [List.nil_append, hl] at hv h1 h3
  exact ⟨a, c, by rw [hv, hn], ⟨h1, by unfold maxLen at h2; exact h2, h3⟩, h4⟩
theorem openR_seal (H M : List UInt8) (kd : UInt8) (nm N b : List UInt8) (hN : N.length = 16) (h : nm.length ≤ 255) : openR H M kd nm (wseal H M kd nm N b) = (b, 0) := by
  unfold wseal
  rw [openR_at H M kd nm N _ _ hN (wmark_length _ _ _ _ _) h, if_pos rfl, whide_whide]
theorem sealR_shortB (H M : List UInt8) (kd : UInt8) (nm N b : List UInt8) (h : nm.length ≤ 255) : sealR H M kd nm N b = (wseal H M kd nm N b, 0) := by
  unfold sealR
  rw [if_neg (by omega)]

set_option maxRecDepth 100000 in
set_option maxHeartbeats 8000000 in
theorem law_waxBack (H M : List UInt8) (kd : UInt8) (nm N : List UInt8) (a : Option Addr) (c : Nat) (F : List UInt8) (w : World) (hH : H.length = 32) (hM : M.length = 32) (hN : N.length = 16) (hF : F.length ≤ c) (hc : c ≤ 9223372036854775807) (hz : a = none → c = 0) (hin : bytesIn w a F) (ht : tables w) :
    Calls Tryd.prog 6 #[.agg (letterCells H M kd nm N (.slice a F.length c)).toArray] w fun e w' => e = .returned (.bool true) ∧ Below w.heap.size w w' := by
  have KL : Hid ((keyCells H M).length = 64) := Lib.hid (keyCells_length hH hM)
  have NL : Hid ((byteCells N).length = 16) := Lib.hid (by rw [byteCells_length]; exact hN)
  have B1 := Lib.hid (alloc_below w (.cells (letterCells H M kd nm N (.slice a F.length c)).toArray 38 (0, 0)))
  have L1 := Lib.hid (letter_of hH hM hN (blockIs.new w (letterCells H M kd nm N (.slice a F.length c)) 38))
  have T1 := Lib.hid (ht.below B1.out ht.2.2.1 ht.2.2.2)
  have I1 := Lib.hid (hin.below B1.out)
  obtain ⟨B, hB⟩ : ∃ B, B = F.take 800 := ⟨_, rfl⟩
  obtain ⟨n, hn⟩ : ∃ n, n = B.length := ⟨_, rfl⟩
  have hn8 : n ≤ 800 := by rw [hn, hB, List.length_take]; omega
  have hnF : n ≤ F.length := by rw [hn, hB, List.length_take]; omega
  have ok1 : (⟨a, c, F⟩ : Pt).ok0 w := ⟨⟨hF, hc, hin⟩, hz⟩
  have OKP := Lib.hid ((Pt.sub_ok0 ok1 0 n (by omega) hnF).below B1.out)
  have gp := Lib.hid (fun X => (⟨a, c, F⟩ : Pt).run_h n hnF hF X)
  dsimp only at gp
  have hpl : Hid (((⟨a, c, F⟩ : Pt).sub 0 n).l = B) := Lib.hid (by
    show (F.take n).drop 0 = B
    rw [List.drop_zero, hn, hB, List.length_take]
    rcases Nat.le_total 800 F.length with h | h
    · rw [Nat.min_eq_left h]
    · rw [Nat.min_eq_right h, List.take_of_length_le (Nat.le_refl _), List.take_of_length_le h])
  generalize (⟨a, c, F⟩ : Pt).sub 0 n = pa at *
  have hns := str_size nm
  have hnm2 : (nm.take 255).length ≤ 255 := by rw [List.length_take]; omega
  have CT := Lib.hid (fun X => to_any H M X hH hM)
  have CS0 := Lib.hid (fun W k m hW ps vs hvs hp L hL hm n hn hn2 X g hX hc => seal_at W H M N k m hH hM hN hW ps vs hvs hp L hL hm n hn hn2 X g hX hc)
  have CO0 := Lib.hid (fun X k m b a c h1 h2 h3 h4 h5 => openR_any H M k m b a c X hH hM h1 h2 h3 h4 h5)
  have SL := Lib.hid (fun k m bb => wseal_length H M k m N bb hN)
  have SR := Lib.hid (fun k m bb (h : m.length ≤ 255) => sealR_shortB H M k m N bb h)
  have SO := Lib.hid (fun k m bb (h : m.length ≤ 255) => openR_seal H M k m N bb hN h)
  have SN : Hid (∀ k m bb, ∃ rest, wseal H M k m N bb = N ++ rest) := Lib.hid (fun k m bb => ⟨_, rfl⟩)
  have HNL := Lib.hid hN
  clear hin ht hH hM hN hz ok1
  obtain ⟨C, hC⟩ : ∃ C, C = keyCells H M := ⟨_, rfl⟩
  obtain ⟨NB, hNB⟩ : ∃ NB, NB = byteCells N := ⟨_, rfl⟩
  have LKEY : Hid (∀ X g v, letterAt X g H M kd nm N v → X.rangeAt g 0 C) := Lib.hid (fun X g v h => by rw [hC]; exact h.keys)
  have LNON : Hid (∀ X g v, letterAt X g H M kd nm N v → X.rangeAt g 66 NB) := Lib.hid (fun X g v h => by rw [hNB]; exact h.nonce)
  have ONE : Hid (∀ v ∈ C, v.oneCell' = true) := Lib.hid (by
    rw [hC]
    intro v hv
    rcases List.mem_append.1 hv with h | h
    · exact byteCells_one _ v h
    · exact byteCells_one _ v h)
  rw [← hC] at KL CT CS0 CO0
  rw [← hNB] at NL CS0
  clear hC hNB
  generalize letterCells H M kd nm N (.slice a F.length c) = CC at *
  go_enter Tryd.func6, Tryd.ntmps6
  have c65 := L1.out.name
  go_upto_region 1 with fail
  generalize w.alloc (.cells CC.toArray 38 (0, 0)) = w1 at *
  obtain ⟨g, hg⟩ : ∃ g, g = w.heap.size := ⟨_, rfl⟩
  rw [← hg] at L1 c65 ⊢
  clear hg
  go_cut [3] (fun v wx => v = .string (str (nm.take 255)) ∧ w1 = wx)
  case first =>
    go_wp2_with fail
    all_goals
      go_meet
      case rel =>
        refine ⟨?_, rfl⟩
        first
        | (rw [str_extract, List.drop_zero]; done)
        | (rw [str_extract, List.drop_zero, List.take_of_length_le (Nat.le_refl _), List.take_of_length_le (by omega)]; done)
  obtain ⟨rfl, rfl⟩ := hcut
  clear hns c65
  generalize nm.take 255 = nu at *
  have hns := str_size nu
  have LIT : Hid (rowM (w1.alloc (.cells #[] 5 (0, 0))) w1.heap.size (.slice (some ⟨w1.heap.size, 0, none⟩) 0 0) []) := Lib.hid (rowM.lit w1 w1.heap.size [] #[] rfl 0 rfl (Nat.le_refl _) (by simp))
  have kl := alloc_below w1 (.cells #[] 5 (0, 0))
  have c82 := (L1.out.below kl).bytes
  have IL := Lib.hid (I1.out.below kl)
  have KLL := Lib.hid kl
  clear kl
  go_upto_region 2 with fail
  go_cut [4] (fun v wx => ∃ ba bc, v = .slice ba n bc ∧ Hid (Pt.ok0 wx ⟨ba, bc, B⟩) ∧ Hid (Below w1.heap.size w1 wx))
  case first =>
    by_cases h8 : 800 < F.length
    · have q8 : (800 : Int) < (F.length : Int) := by omega
      have H8 : Hid (800 = (F.take 800).length) := Lib.hid (by rw [List.length_take]; omega)
      have hl9 : ([] : List UInt8).length + (F.take 800).length ≤ 1000000 := by rw [← H8.out]; decide
      have I8 := IL.out.take 800
      go_wp2_with (at_builtin; go_loud (refine append_M0 rfl _ _ rfl w1.heap.size _ [] rfl LIT.out a 800 c (F.take 800) H8.out rfl I8 hl9 KLL.out.size ?_; intro v' w' r1 r2))
      go_meet
      case rel =>
        obtain ⟨ba, bc, e1, e2⟩ := meetB r1 hB.symm hn
        exact ⟨ba, bc, e1, Lib.hid e2, Lib.hid (KLL.out.trans (LIT.out.grown r2 KLL.out.size))⟩
    · have q8 : ¬ (800 : Int) < (F.length : Int) := by omega
      have hl9 : ([] : List UInt8).length + F.length ≤ 1000000 := by show 0 + _ ≤ _; omega
      go_wp2_with (at_builtin; go_loud (refine append_M0 rfl _ _ rfl w1.heap.size _ [] rfl LIT.out a F.length c F rfl rfl IL.out hl9 KLL.out.size ?_; intro v' w' r1 r2))
      go_meet
      case rel =>
        obtain ⟨ba, bc, e1, e2⟩ := meetB r1 (by rw [hB, List.take_of_length_le (by omega)]) hn
        exact ⟨ba, bc, e1, Lib.hid e2, Lib.hid (KLL.out.trans (LIT.out.grown r2 KLL.out.size))⟩
  obtain ⟨ba, bc, rfl, OKB, KB⟩ := hcut
  have B2 := Lib.hid (B1.out.trans (KB.out.mono B1.out.size))
  have L2 := Lib.hid (L1.out.below KB.out)
  have T2 := Lib.hid (T1.out.below KB.out T1.out.2.2.1 T1.out.2.2.2)
  have OKP2 := Lib.hid (OKP.out.below KB.out)
  have hB' : B.length = n := hn.symm
  clear hB hn LIT c82 IL KLL I1 KB B1 L1 T1 OKP
  rename World => w2
  have R0 := Lib.hid (LKEY.out _ _ _ L2.out)
  have CT2 := Lib.hid (CT.out w2)
  have hzk := zeroKeys
  go_wp2_with (refine Ci.wpList_load_mid_if (by rfl) 36 _ rfl g 0 rfl C _ R0.out Tryd.underlying36 rfl (by rw [infoRK, KL.out]) ?_)
  with_reducible refine CT2.out.mono ?_
  rintro e w4 ⟨rfl, kk⟩
  have B4 := Lib.hid (B2.out.trans (kk.mono B2.out.size))
  have L4 := Lib.hid (L2.out.below kk)
  have T4 := Lib.hid (T2.out.below kk T2.out.2.2.1 T2.out.2.2.2)
  have OKB4 := Lib.hid (OKB.out.below kk)
  have OKP4 := Lib.hid (OKP2.out.below kk)
  clear kk B2 L2 T2 OKB OKP2 R0 CT CT2
  go_wp2_with (refine wpList_store_block rfl 45 _ _ rfl w4.heap.size 0 C rfl rfl (zeros 64) 45 (blockIs.new w4 _ _) (by rw [infoKeys, KL.out]) (by simp [zeros, KL.out]) ONE.out ?_)
  intro w5 h1 h2 h3
  have h1 := h1.out
  rw [splice_all _ _ (by simp [zeros, KL.out])] at h1
  have kk : Below w4.heap.size w4 w5 := (alloc_below w4 _).trans (h2.out.below (Nat.le_refl _) (by simp))
  have B5 := Lib.hid (B4.out.trans (kk.mono B4.out.size))
  have L5 := Lib.hid (L4.out.below kk)
  have T5 := Lib.hid (T4.out.below kk T4.out.2.2.1 T4.out.2.2.2)
  have OKB5 := Lib.hid (OKB4.out.below kk)
  have OKP5 := Lib.hid (OKP4.out.below kk)
  have G5 := Lib.hid h1
  obtain ⟨kb, hkb⟩ : ∃ kb, kb = w4.heap.size := ⟨_, rfl⟩
  rw [← hkb] at G5 ⊢
  clear h1 h2 h3 kk hkb B4 L4 T4 OKB4 OKP4 hzk ONE
  obtain ⟨L, hL⟩ : ∃ L, L = n + 48 := ⟨_, rfl⟩
  have c64 := L5.out.kind
  have RK := Lib.hid (Ci.range_of G5.out)
  have RN := Lib.hid (LNON.out _ _ _ L5.out)
  have kl := alloc_below w5 (.cells #[.slice ba n bc] 22 (0, 0))
  have HS := Lib.hid (CS0.out w5 kd nu T5.out [⟨ba, bc, B⟩] [.slice ba n bc] (by simp [Pt.val, hB']) (by simp only [List.mem_singleton]; rintro p rfl; exact OKB5.out) B (by simp) (by omega) 1 rfl (by omega) _ w5.heap.size kl (cellsAt.new w5 #[.slice ba n bc] w5.heap.size 22 [.slice ba n bc] rfl rfl))
  rw [SR.out kd nu B (by omega)] at HS
  dsimp only at HS
  go_wp2_with (first
    | (refine Ci.wpList_load_mid_if (by rfl) 45 _ rfl kb 0 rfl C _ RK.out Tryd.underlying45 rfl (by rw [infoKeys, KL.out]) ?_)
    | (refine Ci.wpList_load_mid_if (by rfl) 28 _ rfl g 66 rfl NB _ RN.out Tryd.underlying28 rfl (by rw [infoN, NL.out]) ?_))
  with_reducible refine HS.out.mono ?_
  rintro e w6 ⟨v, rfl, ho, k2⟩
  have kk := kl.trans (k2.mono kl.size)
  obtain ⟨sb, sc, rfl, -, -, s1, s2, s3⟩ := own_at ho (by intro h; have := congrArg List.length h; rw [SL.out] at this; cases this)
  have hcs : L ≤ sc := by rw [SL.out] at s1; omega
  have hsl := SL.out kd nu B
  rw [hsl, hB', ← hL]
  rw [hB', ← hL] at hsl
  have HCS := Lib.hid hcs
  have HSM := Lib.hid s2
  have B6 := Lib.hid (B5.out.trans (kk.mono B5.out.size))
  have L6 := Lib.hid (L5.out.below kk)
  have T6 := Lib.hid (T5.out.below kk T5.out.2.2.1 T5.out.2.2.2)
  have OKB6 := Lib.hid (OKB5.out.below kk)
  have OKP6 := Lib.hid (OKP5.out.below kk)
  have G6 := Lib.hid (G5.out.below kk G5.out.lt)
  have IS6 := Lib.hid s3
  have HSO := Lib.hid (SO.out kd nu B (by omega))
  obtain ⟨rest, hrest⟩ := SN.out kd nu B
  clear SL SN
  generalize wseal H M kd nu N B = SL at *
  have HRS := Lib.hid hrest
  have HSL : Hid (SL.length = L) := Lib.hid hsl
  clear kl k2 kk ho s1 s2 s3 HS RK RN c64 B5 L5 T5 OKB5 OKP5 G5 hrest hsl hcs CS0 SR SO LNON NL
  have q48 : Hid (IntKind.i64.wrap ((n : Int) + 48) = (L : Int)) := Lib.hid (by rw [IntWalk.i64_in _ (by omega)]; omega)
  have HL := Lib.hid hL
  clear hL
  have rs := Lib.hid (fun X => r_sliceH 22 slice22 sz22 sb 0 L sc 16 X (by have := HCS.out; have := HL.out; omega) (by have := HCS.out; have := HL.out; omega))
  rw [show ((16 : Nat) : Int) = 16 from rfl] at rs
  have cs5 : Hid (∀ X, Below w6.heap.size w6 X → (convert 22 9 (.slice (some ⟨sb, 0, none⟩) 16 sc)).run Tryd.prog X = .ok (.string (str N)) X) := Lib.hid (fun X hX => by
    have h := IS6.out.below hX
    rw [HRS.out] at h
    have := conv_string X _ N sc (part_in (P := []) (Q := N) (R := rest) h)
    rwa [HNL.out] at this)
  have cn5 : Hid (∀ X, Below w6.heap.size w6 X → (convert 22 9 (.slice (some ⟨g, 66, none⟩) 16 16)).run Tryd.prog X = .ok (.string (str N)) X) := Lib.hid (fun X hX => by
    have := conv_string X _ N 16 (range_in (L6.out.below hX).nonce)
    rwa [HNL.out] at this)
  have WXc := Lib.hid (fun X (h : Below w6.heap.size w6 X) => waxes_any X (T6.out.below h T6.out.2.2.1 T6.out.2.2.2))
  go_upto_region 5 with fail
  refine wp_region_noPanic ?_
  refine wp_region_held_drew (S := fun w' => Below w6.heap.size w6 w') (by kernel_rfl) (below_drew' (Below.refl _ _)) (fun hH => ?_)
  generalize w6.drew = x5 at *
  refine wpAnyH_ready (rs := [0]) (by kernel_rfl) (by simp) ?_
  refine AllReadyH.cons (o := { dst := some 43, op := Op.call { callee := Callee.value (Operand.func 19), args := #[], argTypes := #[] }, type := 4, pos := "law.go:63", after := #[], guard := none }) rfl (fun KK hKK => ?_) AllReadyH.nil
  go_simp
  with_reducible refine (WXc.out x5 hH).mono ?_
  rintro e x6 ⟨rfl, kb⟩
  have hN := hH.trans (kb.mono hH.size)
  clear hH kb
  refine hKK.out _ _ hN (fun hH => ?_)
  clear hKK KK hN
  try simp only [Act.put, List.setIfInBounds_toArray, List.set_cons_zero, List.set_cons_succ]
  refine wpAnyH_take (i := 1) (oi := { dst := some 44, op := Op.unOp UnOp.not 4 (Operand.tmp 43), type := 4, pos := "law.go:63", after := #[{ on := 0, ground := Ground.data }], guard := none }) (v := .bool false) rfl (by kernel_rfl) (by kernel_rfl) (by kernel_rfl) (fun _ _ _ h => h) (Or.inl ⟨by rfl, fun wx hS => ?_⟩) hH ?_
  · go_simp
  simp only [Act.put, List.setIfInBounds_toArray, List.set_cons_zero, List.set_cons_succ]
  refine wpAnyH_take (i := 2) (oi := { dst := some 45, op := Op.move (Operand.tmp 44), type := 4, pos := "law.go:63", after := #[{ on := 1, ground := Ground.data }, { on := 0, ground := Ground.chain }], guard := none }) (v := .bool false) rfl (by kernel_rfl) (by kernel_rfl) (by kernel_rfl) (fun _ _ _ h => h) (Or.inl ⟨by rfl, fun wx hS => ?_⟩) hH ?_
  · go_simp
  simp only [Act.put, List.setIfInBounds_toArray, List.set_cons_zero, List.set_cons_succ]
  refine wpAnyH_take (i := 3) (oi := { dst := some 46, op := Op.move (Operand.tmp 7), type := 41, pos := "law.go:63", after := #[{ on := 2, ground := Ground.guard }], guard := some (2, false) }) (v := .int .i64 0) rfl (by kernel_rfl) (by kernel_rfl) (by kernel_rfl) (fun _ _ _ h => h) (Or.inl ⟨by rfl, fun wx hS => ?_⟩) hH ?_
  · go_simp
  simp only [Act.put, List.setIfInBounds_toArray, List.set_cons_zero, List.set_cons_succ]
  refine wpAnyH_take (i := 4) (oi := { dst := some 47, op := Op.binOp BinOp.neq 41 (Operand.tmp 46) (Operand.const (Value.int IntKind.i64 0)) 41, type := 4, pos := "law.go:63", after := #[{ on := 3, ground := Ground.data }, { on := 2, ground := Ground.guard }], guard := some (2, false) }) (v := .bool false) rfl (by kernel_rfl) (by kernel_rfl) (by kernel_rfl) (fun _ _ _ h => h) (Or.inl ⟨by rfl, fun wx hS => ?_⟩) hH ?_
  · go_simp
  simp only [Act.put, List.setIfInBounds_toArray, List.set_cons_zero, List.set_cons_succ]
  refine wpAnyH_take (i := 5) (oi := { dst := some 48, op := Op.pick (Operand.tmp 45) (Operand.const (Value.bool true)) (Operand.tmp 47), type := 4, pos := "law.go:63", after := #[{ on := 2, ground := Ground.data }, { on := 4, ground := Ground.data }], guard := none }) (v := .bool false) rfl (by kernel_rfl) (by kernel_rfl) (by kernel_rfl) (fun _ _ _ h => h) (Or.inl ⟨by rfl, fun wx hS => ?_⟩) hH ?_
  · go_simp
  simp only [Act.put, List.setIfInBounds_toArray, List.set_cons_zero, List.set_cons_succ]
  refine wpAnyH_take (i := 6) (oi := { dst := some 49, op := Op.move (Operand.tmp 48), type := 4, pos := "law.go:63", after := #[{ on := 5, ground := Ground.data }, { on := 2, ground := Ground.chain }], guard := none }) (v := .bool false) rfl (by kernel_rfl) (by kernel_rfl) (by kernel_rfl) (fun _ _ _ h => h) (Or.inl ⟨by rfl, fun wx hS => ?_⟩) hH ?_
  · go_simp
  simp only [Act.put, List.setIfInBounds_toArray, List.set_cons_zero, List.set_cons_succ]
  refine wpAnyH_take (i := 7) (oi := { dst := some 50, op := Op.move (Operand.tmp 6), type := 22, pos := "law.go:63", after := #[{ on := 6, ground := Ground.guard }], guard := some (6, false) }) (v := .slice (some ⟨sb, 0, none⟩) L sc) rfl (by kernel_rfl) (by kernel_rfl) (by kernel_rfl) (fun _ _ _ h => h) (Or.inl ⟨by rfl, fun wx hS => ?_⟩) hH ?_
  · go_simp
  simp only [Act.put, List.setIfInBounds_toArray, List.set_cons_zero, List.set_cons_succ]
  refine wpAnyH_take (i := 8) (oi := { dst := some 51, op := Op.call { callee := Callee.builtin Builtin.len, args := #[Operand.tmp 50], argTypes := #[22] }, type := 3, pos := "law.go:63", after := #[{ on := 7, ground := Ground.data }, { on := 6, ground := Ground.guard }], guard := some (6, false) }) (v := .int .i64 (L : Int)) rfl (by kernel_rfl) (by kernel_rfl) (by kernel_rfl) (fun _ _ _ h => h) (Or.inl ⟨by rfl, fun wx hS => ?_⟩) hH ?_
  · go_simp
  simp only [Act.put, List.setIfInBounds_toArray, List.set_cons_zero, List.set_cons_succ]
  refine wpAnyH_take (i := 9) (oi := { dst := some 52, op := Op.move (Operand.tmp 4), type := 22, pos := "law.go:63", after := #[{ on := 6, ground := Ground.guard }], guard := some (6, false) }) (v := .slice ba n bc) rfl (by kernel_rfl) (by kernel_rfl) (by kernel_rfl) (fun _ _ _ h => h) (Or.inl ⟨by rfl, fun wx hS => ?_⟩) hH ?_
  · go_simp
  simp only [Act.put, List.setIfInBounds_toArray, List.set_cons_zero, List.set_cons_succ]
  refine wpAnyH_take (i := 10) (oi := { dst := some 53, op := Op.call { callee := Callee.builtin Builtin.len, args := #[Operand.tmp 52], argTypes := #[22] }, type := 3, pos := "law.go:63", after := #[{ on := 9, ground := Ground.data }, { on := 6, ground := Ground.guard }], guard := some (6, false) }) (v := .int .i64 (n : Int)) rfl (by kernel_rfl) (by kernel_rfl) (by kernel_rfl) (fun _ _ _ h => h) (Or.inl ⟨by rfl, fun wx hS => ?_⟩) hH ?_
  · go_simp
  simp only [Act.put, List.setIfInBounds_toArray, List.set_cons_zero, List.set_cons_succ]
  refine wpAnyH_take (i := 11) (oi := { dst := some 54, op := Op.binOp BinOp.add 3 (Operand.tmp 53) (Operand.const (Value.int IntKind.i64 48)) 3, type := 3, pos := "law.go:63", after := #[{ on := 10, ground := Ground.data }, { on := 6, ground := Ground.guard }], guard := some (6, false) }) (v := .int .i64 (L : Int)) rfl (by kernel_rfl) (by kernel_rfl) (by kernel_rfl) (fun _ _ _ h => h) (Or.inl ⟨by rfl, fun wx hS => ?_⟩) hH ?_
  · have e1 := q48.out; go_simp
  simp only [Act.put, List.setIfInBounds_toArray, List.set_cons_zero, List.set_cons_succ]
  refine wpAnyH_take (i := 12) (oi := { dst := some 55, op := Op.binOp BinOp.neq 3 (Operand.tmp 51) (Operand.tmp 54) 3, type := 4, pos := "law.go:63", after := #[{ on := 8, ground := Ground.data }, { on := 11, ground := Ground.data }, { on := 6, ground := Ground.guard }], guard := some (6, false) }) (v := .bool false) rfl (by kernel_rfl) (by kernel_rfl) (by kernel_rfl) (fun _ _ _ h => h) (Or.inl ⟨by rfl, fun wx hS => ?_⟩) hH ?_
  · go_simp
  simp only [Act.put, List.setIfInBounds_toArray, List.set_cons_zero, List.set_cons_succ]
  refine wpAnyH_take (i := 13) (oi := { dst := some 56, op := Op.pick (Operand.tmp 49) (Operand.const (Value.bool true)) (Operand.tmp 55), type := 4, pos := "law.go:63", after := #[{ on := 6, ground := Ground.data }, { on := 12, ground := Ground.data }], guard := none }) (v := .bool false) rfl (by kernel_rfl) (by kernel_rfl) (by kernel_rfl) (fun _ _ _ h => h) (Or.inl ⟨by rfl, fun wx hS => ?_⟩) hH ?_
  · go_simp
  simp only [Act.put, List.setIfInBounds_toArray, List.set_cons_zero, List.set_cons_succ]
  refine wpAnyH_take (i := 14) (oi := { dst := some 57, op := Op.move (Operand.tmp 56), type := 4, pos := "law.go:63", after := #[{ on := 13, ground := Ground.data }, { on := 6, ground := Ground.chain }], guard := none }) (v := .bool false) rfl (by kernel_rfl) (by kernel_rfl) (by kernel_rfl) (fun _ _ _ h => h) (Or.inl ⟨by rfl, fun wx hS => ?_⟩) hH ?_
  · go_simp
  simp only [Act.put, List.setIfInBounds_toArray, List.set_cons_zero, List.set_cons_succ]
  refine wpAnyH_take (i := 15) (oi := { dst := some 58, op := Op.move (Operand.tmp 6), type := 22, pos := "law.go:63", after := #[{ on := 14, ground := Ground.guard }], guard := some (14, false) }) (v := .slice (some ⟨sb, 0, none⟩) L sc) rfl (by kernel_rfl) (by kernel_rfl) (by kernel_rfl) (fun _ _ _ h => h) (Or.inl ⟨by rfl, fun wx hS => ?_⟩) hH ?_
  · go_simp
  simp only [Act.put, List.setIfInBounds_toArray, List.set_cons_zero, List.set_cons_succ]
  refine wpAnyH_take (i := 16) (oi := { dst := some 59, op := Op.slice 22 (Operand.tmp 58) none (some (Operand.const (Value.int IntKind.i64 16))) none, type := 22, pos := "law.go:63", after := #[{ on := 15, ground := Ground.data }, { on := 14, ground := Ground.guard }], guard := some (14, false) }) (v := .slice (some ⟨sb, 0, none⟩) 16 sc) rfl (by kernel_rfl) (by kernel_rfl) (by kernel_rfl) (fun _ _ _ h => h) (Or.inl ⟨by rfl, fun wx hS => ?_⟩) hH ?_
  · have e1 := rs.out wx; go_simp
  simp only [Act.put, List.setIfInBounds_toArray, List.set_cons_zero, List.set_cons_succ]
  refine wpAnyH_take (i := 17) (oi := { dst := some 60, op := Op.convert 22 9 (Operand.tmp 59), type := 9, pos := "law.go:63", after := #[{ on := 16, ground := Ground.data }, { on := 14, ground := Ground.guard }], guard := some (14, false) }) (v := .string (str N)) rfl (by kernel_rfl) (by kernel_rfl) (by kernel_rfl) (fun _ _ _ h => h) (Or.inl ⟨by rfl, fun wx hS => ?_⟩) hH ?_
  · have e1 := cs5.out wx hS; go_simp
  simp only [Act.put, List.setIfInBounds_toArray, List.set_cons_zero, List.set_cons_succ]
  refine wpAnyH_take (i := 18) (oi := { dst := some 61, op := Op.fieldAddr 38 (Operand.tmp 1) 3, type := 0, pos := "law.go:63", after := #[{ on := 14, ground := Ground.guard }], guard := some (14, false) }) (v := .pointer (some ⟨g, 66, none⟩)) rfl (by kernel_rfl) (by kernel_rfl) (by kernel_rfl) (fun _ _ _ h => h) (Or.inl ⟨by rfl, fun wx hS => ?_⟩) hH ?_
  · go_simp
  simp only [Act.put, List.setIfInBounds_toArray, List.set_cons_zero, List.set_cons_succ]
  refine wpAnyH_take (i := 19) (oi := { dst := some 62, op := Op.slice 28 (Operand.tmp 61) none none none, type := 22, pos := "law.go:63", after := #[{ on := 18, ground := Ground.data }, { on := 14, ground := Ground.guard }], guard := some (14, false) }) (v := .slice (some ⟨g, 66, none⟩) 16 16) rfl (by kernel_rfl) (by kernel_rfl) (by kernel_rfl) (fun _ _ _ h => h) (Or.inl ⟨by rfl, fun wx hS => ?_⟩) hH ?_
  · go_simp
  simp only [Act.put, List.setIfInBounds_toArray, List.set_cons_zero, List.set_cons_succ]
  refine wpAnyH_take (i := 20) (oi := { dst := some 63, op := Op.convert 22 9 (Operand.tmp 62), type := 9, pos := "law.go:63", after := #[{ on := 19, ground := Ground.data }, { on := 14, ground := Ground.guard }], guard := some (14, false) }) (v := .string (str N)) rfl (by kernel_rfl) (by kernel_rfl) (by kernel_rfl) (fun _ _ _ h => h) (Or.inl ⟨by rfl, fun wx hS => ?_⟩) hH ?_
  · have e1 := cn5.out wx hS; go_simp
  simp only [Act.put, List.setIfInBounds_toArray, List.set_cons_zero, List.set_cons_succ]
  refine wpAnyH_take (i := 21) (oi := { dst := some 64, op := Op.binOp BinOp.neq 9 (Operand.tmp 60) (Operand.tmp 63) 9, type := 4, pos := "law.go:63", after := #[{ on := 17, ground := Ground.data }, { on := 20, ground := Ground.data }, { on := 14, ground := Ground.guard }], guard := some (14, false) }) (v := .bool false) rfl (by kernel_rfl) (by kernel_rfl) (by kernel_rfl) (fun _ _ _ h => h) (Or.inl ⟨by rfl, fun wx hS => ?_⟩) hH ?_
  · have e1 : ((str N).toList == (str N).toList) = true := (by simp); go_simp
  simp only [Act.put, List.setIfInBounds_toArray, List.set_cons_zero, List.set_cons_succ]
  refine wpAnyH_take (i := 22) (oi := { dst := some 65, op := Op.pick (Operand.tmp 57) (Operand.const (Value.bool true)) (Operand.tmp 64), type := 4, pos := "law.go:63", after := #[{ on := 14, ground := Ground.data }, { on := 21, ground := Ground.data }], guard := none }) (v := .bool false) rfl (by kernel_rfl) (by kernel_rfl) (by kernel_rfl) (fun _ _ _ h => h) (Or.inl ⟨by rfl, fun wx hS => ?_⟩) hH ?_
  · go_simp
  simp only [Act.put, List.setIfInBounds_toArray, List.set_cons_zero, List.set_cons_succ]
  refine wpAnyH_done (by kernel_rfl) ?_ _
  refine NoPanic.normal ?_
  have B7 := Lib.hid (B6.out.trans (hH.mono B6.out.size))
  have L7 := Lib.hid (L6.out.below hH)
  have T7 := Lib.hid (T6.out.below hH T6.out.2.2.1 T6.out.2.2.2)
  have OKB7 := Lib.hid (OKB6.out.below hH)
  have OKP7 := Lib.hid (OKP6.out.below hH)
  have G7 := Lib.hid (G6.out.below hH G6.out.lt)
  have IS7 := Lib.hid (IS6.out.below hH)
  clear WXc hH B6 L6 T6 OKB6 OKP6 G6 IS6 rs cs5 cn5 q48 HRS
  have cv := conv_string x6 (some ⟨sb, 0, none⟩) SL sc IS7.out
  rw [HSL.out] at cv
  have c64 := L7.out.kind
  have RK := Lib.hid (Ci.range_of G7.out)
  have HO := CO0.out x6 kd nu SL (some ⟨sb, 0, none⟩) sc (by have := HSL.out; have := HL.out; omega) (by have := HSL.out; have := HCS.out; omega) HSM.out IS7.out T7.out
  rw [HSO.out, HSL.out] at HO
  dsimp only at HO
  have HO := Lib.hid HO
  go_wp2_with (refine Ci.wpList_load_mid_if (by rfl) 45 _ rfl kb 0 rfl C _ RK.out Tryd.underlying45 rfl (by rw [infoKeys, KL.out]) ?_)
  with_reducible refine HO.out.mono ?_
  rintro e w8 ⟨v, rfl, ho, kk⟩
  have own : n = 0 ∨ ∃ og cs, (∃ m k, v = .slice (some ⟨og, 0, none⟩) m k) ∧ x6.heap.size ≤ og ∧ blockIs w8 og cs 5 ∧ n ≤ cs.length := by
    rcases ho.2 with ⟨_, h⟩ | ⟨og, cap, cur, hv, h1, h2, h3, h4, h5, h6⟩
    · left; omega
    · right; exact ⟨og, cur.toList, ⟨_, _, hv⟩, h1, by show _ = _; rw [Array.toArray_toList]; exact h2, by rw [Array.length_toList, h5]; omega⟩
  obtain ⟨oa, oc, rfl, o1, o2, o3, o4⟩ := ho.form
  rw [hB'] at o1 ⊢
  rw [hB'] at own
  have OWN := Lib.hid own
  have HK8 := Lib.hid kk
  have L8 := Lib.hid (L7.out.below kk)
  have co : Hid (∀ X, Below w8.heap.size w8 X → (convert 22 9 (.slice oa n oc)).run Tryd.prog X = .ok (.string (str B)) X) := Lib.hid (fun X hX => by
    have := conv_string X oa B oc (o3.below hX)
    rwa [hB'] at this)
  have cb : Hid (∀ X, Below w8.heap.size w8 X → (convert 22 9 (.slice ba n bc)).run Tryd.prog X = .ok (.string (str B)) X) := Lib.hid (fun X hX => by
    have := conv_string X ba B bc ((OKB7.out.1.2.2.below kk).below hX)
    rwa [hB'] at this)
  have cs : Hid (∀ X, Below w8.heap.size w8 X → (convert 22 9 (.slice (some ⟨sb, 0, none⟩) L sc)).run Tryd.prog X = .ok (.string (str SL)) X) := Lib.hid (fun X hX => by
    have := conv_string X _ SL sc ((IS7.out.below kk).below hX)
    rwa [HSL.out] at this)
  have cp : Hid (∀ X, Below w8.heap.size w8 X → (convert 22 9 (.slice pa.a pa.l.length pa.c)).run Tryd.prog X = .ok (.string (str B)) X) := Lib.hid (fun X hX => by
    have := conv_string X pa.a pa.l pa.c ((OKP7.out.1.2.2.below kk).below hX)
    rwa [show str pa.l = str B by rw [hpl.out]] at this)
  rw [show pa.l.length = n by rw [hpl.out]; exact hB'] at cp gp
  obtain ⟨paa, hpaa⟩ : ∃ x, x = pa.a := ⟨_, rfl⟩
  obtain ⟨pac, hpac⟩ : ∃ x, x = pa.c := ⟨_, rfl⟩
  rw [← hpaa, ← hpac] at cp gp
  clear kk ho own o1 o2 o3 o4 cv c64 RK HO OKP7 hpl hpaa hpac
  go_upto_region 9 with fail
  refine wp_region_noPanic ?_
  refine wp_region_held_drew (S := fun w' => Below w8.heap.size w8 w') (by kernel_rfl) (below_drew' (Below.refl _ _)) (fun hH => ?_)
  generalize w8.drew = x8 at *
  refine wpAnyH_take (i := 0) (oi := { dst := some 77, op := Op.move (Operand.tmp 7), type := 41, pos := "law.go:68", after := #[], guard := none }) (v := .int .i64 0) rfl (by kernel_rfl) (by kernel_rfl) (by kernel_rfl) (fun _ _ _ h => h) (Or.inl ⟨by rfl, fun wx hS => ?_⟩) hH ?_
  · go_simp
  simp only [Act.put, List.setIfInBounds_toArray, List.set_cons_zero, List.set_cons_succ]
  refine wpAnyH_take (i := 1) (oi := { dst := some 78, op := Op.binOp BinOp.neq 41 (Operand.tmp 77) (Operand.const (Value.int IntKind.i64 0)) 41, type := 4, pos := "law.go:68", after := #[{ on := 0, ground := Ground.data }], guard := none }) (v := .bool false) rfl (by kernel_rfl) (by kernel_rfl) (by kernel_rfl) (fun _ _ _ h => h) (Or.inl ⟨by rfl, fun wx hS => ?_⟩) hH ?_
  · go_simp
  simp only [Act.put, List.setIfInBounds_toArray, List.set_cons_zero, List.set_cons_succ]
  refine wpAnyH_take (i := 2) (oi := { dst := some 79, op := Op.move (Operand.tmp 78), type := 4, pos := "law.go:68", after := #[{ on := 1, ground := Ground.data }], guard := none }) (v := .bool false) rfl (by kernel_rfl) (by kernel_rfl) (by kernel_rfl) (fun _ _ _ h => h) (Or.inl ⟨by rfl, fun wx hS => ?_⟩) hH ?_
  · go_simp
  simp only [Act.put, List.setIfInBounds_toArray, List.set_cons_zero, List.set_cons_succ]
  refine wpAnyH_take (i := 3) (oi := { dst := some 80, op := Op.move (Operand.tmp 9), type := 22, pos := "law.go:68", after := #[{ on := 2, ground := Ground.guard }], guard := some (2, false) }) (v := .slice oa n oc) rfl (by kernel_rfl) (by kernel_rfl) (by kernel_rfl) (fun _ _ _ h => h) (Or.inl ⟨by rfl, fun wx hS => ?_⟩) hH ?_
  · go_simp
  simp only [Act.put, List.setIfInBounds_toArray, List.set_cons_zero, List.set_cons_succ]
  refine wpAnyH_take (i := 4) (oi := { dst := some 81, op := Op.convert 22 9 (Operand.tmp 80), type := 9, pos := "law.go:68", after := #[{ on := 3, ground := Ground.data }, { on := 2, ground := Ground.guard }], guard := some (2, false) }) (v := .string (str B)) rfl (by kernel_rfl) (by kernel_rfl) (by kernel_rfl) (fun _ _ _ h => h) (Or.inl ⟨by rfl, fun wx hS => ?_⟩) hH ?_
  · have e1 := co.out wx hS; go_simp
  simp only [Act.put, List.setIfInBounds_toArray, List.set_cons_zero, List.set_cons_succ]
  refine wpAnyH_take (i := 5) (oi := { dst := some 82, op := Op.move (Operand.tmp 4), type := 22, pos := "law.go:68", after := #[{ on := 2, ground := Ground.guard }], guard := some (2, false) }) (v := .slice ba n bc) rfl (by kernel_rfl) (by kernel_rfl) (by kernel_rfl) (fun _ _ _ h => h) (Or.inl ⟨by rfl, fun wx hS => ?_⟩) hH ?_
  · go_simp
  simp only [Act.put, List.setIfInBounds_toArray, List.set_cons_zero, List.set_cons_succ]
  refine wpAnyH_take (i := 6) (oi := { dst := some 83, op := Op.convert 22 9 (Operand.tmp 82), type := 9, pos := "law.go:68", after := #[{ on := 5, ground := Ground.data }, { on := 2, ground := Ground.guard }], guard := some (2, false) }) (v := .string (str B)) rfl (by kernel_rfl) (by kernel_rfl) (by kernel_rfl) (fun _ _ _ h => h) (Or.inl ⟨by rfl, fun wx hS => ?_⟩) hH ?_
  · have e1 := cb.out wx hS; go_simp
  simp only [Act.put, List.setIfInBounds_toArray, List.set_cons_zero, List.set_cons_succ]
  refine wpAnyH_take (i := 7) (oi := { dst := some 84, op := Op.binOp BinOp.neq 9 (Operand.tmp 81) (Operand.tmp 83) 9, type := 4, pos := "law.go:68", after := #[{ on := 4, ground := Ground.data }, { on := 6, ground := Ground.data }, { on := 2, ground := Ground.guard }], guard := some (2, false) }) (v := .bool false) rfl (by kernel_rfl) (by kernel_rfl) (by kernel_rfl) (fun _ _ _ h => h) (Or.inl ⟨by rfl, fun wx hS => ?_⟩) hH ?_
  · have e1 : ((str B).toList == (str B).toList) = true := (by simp); go_simp
  simp only [Act.put, List.setIfInBounds_toArray, List.set_cons_zero, List.set_cons_succ]
  refine wpAnyH_take (i := 8) (oi := { dst := some 85, op := Op.pick (Operand.tmp 79) (Operand.const (Value.bool true)) (Operand.tmp 84), type := 4, pos := "law.go:68", after := #[{ on := 2, ground := Ground.data }, { on := 7, ground := Ground.data }], guard := none }) (v := .bool false) rfl (by kernel_rfl) (by kernel_rfl) (by kernel_rfl) (fun _ _ _ h => h) (Or.inl ⟨by rfl, fun wx hS => ?_⟩) hH ?_
  · go_simp
  simp only [Act.put, List.setIfInBounds_toArray, List.set_cons_zero, List.set_cons_succ]
  refine wpAnyH_take (i := 9) (oi := { dst := some 86, op := Op.move (Operand.tmp 85), type := 4, pos := "law.go:68", after := #[{ on := 8, ground := Ground.data }, { on := 2, ground := Ground.chain }], guard := none }) (v := .bool false) rfl (by kernel_rfl) (by kernel_rfl) (by kernel_rfl) (fun _ _ _ h => h) (Or.inl ⟨by rfl, fun wx hS => ?_⟩) hH ?_
  · go_simp
  simp only [Act.put, List.setIfInBounds_toArray, List.set_cons_zero, List.set_cons_succ]
  refine wpAnyH_take (i := 10) (oi := { dst := some 87, op := Op.move (Operand.tmp 6), type := 22, pos := "law.go:68", after := #[{ on := 9, ground := Ground.guard }], guard := some (9, false) }) (v := .slice (some ⟨sb, 0, none⟩) L sc) rfl (by kernel_rfl) (by kernel_rfl) (by kernel_rfl) (fun _ _ _ h => h) (Or.inl ⟨by rfl, fun wx hS => ?_⟩) hH ?_
  · go_simp
  simp only [Act.put, List.setIfInBounds_toArray, List.set_cons_zero, List.set_cons_succ]
  refine wpAnyH_take (i := 11) (oi := { dst := some 88, op := Op.convert 22 9 (Operand.tmp 87), type := 9, pos := "law.go:68", after := #[{ on := 10, ground := Ground.data }, { on := 9, ground := Ground.guard }], guard := some (9, false) }) (v := .string (str SL)) rfl (by kernel_rfl) (by kernel_rfl) (by kernel_rfl) (fun _ _ _ h => h) (Or.inl ⟨by rfl, fun wx hS => ?_⟩) hH ?_
  · have e1 := cs.out wx hS; go_simp
  simp only [Act.put, List.setIfInBounds_toArray, List.set_cons_zero, List.set_cons_succ]
  refine wpAnyH_take (i := 12) (oi := { dst := some 89, op := Op.move (Operand.tmp 8), type := 9, pos := "law.go:68", after := #[{ on := 9, ground := Ground.guard }], guard := some (9, false) }) (v := .string (str SL)) rfl (by kernel_rfl) (by kernel_rfl) (by kernel_rfl) (fun _ _ _ h => h) (Or.inl ⟨by rfl, fun wx hS => ?_⟩) hH ?_
  · go_simp
  simp only [Act.put, List.setIfInBounds_toArray, List.set_cons_zero, List.set_cons_succ]
  refine wpAnyH_take (i := 13) (oi := { dst := some 90, op := Op.binOp BinOp.neq 9 (Operand.tmp 88) (Operand.tmp 89) 9, type := 4, pos := "law.go:68", after := #[{ on := 11, ground := Ground.data }, { on := 12, ground := Ground.data }, { on := 9, ground := Ground.guard }], guard := some (9, false) }) (v := .bool false) rfl (by kernel_rfl) (by kernel_rfl) (by kernel_rfl) (fun _ _ _ h => h) (Or.inl ⟨by rfl, fun wx hS => ?_⟩) hH ?_
  · have e1 : ((str SL).toList == (str SL).toList) = true := (by simp); go_simp
  simp only [Act.put, List.setIfInBounds_toArray, List.set_cons_zero, List.set_cons_succ]
  refine wpAnyH_take (i := 14) (oi := { dst := some 91, op := Op.pick (Operand.tmp 86) (Operand.const (Value.bool true)) (Operand.tmp 90), type := 4, pos := "law.go:68", after := #[{ on := 9, ground := Ground.data }, { on := 13, ground := Ground.data }], guard := none }) (v := .bool false) rfl (by kernel_rfl) (by kernel_rfl) (by kernel_rfl) (fun _ _ _ h => h) (Or.inl ⟨by rfl, fun wx hS => ?_⟩) hH ?_
  · go_simp
  simp only [Act.put, List.setIfInBounds_toArray, List.set_cons_zero, List.set_cons_succ]
  refine wpAnyH_take (i := 15) (oi := { dst := some 92, op := Op.move (Operand.tmp 91), type := 4, pos := "law.go:68", after := #[{ on := 14, ground := Ground.data }, { on := 9, ground := Ground.chain }], guard := none }) (v := .bool false) rfl (by kernel_rfl) (by kernel_rfl) (by kernel_rfl) (fun _ _ _ h => h) (Or.inl ⟨by rfl, fun wx hS => ?_⟩) hH ?_
  · go_simp
  simp only [Act.put, List.setIfInBounds_toArray, List.set_cons_zero, List.set_cons_succ]
  refine wpAnyH_take (i := 16) (oi := { dst := some 93, op := Op.move (Operand.tmp 4), type := 22, pos := "law.go:68", after := #[{ on := 15, ground := Ground.guard }], guard := some (15, false) }) (v := .slice ba n bc) rfl (by kernel_rfl) (by kernel_rfl) (by kernel_rfl) (fun _ _ _ h => h) (Or.inl ⟨by rfl, fun wx hS => ?_⟩) hH ?_
  · go_simp
  simp only [Act.put, List.setIfInBounds_toArray, List.set_cons_zero, List.set_cons_succ]
  refine wpAnyH_take (i := 17) (oi := { dst := some 94, op := Op.convert 22 9 (Operand.tmp 93), type := 9, pos := "law.go:68", after := #[{ on := 16, ground := Ground.data }, { on := 15, ground := Ground.guard }], guard := some (15, false) }) (v := .string (str B)) rfl (by kernel_rfl) (by kernel_rfl) (by kernel_rfl) (fun _ _ _ h => h) (Or.inl ⟨by rfl, fun wx hS => ?_⟩) hH ?_
  · have e1 := cb.out wx hS; go_simp
  simp only [Act.put, List.setIfInBounds_toArray, List.set_cons_zero, List.set_cons_succ]
  refine wpAnyH_take (i := 18) (oi := { dst := some 95, op := Op.fieldAddr 38 (Operand.tmp 1) 4, type := 0, pos := "law.go:68", after := #[{ on := 15, ground := Ground.guard }], guard := some (15, false) }) (v := .pointer (some ⟨g, 82, none⟩)) rfl (by kernel_rfl) (by kernel_rfl) (by kernel_rfl) (fun _ _ _ h => h) (Or.inl ⟨by rfl, fun wx hS => ?_⟩) hH ?_
  · go_simp
  simp only [Act.put, List.setIfInBounds_toArray, List.set_cons_zero, List.set_cons_succ]
  refine wpAnyH_take (i := 19) (oi := { dst := some 96, op := Op.load 22 (Operand.tmp 95), type := 22, pos := "law.go:68", after := #[{ on := 18, ground := Ground.data }, { on := 15, ground := Ground.guard }], guard := some (15, false) }) (v := .slice a F.length c) rfl (by kernel_rfl) (by kernel_rfl) (by kernel_rfl) (fun _ _ _ h => h) (Or.inl ⟨by rfl, fun wx hS => ?_⟩) hH ?_
  · have e1 := (L8.out.below hS).bytes; go_simp
  simp only [Act.put, List.setIfInBounds_toArray, List.set_cons_zero, List.set_cons_succ]
  refine wpAnyH_take (i := 20) (oi := { dst := some 97, op := Op.move (Operand.tmp 4), type := 22, pos := "law.go:68", after := #[{ on := 15, ground := Ground.guard }], guard := some (15, false) }) (v := .slice ba n bc) rfl (by kernel_rfl) (by kernel_rfl) (by kernel_rfl) (fun _ _ _ h => h) (Or.inl ⟨by rfl, fun wx hS => ?_⟩) hH ?_
  · go_simp
  simp only [Act.put, List.setIfInBounds_toArray, List.set_cons_zero, List.set_cons_succ]
  refine wpAnyH_take (i := 21) (oi := { dst := some 98, op := Op.call { callee := Callee.builtin Builtin.len, args := #[Operand.tmp 97], argTypes := #[22] }, type := 3, pos := "law.go:68", after := #[{ on := 20, ground := Ground.data }, { on := 15, ground := Ground.guard }], guard := some (15, false) }) (v := .int .i64 (n : Int)) rfl (by kernel_rfl) (by kernel_rfl) (by kernel_rfl) (fun _ _ _ h => h) (Or.inl ⟨by rfl, fun wx hS => ?_⟩) hH ?_
  · go_simp
  simp only [Act.put, List.setIfInBounds_toArray, List.set_cons_zero, List.set_cons_succ]
  refine wpAnyH_take (i := 22) (oi := { dst := some 99, op := Op.slice 22 (Operand.tmp 96) none (some (Operand.tmp 98)) none, type := 22, pos := "law.go:68", after := #[{ on := 19, ground := Ground.data }, { on := 21, ground := Ground.data }, { on := 15, ground := Ground.guard }], guard := some (15, false) }) (v := .slice paa n pac) rfl (by kernel_rfl) (by kernel_rfl) (by kernel_rfl) (fun _ _ _ h => h) (Or.inl ⟨by rfl, fun wx hS => ?_⟩) hH ?_
  · have e1 := gp.out wx; go_simp
  simp only [Act.put, List.setIfInBounds_toArray, List.set_cons_zero, List.set_cons_succ]
  refine wpAnyH_take (i := 23) (oi := { dst := some 100, op := Op.convert 22 9 (Operand.tmp 99), type := 9, pos := "law.go:68", after := #[{ on := 22, ground := Ground.data }, { on := 15, ground := Ground.guard }], guard := some (15, false) }) (v := .string (str B)) rfl (by kernel_rfl) (by kernel_rfl) (by kernel_rfl) (fun _ _ _ h => h) (Or.inl ⟨by rfl, fun wx hS => ?_⟩) hH ?_
  · have e1 := cp.out wx hS; go_simp
  simp only [Act.put, List.setIfInBounds_toArray, List.set_cons_zero, List.set_cons_succ]
  refine wpAnyH_take (i := 24) (oi := { dst := some 101, op := Op.binOp BinOp.neq 9 (Operand.tmp 94) (Operand.tmp 100) 9, type := 4, pos := "law.go:68", after := #[{ on := 17, ground := Ground.data }, { on := 23, ground := Ground.data }, { on := 15, ground := Ground.guard }], guard := some (15, false) }) (v := .bool false) rfl (by kernel_rfl) (by kernel_rfl) (by kernel_rfl) (fun _ _ _ h => h) (Or.inl ⟨by rfl, fun wx hS => ?_⟩) hH ?_
  · have e1 : ((str B).toList == (str B).toList) = true := (by simp); go_simp
  simp only [Act.put, List.setIfInBounds_toArray, List.set_cons_zero, List.set_cons_succ]
  refine wpAnyH_take (i := 25) (oi := { dst := some 102, op := Op.pick (Operand.tmp 92) (Operand.const (Value.bool true)) (Operand.tmp 101), type := 4, pos := "law.go:68", after := #[{ on := 15, ground := Ground.data }, { on := 24, ground := Ground.data }], guard := none }) (v := .bool false) rfl (by kernel_rfl) (by kernel_rfl) (by kernel_rfl) (fun _ _ _ h => h) (Or.inl ⟨by rfl, fun wx hS => ?_⟩) hH ?_
  · go_simp
  simp only [Act.put, List.setIfInBounds_toArray, List.set_cons_zero, List.set_cons_succ]
  refine wpAnyH_done (by kernel_rfl) ?_ _
  refine NoPanic.normal ?_
  have HX := Lib.hid (HK8.out.trans (hH.mono HK8.out.size))
  have OWN := OWN.out
  have OWN2 : Hid (n = 0 ∨ ∃ og cs, oa = some ⟨og, 0, none⟩ ∧ x6.heap.size ≤ og ∧ blockIs x8 og cs 5 ∧ n ≤ cs.length) := Lib.hid (by
    rcases OWN with h | ⟨og, cs, ⟨m, k, h1⟩, h2, h3, h4⟩
    · exact Or.inl h
    · cases h1
      exact Or.inr ⟨og, cs, rfl, h2, h3.below hH h3.lt, h4⟩)
  clear OWN hH HK8 co cb cs cp gp L8
  go_wp2_with fail
  go_loopw [10] (fun i wr => ∃ k : Nat, k ≤ n ∧ i = .int .i64 k ∧ Below x6.heap.size x6 wr ∧ (n = 0 ∨ ∃ og cs, oa = some ⟨og, 0, none⟩ ∧ x6.heap.size ≤ og ∧ blockIs wr og cs 5 ∧ n ≤ cs.length)) (fun i _ => n - (intOf i).toNat)
  case atStart => exact ⟨0, by omega, rfl, HX.out, OWN2.out⟩
  case round =>
    obtain ⟨k, hk, rfl, hB, ho⟩ := hrel
    have HB := Lib.hid hB
    clear hB
    by_cases hlt : k < n
    · have p : (0 : Int) ≤ (k : Int) := by omega
      have q : (k : Int) < (n : Int) := by omega
      rcases ho with h | ⟨og, cs, rfl, ho1, ho2, ho3⟩
      · omega
      have c1 := ho2.at k (by omega)
      have c2 := ho2.free k
      have OB := Lib.hid ho2
      clear ho2
      go_wp2_with fail
      go_roundw
      case rel => exact ⟨k + 1, by omega, by go_num, HB.out.setCell ho1 _, Or.inr ⟨og, cs.set k (.int .u8 102), rfl, ho1, OB.out.set k _, by rw [List.length_set]; omega⟩⟩
      case measure => simp [intOf]; omega
    · have q : ¬ (k : Int) < (n : Int) := by omega
      clear ho OWN2
      have L9 := L7.out.below HB.out
      have c64 := L9.kind
      have T9 := T7.out.below HB.out T7.out.2.2.1 T7.out.2.2.2
      have RK := Lib.hid (Ci.range_of (G7.out.below HB.out G7.out.lt))
      have HO := CO0.out wr kd nu SL (some ⟨sb, 0, none⟩) sc (by have := HSL.out; have := HL.out; omega) (by have := HSL.out; have := HCS.out; omega) HSM.out (IS7.out.below HB.out) T9
      rw [HSO.out, HSL.out] at HO
      dsimp only at HO
      have HO := Lib.hid HO
      have OKB9 := Lib.hid (OKB7.out.below HB.out)
      clear L9 T9
      go_wp2_with (refine Ci.wpList_load_mid_if (by rfl) 45 _ rfl kb 0 rfl C _ RK.out Tryd.underlying45 rfl (by rw [infoKeys, KL.out]) ?_)
      with_reducible refine HO.out.mono ?_
      rintro e w10 ⟨v, rfl, ho, kk⟩
      obtain ⟨pa2, pc2, rfl, -, -, o3, -⟩ := ho.form
      have cv1 := conv_string w10 pa2 B pc2 o3
      have cv2 := conv_string w10 ba B bc (OKB9.out.1.2.2.below kk)
      rw [hB'] at cv1 cv2 ⊢
      have sb1 : ((str B).toList == (str B).toList) = true := by simp
      have B10 := Lib.hid (B7.out.trans ((HB.out.trans (kk.mono HB.out.size)).mono B7.out.size))
      clear ho kk o3 HO RK HB c64
      go_wp2_with fail
      go_ret
      exact ⟨rfl, B10.out⟩
end Go.Proofs.YtjkhokholcchfaaDoor
