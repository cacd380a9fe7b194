/- The law WaxLengths: its walk. -/
import Derived.Test.YtjkhokholcchfaaDoorGp
namespace Go.Proofs.YtjkhokholcchfaaDoor
open Go.RowKit Sha

theorem wseal_mid (H M : List UInt8) (kd : UInt8) (nm N b : List UInt8) (k : Nat) (hN : N.length = 16) (hk : k < b.length) : (wseal H M kd nm N b).getD (16 + k) 0 = b.getD k 0 ^^^ Ci.sb (Ci.Aes.words H 60) N (0 + k) := by
  have h1 : (N ++ (whide H N b ++ wmark M kd nm N (whide H N b))).getD (16 + k) 0 = (whide H N b).getD k 0 := by
    rw [List.getD_eq_getElem?_getD, List.getElem?_append_right (by omega), hN, Nat.add_sub_cancel_left, List.getElem?_append_left (by rw [whide_length]; exact hk), List.getD_eq_getElem?_getD]
  unfold wseal
  rw [h1]
  unfold whide Ci.hideL
  simp [List.getD_eq_getElem?_getD, hk]
theorem xor_four (a b s : UInt8) : (a ^^^ s) ^^^ (b ^^^ s) = a ^^^ b := by
  rw [UInt8.xor_assoc, UInt8.xor_comm b s, ← UInt8.xor_assoc s s, UInt8.xor_self, UInt8.zero_xor]
theorem bytesIn.get {w : World} {bb bo : Nat} {l : List UInt8} (h : bytesIn w (some ⟨bb, bo, none⟩) l) (k : Nat) (hk : k < l.length) : w.cell? ⟨bb, bo + k, none⟩ = some (.int .u8 (V (l.getD k 0))) := by
  rcases h with h | ⟨b2, o2, e, hc⟩
  · rw [h] at hk; exact absurd hk (Nat.not_lt_zero _)
  · cases e
    exact hc k hk
theorem sealR_short (H M : List UInt8) (kd : UInt8) (nm N b : List UInt8) (h : nm.length ≤ 255) : sealR H M kd nm N b = (wseal H M kd nm N b, 0) := by
  unfold sealR
  rw [if_neg (by omega)]

set_option maxRecDepth 100000 in
set_option maxHeartbeats 8000000 in
theorem law_waxLengths (H M : List UInt8) (kd : UInt8) (nm N : List UInt8) (a : Option Addr) (c : Nat) (F : List UInt8) (b : Option Addr) (d : Nat) (G : List UInt8) (w : World) (hH : H.length = 32) (hM : M.length = 32) (hN : N.length = 16) (hF : F.length ≤ c) (hc : c ≤ 9223372036854775807) (hz : a = none → c = 0) (hin : bytesIn w a F) (hG : G.length ≤ d) (hd : d ≤ 9223372036854775807) (hz2 : b = none → d = 0) (hin2 : bytesIn w b G) (ht : tables w) :
    Calls Tryd.prog 8 #[.agg (letterCells H M kd nm N (.slice a F.length c)).toArray, .slice b G.length d] w fun e w' => e = .returned (.bool true) ∧ Below w.heap.size w w' := by
  have KL : Hid ((keyCells H M).length = 64) := Lib.hid (keyCells_length hH hM)
  have NL : Hid ((byteCells N).length = 16) := Lib.hid (by rw [byteCells_length]; exact hN)
  have B1 := Lib.hid (alloc_below w (.cells (letterCells H M kd nm N (.slice a F.length c)).toArray 38 (0, 0)))
  have L1 := Lib.hid (letter_of hH hM hN (blockIs.new w (letterCells H M kd nm N (.slice a F.length c)) 38))
  have T1 := Lib.hid (ht.below B1.out ht.2.2.1 ht.2.2.2)
  obtain ⟨n, hn⟩ : ∃ n, n = min (min F.length G.length) 150 := ⟨_, rfl⟩
  have hnF : n ≤ F.length := by omega
  have hnG : n ≤ G.length := by omega
  have hn150 : n ≤ 150 := by omega
  have ok1 : (⟨a, c, F⟩ : Pt).ok0 w := ⟨⟨hF, hc, hin⟩, hz⟩
  have ok2 : (⟨b, d, G⟩ : Pt).ok0 w := ⟨⟨hG, hd, hin2⟩, hz2⟩
  have OKA := Lib.hid ((Pt.sub_ok0 ok1 0 n (by omega) hnF).below B1.out)
  have OKB := Lib.hid ((Pt.sub_ok0 ok2 0 n (by omega) hnG).below B1.out)
  have ga := Lib.hid (fun X => (⟨a, c, F⟩ : Pt).run_h n hnF hF X)
  have gb := Lib.hid (fun X => (⟨b, d, G⟩ : Pt).run_h n hnG hG X)
  dsimp only at ga gb
  have hal : Hid (((⟨a, c, F⟩ : Pt).sub 0 n).l.length = n) := Lib.hid (by show ((F.take n).drop 0).length = n; rw [drop_take_len _ _ _ hnF]; omega)
  have hbl : Hid (((⟨b, d, G⟩ : Pt).sub 0 n).l.length = n) := Lib.hid (by show ((G.take n).drop 0).length = n; rw [drop_take_len _ _ _ hnG]; omega)
  generalize (⟨a, c, F⟩ : Pt).sub 0 n = pa at *
  generalize (⟨b, d, G⟩ : Pt).sub 0 n = pb at *
  have hmin : min (min (F.length : Int) (G.length : Int)) 150 = (n : Int) := by omega
  have HMIN := Lib.hid hmin
  have hns := str_size nm
  have hnm2 : (nm.take 200).length ≤ 200 := by rw [List.length_take]; omega
  have scut := fun X => s_cutH nm (min nm.length 200) (by omega) X
  have CT := Lib.hid (fun X => to_any H M X hH hM)
  have CS0 := Lib.hid (fun W k m hW ps vs hvs hp L hL hm n hn hn2 X g hX hc => seal_at W H M N k m hH hM hN hW ps vs hvs hp L hL hm n hn hn2 X g hX hc)
  have SM := Lib.hid (fun k m bb i (hi : i < bb.length) => wseal_mid H M k m N bb i hN hi)
  have SL := Lib.hid (fun k m bb => wseal_length H M k m N bb hN)
  have SR := Lib.hid (fun k m bb (h : m.length ≤ 255) => sealR_short H M k m N bb h)
  have SN : Hid (∀ k m bb, ∃ rest, wseal H M k m N bb = N ++ rest) := Lib.hid (fun k m bb => ⟨_, rfl⟩)
  have HNL := Lib.hid hN
  clear hin ht hH hM hN hz hz2 hin2 ok1 ok2 hn hmin
  obtain ⟨C, hC⟩ : ∃ C, C = keyCells H M := ⟨_, rfl⟩
  obtain ⟨NB, hNB⟩ : ∃ NB, NB = byteCells N := ⟨_, rfl⟩
  have LKEY : Hid (∀ X g v, letterAt X g H M kd nm N v → X.rangeAt g 0 C) := Lib.hid (fun X g v h => by rw [hC]; exact h.keys)
  have LNON : Hid (∀ X g v, letterAt X g H M kd nm N v → X.rangeAt g 66 NB) := Lib.hid (fun X g v h => by rw [hNB]; exact h.nonce)
  have ONE : Hid (∀ v ∈ C, v.oneCell' = true) := Lib.hid (by
    rw [hC]
    intro v hv
    rcases List.mem_append.1 hv with h | h
    · exact byteCells_one _ v h
    · exact byteCells_one _ v h)
  rw [← hC] at KL CT CS0
  rw [← hNB] at NL CS0
  clear hC hNB
  generalize letterCells H M kd nm N (.slice a F.length c) = CC at *
  go_enter Tryd.func8, Tryd.ntmps8
  have c65 := L1.out.name
  have c82 := L1.out.bytes
  go_upto_region 1 with fail
  generalize w.alloc (.cells CC.toArray 38 (0, 0)) = w1 at *
  obtain ⟨g, hg⟩ : ∃ g, g = w.heap.size := ⟨_, rfl⟩
  rw [← hg] at L1 c65 c82 ⊢
  clear hg
  go_cut [5] (fun v wx => v = .string (str (nm.take 200)) ∧ w1 = wx)
  case first =>
    go_wp2_with fail
    all_goals
      go_meet
      case rel =>
        refine ⟨?_, rfl⟩
        first
        | (rw [str_extract, List.drop_zero]; done)
        | (rw [str_extract, List.drop_zero, List.take_of_length_le (Nat.le_refl _), List.take_of_length_le (by omega)]; done)
  obtain ⟨rfl, rfl⟩ := hcut
  clear hns
  generalize nm.take 200 = nu at *
  have hns := str_size nu
  go_upto_region 2 with fail
  go_cut [6] (fun v wx => v = .int .i64 (n : Int) ∧ w1 = wx)
  case first =>
    have em := HMIN.out
    go_wp2_with fail
    all_goals
      go_meet
      case rel => exact ⟨by congr 1; omega, rfl⟩
  obtain ⟨rfl, rfl⟩ := hcut
  clear HMIN
  go_upto_region 3 with fail
  refine wp_region_noPanic ?_
  refine wp_region_held_drew (S := fun w' => Below w1.heap.size w1 w') (by kernel_rfl) (below_drew' (Below.refl _ _)) (fun hH => ?_)
  generalize w1.drew = x0 at *
  refine wpAnyH_take (i := 0) (oi := { dst := some 30, op := Op.fieldAddr 38 (Operand.tmp 2) 4, type := 0, pos := "more.go:11", after := #[], guard := none }) (v := .pointer (some ⟨g, 82, none⟩)) rfl (by kernel_rfl) (by kernel_rfl) (by kernel_rfl) (fun _ _ _ h => h) (Or.inl ⟨by rfl, fun wx hS => ?_⟩) hH ?_
  · go_simp
  simp only [Act.put, List.setIfInBounds_toArray, List.set_cons_zero, List.set_cons_succ]
  refine wpAnyH_take (i := 1) (oi := { dst := some 31, op := Op.load 22 (Operand.tmp 30), type := 22, pos := "more.go:11", after := #[{ on := 0, ground := Ground.data }], guard := none }) (v := .slice a F.length c) rfl (by kernel_rfl) (by kernel_rfl) (by kernel_rfl) (fun _ _ _ h => h) (Or.inl ⟨by rfl, fun wx hS => ?_⟩) hH ?_
  · have e1 := (L1.out.below hS).bytes; go_simp
  simp only [Act.put, List.setIfInBounds_toArray, List.set_cons_zero, List.set_cons_succ]
  refine wpAnyH_take (i := 2) (oi := { dst := some 32, op := Op.move (Operand.tmp 6), type := 3, pos := "more.go:11", after := #[], guard := none }) (v := .int .i64 (n : Int)) rfl (by kernel_rfl) (by kernel_rfl) (by kernel_rfl) (fun _ _ _ h => h) (Or.inl ⟨by rfl, fun wx hS => ?_⟩) hH ?_
  · go_simp
  simp only [Act.put, List.setIfInBounds_toArray, List.set_cons_zero, List.set_cons_succ]
  refine wpAnyH_take (i := 3) (oi := { dst := some 33, op := Op.slice 22 (Operand.tmp 31) none (some (Operand.tmp 32)) none, type := 22, pos := "more.go:11", after := #[{ on := 1, ground := Ground.data }, { on := 2, ground := Ground.data }], guard := none }) (v := .slice pa.a pa.l.length pa.c) rfl (by kernel_rfl) (by kernel_rfl) (by kernel_rfl) (fun _ _ _ h => h) (Or.inl ⟨by rfl, fun wx hS => ?_⟩) hH ?_
  · have e1 := ga.out wx; go_simp
  simp only [Act.put, List.setIfInBounds_toArray, List.set_cons_zero, List.set_cons_succ]
  refine wpAnyH_take (i := 4) (oi := { dst := some 34, op := Op.move (Operand.tmp 1), type := 22, pos := "more.go:11", after := #[], guard := none }) (v := .slice b G.length d) rfl (by kernel_rfl) (by kernel_rfl) (by kernel_rfl) (fun _ _ _ h => h) (Or.inl ⟨by rfl, fun wx hS => ?_⟩) hH ?_
  · go_simp
  simp only [Act.put, List.setIfInBounds_toArray, List.set_cons_zero, List.set_cons_succ]
  refine wpAnyH_take (i := 5) (oi := { dst := some 35, op := Op.move (Operand.tmp 6), type := 3, pos := "more.go:11", after := #[], guard := none }) (v := .int .i64 (n : Int)) rfl (by kernel_rfl) (by kernel_rfl) (by kernel_rfl) (fun _ _ _ h => h) (Or.inl ⟨by rfl, fun wx hS => ?_⟩) hH ?_
  · go_simp
  simp only [Act.put, List.setIfInBounds_toArray, List.set_cons_zero, List.set_cons_succ]
  refine wpAnyH_take (i := 6) (oi := { dst := some 36, op := Op.slice 22 (Operand.tmp 34) none (some (Operand.tmp 35)) none, type := 22, pos := "more.go:11", after := #[{ on := 4, ground := Ground.data }, { on := 5, ground := Ground.data }], guard := none }) (v := .slice pb.a pb.l.length pb.c) rfl (by kernel_rfl) (by kernel_rfl) (by kernel_rfl) (fun _ _ _ h => h) (Or.inl ⟨by rfl, fun wx hS => ?_⟩) hH ?_
  · have e1 := gb.out wx; go_simp
  simp only [Act.put, List.setIfInBounds_toArray, List.set_cons_zero, List.set_cons_succ]
  refine wpAnyH_ready (rs := [7]) (by kernel_rfl) (by simp) ?_
  refine AllReadyH.cons (o := { dst := some 7, op := Op.assign (Operand.tmp 33), type := 22, pos := "more.go:11", after := #[{ on := 3, ground := Ground.data }, { on := 0, ground := Ground.phase }, { on := 1, ground := Ground.phase }, { on := 2, ground := Ground.phase }, { on := 3, ground := Ground.phase }, { on := 4, ground := Ground.textOnly Departure.lateStores }, { on := 5, ground := Ground.textOnly Departure.lateStores }, { on := 6, ground := Ground.textOnly Departure.lateStoresUnsure }], guard := none }) rfl (fun KK hKK => ?_) AllReadyH.nil
  go_simp
  refine hKK.out _ _ hH (fun hH => ?_)
  clear hKK KK
  try simp only [Act.put, List.setIfInBounds_toArray, List.set_cons_zero, List.set_cons_succ]
  refine wpAnyH_ready (rs := [8]) (by kernel_rfl) (by simp) ?_
  refine AllReadyH.cons (o := { dst := some 8, op := Op.assign (Operand.tmp 36), type := 22, pos := "more.go:11", after := #[{ on := 6, ground := Ground.data }, { on := 7, ground := Ground.chain }, { on := 0, ground := Ground.phase }, { on := 1, ground := Ground.phase }, { on := 2, ground := Ground.phase }, { on := 3, ground := Ground.phase }, { on := 4, ground := Ground.phase }, { on := 5, ground := Ground.phase }, { on := 6, ground := Ground.phase }, { on := 7, ground := Ground.phase }], guard := none }) rfl (fun KK hKK => ?_) AllReadyH.nil
  go_simp
  refine hKK.out _ _ hH (fun hH => ?_)
  clear hKK KK
  try simp only [Act.put, List.setIfInBounds_toArray, List.set_cons_zero, List.set_cons_succ]
  refine wpAnyH_done (by kernel_rfl) ?_ _
  refine NoPanic.normal ?_
  have KB3 := Lib.hid hH
  have B3 := Lib.hid (B1.out.trans (hH.mono B1.out.size))
  have L3 := Lib.hid (L1.out.below hH)
  have T3 := Lib.hid (T1.out.below hH T1.out.2.2.1 T1.out.2.2.2)
  have oka := OKA.out.below hH
  have okb := OKB.out.below hH
  clear hH B1 L1 T1 OKA OKB ga gb c65 c82 KB3
  obtain ⟨aa, ac, A⟩ := pa
  obtain ⟨ba, bc, Bq⟩ := pb
  have hA : A.length = n := hal.out
  have hBq : Bq.length = n := hbl.out
  dsimp only
  have OKA := Lib.hid oka
  have OKB := Lib.hid okb
  clear hal hbl oka okb
  have R0 := Lib.hid (LKEY.out _ _ _ L3.out)
  have CT3 := Lib.hid (CT.out x0)
  have hzk := zeroKeys
  go_wp2_with (refine Ci.wpList_load_mid_if (by rfl) 36 _ rfl g 0 rfl C _ R0.out Tryd.underlying36 rfl (by rw [infoRK, KL.out]) ?_)
  with_reducible refine CT3.out.mono ?_
  rintro e w4 ⟨rfl, kk⟩
  have B4 := Lib.hid (B3.out.trans (kk.mono B3.out.size))
  have L4 := Lib.hid (L3.out.below kk)
  have T4 := Lib.hid (T3.out.below kk T3.out.2.2.1 T3.out.2.2.2)
  have OKA4 := Lib.hid (OKA.out.below kk)
  have OKB4 := Lib.hid (OKB.out.below kk)
  clear kk B3 L3 T3 OKA OKB R0 CT CT3
  go_wp2_with (refine wpList_store_block rfl 45 _ _ rfl w4.heap.size 0 C rfl rfl (zeros 64) 45 (blockIs.new w4 _ _) (by rw [infoKeys, KL.out]) (by simp [zeros, KL.out]) ONE.out ?_)
  intro w5 h1 h2 h3
  have h1 := h1.out
  rw [splice_all _ _ (by simp [zeros, KL.out])] at h1
  have kk : Below w4.heap.size w4 w5 := (alloc_below w4 _).trans (h2.out.below (Nat.le_refl _) (by simp))
  have B5 := Lib.hid (B4.out.trans (kk.mono B4.out.size))
  have L5 := Lib.hid (L4.out.below kk)
  have T5 := Lib.hid (T4.out.below kk T4.out.2.2.1 T4.out.2.2.2)
  have OKA5 := Lib.hid (OKA4.out.below kk)
  have OKB5 := Lib.hid (OKB4.out.below kk)
  have G5 := Lib.hid h1
  obtain ⟨kb, hkb⟩ : ∃ kb, kb = w4.heap.size := ⟨_, rfl⟩
  rw [← hkb] at G5 ⊢
  clear h1 h2 h3 kk hkb B4 L4 T4 OKA4 OKB4 hzk ONE
  obtain ⟨L, hL⟩ : ∃ L, L = n + 48 := ⟨_, rfl⟩
  have c64 := L5.out.kind
  have RK := Lib.hid (Ci.range_of G5.out)
  have RN := Lib.hid (LNON.out _ _ _ L5.out)
  have kl := alloc_below w5 (.cells #[.slice aa n ac] 22 (0, 0))
  have HS := Lib.hid (CS0.out w5 kd nu T5.out [⟨aa, ac, A⟩] [.slice aa n ac] (by simp [Pt.val, hA]) (by simp only [List.mem_singleton]; rintro p rfl; exact OKA5.out) A (by simp) (by omega) 1 rfl (by omega) _ w5.heap.size kl (cellsAt.new w5 #[.slice aa n ac] w5.heap.size 22 [.slice aa n ac] rfl rfl))
  rw [SR.out kd nu A (by omega)] at HS
  dsimp only at HS
  go_wp2_with (first
    | (refine Ci.wpList_load_mid_if (by rfl) 45 _ rfl kb 0 rfl C _ RK.out Tryd.underlying45 rfl (by rw [infoKeys, KL.out]) ?_)
    | (refine Ci.wpList_load_mid_if (by rfl) 28 _ rfl g 66 rfl NB _ RN.out Tryd.underlying28 rfl (by rw [infoN, NL.out]) ?_))
  with_reducible refine HS.out.mono ?_
  rintro e w6 ⟨v, rfl, ho, k2⟩
  have kk := kl.trans (k2.mono kl.size)
  obtain ⟨xb, xc, rfl, -, -, x1, x2, x3⟩ := own_at ho (by intro h; have := congrArg List.length h; rw [SL.out] at this; cases this)
  have Ix := Lib.hid x3
  have Cx0 : Hid (L ≤ xc) := Lib.hid (by rw [SL.out] at x1; omega)
  rw [SL.out, hA, ← hL]
  have B6 := Lib.hid (B5.out.trans (kk.mono B5.out.size))
  have L6 := Lib.hid (L5.out.below kk)
  have T6 := Lib.hid (T5.out.below kk T5.out.2.2.1 T5.out.2.2.2)
  have OKA6 := Lib.hid (OKA5.out.below kk)
  have OKB6 := Lib.hid (OKB5.out.below kk)
  have G6 := Lib.hid (G5.out.below kk G5.out.lt)
  clear kl k2 kk ho x1 x2 x3 HS RK RN c64 B5 L5 T5 OKA5 OKB5 G5
  have c64 := L6.out.kind
  have RK := Lib.hid (Ci.range_of G6.out)
  have RN := Lib.hid (LNON.out _ _ _ L6.out)
  have kl := alloc_below w6 (.cells #[.slice ba n bc] 22 (0, 0))
  have HS := Lib.hid (CS0.out w6 kd nu T6.out [⟨ba, bc, Bq⟩] [.slice ba n bc] (by simp [Pt.val, hBq]) (by simp only [List.mem_singleton]; rintro p rfl; exact OKB6.out) Bq (by simp) (by omega) 1 rfl (by omega) _ w6.heap.size kl (cellsAt.new w6 #[.slice ba n bc] w6.heap.size 22 [.slice ba n bc] rfl rfl))
  rw [SR.out kd nu Bq (by omega)] at HS
  dsimp only at HS
  go_wp2_with (first
    | (refine Ci.wpList_load_mid_if (by rfl) 45 _ rfl kb 0 rfl C _ RK.out Tryd.underlying45 rfl (by rw [infoKeys, KL.out]) ?_)
    | (refine Ci.wpList_load_mid_if (by rfl) 28 _ rfl g 66 rfl NB _ RN.out Tryd.underlying28 rfl (by rw [infoN, NL.out]) ?_))
  with_reducible refine HS.out.mono ?_
  rintro e w7 ⟨v, rfl, ho, k2⟩
  have kk := kl.trans (k2.mono kl.size)
  obtain ⟨yb, yc, rfl, -, -, y1, y2, y3⟩ := own_at ho (by intro h; have := congrArg List.length h; rw [SL.out] at this; cases this)
  have Iy := Lib.hid y3
  have Cy0 : Hid (L ≤ yc) := Lib.hid (by rw [SL.out] at y1; omega)
  rw [SL.out, hBq, ← hL]
  have B7 := Lib.hid (B6.out.trans (kk.mono B6.out.size))
  have L7 := Lib.hid (L6.out.below kk)
  have T7 := Lib.hid (T6.out.below kk T6.out.2.2.1 T6.out.2.2.2)
  have OKA7 := Lib.hid (OKA6.out.below kk)
  have OKB7 := Lib.hid (OKB6.out.below kk)
  have G7 := Lib.hid (G6.out.below kk G6.out.lt)
  have Ix := Lib.hid (Ix.out.below kk)
  clear kl k2 kk ho y1 y2 y3 HS RK RN c64 B6 L6 T6 OKA6 OKB6 G6
  have c64 := L7.out.kind
  have RK := Lib.hid (Ci.range_of G7.out)
  have RN := Lib.hid (LNON.out _ _ _ L7.out)
  have kl := alloc_below w7 (.cells #[.slice aa n ac] 22 (0, 0))
  have HS := Lib.hid (CS0.out w7 (kd ^^^ 1) (nu ++ [33]) T7.out [⟨aa, ac, A⟩] [.slice aa n ac] (by simp [Pt.val, hA]) (by simp only [List.mem_singleton]; rintro p rfl; exact OKA7.out) A (by simp) (by omega) 1 rfl (by omega) _ w7.heap.size kl (cellsAt.new w7 #[.slice aa n ac] w7.heap.size 22 [.slice aa n ac] rfl rfl))
  rw [SR.out (kd ^^^ 1) (nu ++ [33]) A (by rw [List.length_append]; show nu.length + 1 ≤ 255; omega)] at HS
  dsimp only at HS
  have qx : bits .xor .u8 (V kd) 1 = V (kd ^^^ 1) := V_xor kd 1
  have qs := str_append nu [33]
  have e1 := str_size nu
  have e2 : (str [33]).size = 1 := str_size [33]
  have e4 : (str nu).size + (str [33]).size ≤ 9223372036854775807 := by omega
  rw [← qs] at HS
  have es33 : str [33] = { data := #[33] } := rfl
  rw [es33] at HS e4 e2
  clear es33
  clear qs
  go_wp2_with (first
    | (refine Ci.wpList_load_mid_if (by rfl) 45 _ rfl kb 0 rfl C _ RK.out Tryd.underlying45 rfl (by rw [infoKeys, KL.out]) ?_)
    | (refine Ci.wpList_load_mid_if (by rfl) 28 _ rfl g 66 rfl NB _ RN.out Tryd.underlying28 rfl (by rw [infoN, NL.out]) ?_))
  with_reducible refine HS.out.mono ?_
  rintro e w8 ⟨v, rfl, ho, k2⟩
  have kk := kl.trans (k2.mono kl.size)
  obtain ⟨zb, zc, rfl, -, -, z1, z2, z3⟩ := own_at ho (by intro h; have := congrArg List.length h; rw [SL.out] at this; cases this)
  have Iz := Lib.hid z3
  have Cz0 : Hid (L ≤ zc) := Lib.hid (by rw [SL.out] at z1; omega)
  rw [SL.out, hA, ← hL]
  have B8 := Lib.hid (B7.out.trans (kk.mono B7.out.size))
  have L8 := Lib.hid (L7.out.below kk)
  have T8 := Lib.hid (T7.out.below kk T7.out.2.2.1 T7.out.2.2.2)
  have OKA8 := Lib.hid (OKA7.out.below kk)
  have OKB8 := Lib.hid (OKB7.out.below kk)
  have G8 := Lib.hid (G7.out.below kk G7.out.lt)
  have Ix := Lib.hid (Ix.out.below kk)
  have Iy := Lib.hid (Iy.out.below kk)
  clear kl k2 kk ho z1 z2 z3 HS RK RN c64 B7 L7 T7 OKA7 OKB7 G7
  have WX := Lib.hid (waxes_any w8 T8.out)
  have q48 : IntKind.i64.wrap ((n : Int) + 48) = (L : Int) := by rw [IntWalk.i64_in _ (by omega)]; omega
  have HL := Lib.hid hL
  clear hL
  clear LKEY LNON CS0 SR KL NL G8 L8
  go_wp2_with fail
  with_reducible refine WX.out.mono ?_
  rintro e w9 ⟨rfl, kk⟩
  have B9 := Lib.hid (B8.out.trans (kk.mono B8.out.size))
  have IX := Lib.hid (Ix.out.below kk)
  have IY := Lib.hid (Iy.out.below kk)
  have IZ := Lib.hid (Iz.out.below kk)
  have IA := Lib.hid (OKA8.out.1.2.2.below kk)
  have IB := Lib.hid (OKB8.out.1.2.2.below kk)
  clear kk WX B8 Ix Iy Iz OKA8 OKB8 T8
  go_wp2_with fail
  clear q48
  go_loopw [16] (fun i wr => ∃ k : Nat, k ≤ n ∧ i = .int .i64 k ∧ Below w9.heap.size w9 wr) (fun i _ => n - (intOf i).toNat)
  case atStart => exact ⟨0, by omega, rfl, by first | exact Below.refl _ _ | exact below_drew' (Below.refl _ _)⟩
  case round =>
    obtain ⟨k, hk, rfl, hB⟩ := hrel
    have HB := Lib.hid hB
    clear hB
    by_cases hlt : k < n
    · have p : (0 : Int) ≤ (k : Int) := by omega
      have q : (k : Int) < (n : Int) := by omega
      obtain ⟨ab, ao, rfl⟩ : ∃ ab ao, aa = some ⟨ab, ao, none⟩ := by
        rcases IA.out with h | ⟨ab, ao, h, _⟩
        · rw [h] at hA; simp at hA; omega
        · exact ⟨ab, ao, h⟩
      obtain ⟨bb, bo, rfl⟩ : ∃ bb bo, ba = some ⟨bb, bo, none⟩ := by
        rcases IB.out with h | ⟨bb, bo, h, _⟩
        · rw [h] at hBq; simp at hBq; omega
        · exact ⟨bb, bo, h⟩
      obtain ⟨m, hm⟩ : ∃ m, m = 16 + k := ⟨_, rfl⟩
      have qm : Hid (IntKind.i64.wrap (16 + (k : Int)) = (m : Int)) := Lib.hid (by rw [IntWalk.i64_in _ (by omega)]; omega)
      have PM : Hid ((0 : Int) ≤ (m : Int)) := Lib.hid (by omega)
      have PL : Hid ((m : Int) < (L : Int)) := Lib.hid (by have := HL.out; omega)
      have PK : Hid ((0 : Int) ≤ (k : Int)) := Lib.hid p
      have PN : Hid ((k : Int) < (n : Int)) := Lib.hid q
      obtain ⟨s, hs⟩ : ∃ s, s = Ci.sb (Ci.Aes.words H 60) N (0 + k) := ⟨_, rfl⟩
      obtain ⟨ak, hak⟩ : ∃ ak, ak = A.getD k 0 := ⟨_, rfl⟩
      obtain ⟨bk, hbk⟩ : ∃ bk, bk = Bq.getD k 0 := ⟨_, rfl⟩
      obtain ⟨xk, hxk⟩ : ∃ xk, xk = ak ^^^ s := ⟨_, rfl⟩
      obtain ⟨yk, hyk⟩ : ∃ yk, yk = bk ^^^ s := ⟨_, rfl⟩
      obtain ⟨u, hu⟩ : ∃ u, u = ak ^^^ bk := ⟨_, rfl⟩
      have q10 : Hid (bits .xor .u8 (V xk) (V yk) = V u) := Lib.hid (by rw [V_xor, hxk, hyk, xor_four, hu])
      have q19 : Hid (bits .xor .u8 (V ak) (V bk) = V u) := Lib.hid (by rw [V_xor, hu])
      have cell : ∀ {X : World} {g o : Nat} {v : Value}, w9.cell? ⟨g, o, none⟩ = some v → Below wr.heap.size wr X → X.cell? ⟨g, o, none⟩ = some v := fun {X g o v} h hX => ((HB.out.trans (hX.mono HB.out.size)).cell (p := ⟨g, o, none⟩) (block_lt_of_cell h)).trans h
      have CX : Hid (∀ X, Below wr.heap.size wr X → X.cell? ⟨xb, m, none⟩ = some (.int .u8 (V xk))) := Lib.hid (fun X hX => cell (by
        have := IX.out.get m (by rw [SL.out, hA]; omega)
        rw [hm, SM.out _ _ _ _ (by omega), ← hs, ← hak, ← hxk, ← hm, Nat.zero_add] at this
        exact this) hX)
      have CY : Hid (∀ X, Below wr.heap.size wr X → X.cell? ⟨yb, m, none⟩ = some (.int .u8 (V yk))) := Lib.hid (fun X hX => cell (by
        have := IY.out.get m (by rw [SL.out, hBq]; omega)
        rw [hm, SM.out _ _ _ _ (by omega), ← hs, ← hbk, ← hyk, ← hm, Nat.zero_add] at this
        exact this) hX)
      have CZ : Hid (∀ X, Below wr.heap.size wr X → X.cell? ⟨zb, m, none⟩ = some (.int .u8 (V xk))) := Lib.hid (fun X hX => cell (by
        have := IZ.out.get m (by rw [SL.out, hA]; omega)
        rw [hm, SM.out _ _ _ _ (by omega), ← hs, ← hak, ← hxk, ← hm, Nat.zero_add] at this
        exact this) hX)
      have CA : Hid (∀ X, Below wr.heap.size wr X → X.cell? ⟨ab, ao + k, none⟩ = some (.int .u8 (V ak))) := Lib.hid (fun X hX => cell (by
        have := IA.out.get k (by omega)
        rwa [← hak] at this) hX)
      have CB : Hid (∀ X, Below wr.heap.size wr X → X.cell? ⟨bb, bo + k, none⟩ = some (.int .u8 (V bk))) := Lib.hid (fun X hX => cell (by
        have := IB.out.get k (by omega)
        rwa [← hbk] at this) hX)
      clear cell hs hak hbk hxk hyk hu hm SM SL SN IX IY IZ IA IB
      go_upto_region 13 with fail
      refine wp_region_noPanic ?_
      refine wp_region_held_drew (S := fun w' => Below wr.heap.size wr w') (by kernel_rfl) (below_drew' (Below.refl _ _)) (fun hH => ?_)
      generalize wr.drew = x13 at *
      refine wpAnyH_take (i := 0) (oi := { dst := some 118, op := Op.move (Operand.tmp 10), type := 22, pos := "more.go:20", after := #[], guard := none }) (v := .slice (some ⟨xb, 0, none⟩) L xc) rfl (by kernel_rfl) (by kernel_rfl) (by kernel_rfl) (fun _ _ _ h => h) (Or.inl ⟨by rfl, fun wx hS => ?_⟩) hH ?_
      · go_simp
      simp only [Act.put, List.setIfInBounds_toArray, List.set_cons_zero, List.set_cons_succ]
      refine wpAnyH_take (i := 1) (oi := { dst := some 119, op := Op.move (Operand.tmp 16), type := 3, pos := "more.go:20", after := #[], guard := none }) (v := .int .i64 (k : Int)) rfl (by kernel_rfl) (by kernel_rfl) (by kernel_rfl) (fun _ _ _ h => h) (Or.inl ⟨by rfl, fun wx hS => ?_⟩) hH ?_
      · go_simp
      simp only [Act.put, List.setIfInBounds_toArray, List.set_cons_zero, List.set_cons_succ]
      refine wpAnyH_take (i := 2) (oi := { dst := some 120, op := Op.binOp BinOp.add 3 (Operand.const (Value.int IntKind.i64 16)) (Operand.tmp 119) 3, type := 3, pos := "more.go:20", after := #[{ on := 1, ground := Ground.data }], guard := none }) (v := .int .i64 (m : Int)) rfl (by kernel_rfl) (by kernel_rfl) (by kernel_rfl) (fun _ _ _ h => h) (Or.inl ⟨by rfl, fun wx hS => ?_⟩) hH ?_
      · have e1 := qm.out; go_simp
      simp only [Act.put, List.setIfInBounds_toArray, List.set_cons_zero, List.set_cons_succ]
      refine wpAnyH_take (i := 3) (oi := { dst := some 121, op := Op.indexAddr 22 (Operand.tmp 118) (Operand.tmp 120), type := 0, pos := "more.go:20", after := #[{ on := 0, ground := Ground.data }, { on := 2, ground := Ground.data }], guard := none }) (v := .pointer (some ⟨xb, m, none⟩)) rfl (by kernel_rfl) (by kernel_rfl) (by kernel_rfl) (fun _ _ _ h => h) (Or.inl ⟨by rfl, fun wx hS => ?_⟩) hH ?_
      · have e1 := PM.out; have e2 := PL.out; go_simp
      simp only [Act.put, List.setIfInBounds_toArray, List.set_cons_zero, List.set_cons_succ]
      refine wpAnyH_take (i := 4) (oi := { dst := some 122, op := Op.load 5 (Operand.tmp 121), type := 5, pos := "more.go:20", after := #[{ on := 3, ground := Ground.data }], guard := none }) (v := .int .u8 (V xk)) rfl (by kernel_rfl) (by kernel_rfl) (by kernel_rfl) (fun _ _ _ h => h) (Or.inl ⟨by rfl, fun wx hS => ?_⟩) hH ?_
      · have e1 := CX.out wx hS; go_simp
      simp only [Act.put, List.setIfInBounds_toArray, List.set_cons_zero, List.set_cons_succ]
      refine wpAnyH_take (i := 5) (oi := { dst := some 123, op := Op.move (Operand.tmp 12), type := 22, pos := "more.go:20", after := #[], guard := none }) (v := .slice (some ⟨yb, 0, none⟩) L yc) rfl (by kernel_rfl) (by kernel_rfl) (by kernel_rfl) (fun _ _ _ h => h) (Or.inl ⟨by rfl, fun wx hS => ?_⟩) hH ?_
      · go_simp
      simp only [Act.put, List.setIfInBounds_toArray, List.set_cons_zero, List.set_cons_succ]
      refine wpAnyH_take (i := 6) (oi := { dst := some 124, op := Op.move (Operand.tmp 16), type := 3, pos := "more.go:20", after := #[], guard := none }) (v := .int .i64 (k : Int)) rfl (by kernel_rfl) (by kernel_rfl) (by kernel_rfl) (fun _ _ _ h => h) (Or.inl ⟨by rfl, fun wx hS => ?_⟩) hH ?_
      · go_simp
      simp only [Act.put, List.setIfInBounds_toArray, List.set_cons_zero, List.set_cons_succ]
      refine wpAnyH_take (i := 7) (oi := { dst := some 125, op := Op.binOp BinOp.add 3 (Operand.const (Value.int IntKind.i64 16)) (Operand.tmp 124) 3, type := 3, pos := "more.go:20", after := #[{ on := 6, ground := Ground.data }], guard := none }) (v := .int .i64 (m : Int)) rfl (by kernel_rfl) (by kernel_rfl) (by kernel_rfl) (fun _ _ _ h => h) (Or.inl ⟨by rfl, fun wx hS => ?_⟩) hH ?_
      · have e1 := qm.out; go_simp
      simp only [Act.put, List.setIfInBounds_toArray, List.set_cons_zero, List.set_cons_succ]
      refine wpAnyH_take (i := 8) (oi := { dst := some 126, op := Op.indexAddr 22 (Operand.tmp 123) (Operand.tmp 125), type := 0, pos := "more.go:20", after := #[{ on := 5, ground := Ground.data }, { on := 7, ground := Ground.data }], guard := none }) (v := .pointer (some ⟨yb, m, none⟩)) rfl (by kernel_rfl) (by kernel_rfl) (by kernel_rfl) (fun _ _ _ h => h) (Or.inl ⟨by rfl, fun wx hS => ?_⟩) hH ?_
      · have e1 := PM.out; have e2 := PL.out; go_simp
      simp only [Act.put, List.setIfInBounds_toArray, List.set_cons_zero, List.set_cons_succ]
      refine wpAnyH_take (i := 9) (oi := { dst := some 127, op := Op.load 5 (Operand.tmp 126), type := 5, pos := "more.go:20", after := #[{ on := 8, ground := Ground.data }], guard := none }) (v := .int .u8 (V yk)) rfl (by kernel_rfl) (by kernel_rfl) (by kernel_rfl) (fun _ _ _ h => h) (Or.inl ⟨by rfl, fun wx hS => ?_⟩) hH ?_
      · have e1 := CY.out wx hS; go_simp
      simp only [Act.put, List.setIfInBounds_toArray, List.set_cons_zero, List.set_cons_succ]
      refine wpAnyH_take (i := 10) (oi := { dst := some 128, op := Op.binOp BinOp.xor 5 (Operand.tmp 122) (Operand.tmp 127) 5, type := 5, pos := "more.go:20", after := #[{ on := 4, ground := Ground.data }, { on := 9, ground := Ground.data }], guard := none }) (v := .int .u8 (V u)) rfl (by kernel_rfl) (by kernel_rfl) (by kernel_rfl) (fun _ _ _ h => h) (Or.inl ⟨by rfl, fun wx hS => ?_⟩) hH ?_
      · have e1 := q10.out; go_simp
      simp only [Act.put, List.setIfInBounds_toArray, List.set_cons_zero, List.set_cons_succ]
      refine wpAnyH_take (i := 11) (oi := { dst := some 129, op := Op.move (Operand.tmp 7), type := 22, pos := "more.go:20", after := #[], guard := none }) (v := .slice (some ⟨ab, ao, none⟩) n ac) rfl (by kernel_rfl) (by kernel_rfl) (by kernel_rfl) (fun _ _ _ h => h) (Or.inl ⟨by rfl, fun wx hS => ?_⟩) hH ?_
      · go_simp
      simp only [Act.put, List.setIfInBounds_toArray, List.set_cons_zero, List.set_cons_succ]
      refine wpAnyH_take (i := 12) (oi := { dst := some 130, op := Op.move (Operand.tmp 16), type := 3, pos := "more.go:20", after := #[], guard := none }) (v := .int .i64 (k : Int)) rfl (by kernel_rfl) (by kernel_rfl) (by kernel_rfl) (fun _ _ _ h => h) (Or.inl ⟨by rfl, fun wx hS => ?_⟩) hH ?_
      · go_simp
      simp only [Act.put, List.setIfInBounds_toArray, List.set_cons_zero, List.set_cons_succ]
      refine wpAnyH_take (i := 13) (oi := { dst := some 131, op := Op.indexAddr 22 (Operand.tmp 129) (Operand.tmp 130), type := 0, pos := "more.go:20", after := #[{ on := 11, ground := Ground.data }, { on := 12, ground := Ground.data }], guard := none }) (v := .pointer (some ⟨ab, ao + k, none⟩)) rfl (by kernel_rfl) (by kernel_rfl) (by kernel_rfl) (fun _ _ _ h => h) (Or.inl ⟨by rfl, fun wx hS => ?_⟩) hH ?_
      · have e1 := PK.out; have e2 := PN.out; go_simp
      simp only [Act.put, List.setIfInBounds_toArray, List.set_cons_zero, List.set_cons_succ]
      refine wpAnyH_take (i := 14) (oi := { dst := some 132, op := Op.load 5 (Operand.tmp 131), type := 5, pos := "more.go:20", after := #[{ on := 13, ground := Ground.data }], guard := none }) (v := .int .u8 (V ak)) rfl (by kernel_rfl) (by kernel_rfl) (by kernel_rfl) (fun _ _ _ h => h) (Or.inl ⟨by rfl, fun wx hS => ?_⟩) hH ?_
      · have e1 := CA.out wx hS; go_simp
      simp only [Act.put, List.setIfInBounds_toArray, List.set_cons_zero, List.set_cons_succ]
      refine wpAnyH_take (i := 15) (oi := { dst := some 133, op := Op.move (Operand.tmp 8), type := 22, pos := "more.go:20", after := #[], guard := none }) (v := .slice (some ⟨bb, bo, none⟩) n bc) rfl (by kernel_rfl) (by kernel_rfl) (by kernel_rfl) (fun _ _ _ h => h) (Or.inl ⟨by rfl, fun wx hS => ?_⟩) hH ?_
      · go_simp
      simp only [Act.put, List.setIfInBounds_toArray, List.set_cons_zero, List.set_cons_succ]
      refine wpAnyH_take (i := 16) (oi := { dst := some 134, op := Op.move (Operand.tmp 16), type := 3, pos := "more.go:20", after := #[], guard := none }) (v := .int .i64 (k : Int)) rfl (by kernel_rfl) (by kernel_rfl) (by kernel_rfl) (fun _ _ _ h => h) (Or.inl ⟨by rfl, fun wx hS => ?_⟩) hH ?_
      · go_simp
      simp only [Act.put, List.setIfInBounds_toArray, List.set_cons_zero, List.set_cons_succ]
      refine wpAnyH_take (i := 17) (oi := { dst := some 135, op := Op.indexAddr 22 (Operand.tmp 133) (Operand.tmp 134), type := 0, pos := "more.go:20", after := #[{ on := 15, ground := Ground.data }, { on := 16, ground := Ground.data }], guard := none }) (v := .pointer (some ⟨bb, bo + k, none⟩)) rfl (by kernel_rfl) (by kernel_rfl) (by kernel_rfl) (fun _ _ _ h => h) (Or.inl ⟨by rfl, fun wx hS => ?_⟩) hH ?_
      · have e1 := PK.out; have e2 := PN.out; go_simp
      simp only [Act.put, List.setIfInBounds_toArray, List.set_cons_zero, List.set_cons_succ]
      refine wpAnyH_take (i := 18) (oi := { dst := some 136, op := Op.load 5 (Operand.tmp 135), type := 5, pos := "more.go:20", after := #[{ on := 17, ground := Ground.data }], guard := none }) (v := .int .u8 (V bk)) rfl (by kernel_rfl) (by kernel_rfl) (by kernel_rfl) (fun _ _ _ h => h) (Or.inl ⟨by rfl, fun wx hS => ?_⟩) hH ?_
      · have e1 := CB.out wx hS; go_simp
      simp only [Act.put, List.setIfInBounds_toArray, List.set_cons_zero, List.set_cons_succ]
      refine wpAnyH_take (i := 19) (oi := { dst := some 137, op := Op.binOp BinOp.xor 5 (Operand.tmp 132) (Operand.tmp 136) 5, type := 5, pos := "more.go:20", after := #[{ on := 14, ground := Ground.data }, { on := 18, ground := Ground.data }], guard := none }) (v := .int .u8 (V u)) rfl (by kernel_rfl) (by kernel_rfl) (by kernel_rfl) (fun _ _ _ h => h) (Or.inl ⟨by rfl, fun wx hS => ?_⟩) hH ?_
      · have e1 := q19.out; go_simp
      simp only [Act.put, List.setIfInBounds_toArray, List.set_cons_zero, List.set_cons_succ]
      refine wpAnyH_take (i := 20) (oi := { dst := some 138, op := Op.binOp BinOp.neq 5 (Operand.tmp 128) (Operand.tmp 137) 5, type := 4, pos := "more.go:20", after := #[{ on := 10, ground := Ground.data }, { on := 19, ground := Ground.data }], guard := none }) (v := .bool false) rfl (by kernel_rfl) (by kernel_rfl) (by kernel_rfl) (fun _ _ _ h => h) (Or.inl ⟨by rfl, fun wx hS => ?_⟩) hH ?_
      · go_simp
      simp only [Act.put, List.setIfInBounds_toArray, List.set_cons_zero, List.set_cons_succ]
      refine wpAnyH_take (i := 21) (oi := { dst := some 139, op := Op.move (Operand.tmp 138), type := 4, pos := "more.go:20", after := #[{ on := 20, ground := Ground.data }], guard := none }) (v := .bool false) rfl (by kernel_rfl) (by kernel_rfl) (by kernel_rfl) (fun _ _ _ h => h) (Or.inl ⟨by rfl, fun wx hS => ?_⟩) hH ?_
      · go_simp
      simp only [Act.put, List.setIfInBounds_toArray, List.set_cons_zero, List.set_cons_succ]
      refine wpAnyH_take (i := 22) (oi := { dst := some 140, op := Op.move (Operand.tmp 10), type := 22, pos := "more.go:20", after := #[{ on := 21, ground := Ground.guard }], guard := some (21, false) }) (v := .slice (some ⟨xb, 0, none⟩) L xc) rfl (by kernel_rfl) (by kernel_rfl) (by kernel_rfl) (fun _ _ _ h => h) (Or.inl ⟨by rfl, fun wx hS => ?_⟩) hH ?_
      · go_simp
      simp only [Act.put, List.setIfInBounds_toArray, List.set_cons_zero, List.set_cons_succ]
      refine wpAnyH_take (i := 23) (oi := { dst := some 141, op := Op.move (Operand.tmp 16), type := 3, pos := "more.go:20", after := #[{ on := 21, ground := Ground.guard }], guard := some (21, false) }) (v := .int .i64 (k : Int)) rfl (by kernel_rfl) (by kernel_rfl) (by kernel_rfl) (fun _ _ _ h => h) (Or.inl ⟨by rfl, fun wx hS => ?_⟩) hH ?_
      · go_simp
      simp only [Act.put, List.setIfInBounds_toArray, List.set_cons_zero, List.set_cons_succ]
      refine wpAnyH_take (i := 24) (oi := { dst := some 142, op := Op.binOp BinOp.add 3 (Operand.const (Value.int IntKind.i64 16)) (Operand.tmp 141) 3, type := 3, pos := "more.go:20", after := #[{ on := 23, ground := Ground.data }, { on := 21, ground := Ground.guard }], guard := some (21, false) }) (v := .int .i64 (m : Int)) rfl (by kernel_rfl) (by kernel_rfl) (by kernel_rfl) (fun _ _ _ h => h) (Or.inl ⟨by rfl, fun wx hS => ?_⟩) hH ?_
      · have e1 := qm.out; go_simp
      simp only [Act.put, List.setIfInBounds_toArray, List.set_cons_zero, List.set_cons_succ]
      refine wpAnyH_take (i := 25) (oi := { dst := some 143, op := Op.indexAddr 22 (Operand.tmp 140) (Operand.tmp 142), type := 0, pos := "more.go:20", after := #[{ on := 22, ground := Ground.data }, { on := 24, ground := Ground.data }, { on := 21, ground := Ground.guard }], guard := some (21, false) }) (v := .pointer (some ⟨xb, m, none⟩)) rfl (by kernel_rfl) (by kernel_rfl) (by kernel_rfl) (fun _ _ _ h => h) (Or.inl ⟨by rfl, fun wx hS => ?_⟩) hH ?_
      · have e1 := PM.out; have e2 := PL.out; go_simp
      simp only [Act.put, List.setIfInBounds_toArray, List.set_cons_zero, List.set_cons_succ]
      refine wpAnyH_take (i := 26) (oi := { dst := some 144, op := Op.load 5 (Operand.tmp 143), type := 5, pos := "more.go:20", after := #[{ on := 25, ground := Ground.data }, { on := 21, ground := Ground.guard }], guard := some (21, false) }) (v := .int .u8 (V xk)) rfl (by kernel_rfl) (by kernel_rfl) (by kernel_rfl) (fun _ _ _ h => h) (Or.inl ⟨by rfl, fun wx hS => ?_⟩) hH ?_
      · have e1 := CX.out wx hS; go_simp
      simp only [Act.put, List.setIfInBounds_toArray, List.set_cons_zero, List.set_cons_succ]
      refine wpAnyH_take (i := 27) (oi := { dst := some 145, op := Op.move (Operand.tmp 14), type := 22, pos := "more.go:20", after := #[{ on := 21, ground := Ground.guard }], guard := some (21, false) }) (v := .slice (some ⟨zb, 0, none⟩) L zc) rfl (by kernel_rfl) (by kernel_rfl) (by kernel_rfl) (fun _ _ _ h => h) (Or.inl ⟨by rfl, fun wx hS => ?_⟩) hH ?_
      · go_simp
      simp only [Act.put, List.setIfInBounds_toArray, List.set_cons_zero, List.set_cons_succ]
      refine wpAnyH_take (i := 28) (oi := { dst := some 146, op := Op.move (Operand.tmp 16), type := 3, pos := "more.go:20", after := #[{ on := 21, ground := Ground.guard }], guard := some (21, false) }) (v := .int .i64 (k : Int)) rfl (by kernel_rfl) (by kernel_rfl) (by kernel_rfl) (fun _ _ _ h => h) (Or.inl ⟨by rfl, fun wx hS => ?_⟩) hH ?_
      · go_simp
      simp only [Act.put, List.setIfInBounds_toArray, List.set_cons_zero, List.set_cons_succ]
      refine wpAnyH_take (i := 29) (oi := { dst := some 147, op := Op.binOp BinOp.add 3 (Operand.const (Value.int IntKind.i64 16)) (Operand.tmp 146) 3, type := 3, pos := "more.go:20", after := #[{ on := 28, ground := Ground.data }, { on := 21, ground := Ground.guard }], guard := some (21, false) }) (v := .int .i64 (m : Int)) rfl (by kernel_rfl) (by kernel_rfl) (by kernel_rfl) (fun _ _ _ h => h) (Or.inl ⟨by rfl, fun wx hS => ?_⟩) hH ?_
      · have e1 := qm.out; go_simp
      simp only [Act.put, List.setIfInBounds_toArray, List.set_cons_zero, List.set_cons_succ]
      refine wpAnyH_take (i := 30) (oi := { dst := some 148, op := Op.indexAddr 22 (Operand.tmp 145) (Operand.tmp 147), type := 0, pos := "more.go:20", after := #[{ on := 27, ground := Ground.data }, { on := 29, ground := Ground.data }, { on := 21, ground := Ground.guard }], guard := some (21, false) }) (v := .pointer (some ⟨zb, m, none⟩)) rfl (by kernel_rfl) (by kernel_rfl) (by kernel_rfl) (fun _ _ _ h => h) (Or.inl ⟨by rfl, fun wx hS => ?_⟩) hH ?_
      · have e1 := PM.out; have e2 := PL.out; go_simp
      simp only [Act.put, List.setIfInBounds_toArray, List.set_cons_zero, List.set_cons_succ]
      refine wpAnyH_take (i := 31) (oi := { dst := some 149, op := Op.load 5 (Operand.tmp 148), type := 5, pos := "more.go:20", after := #[{ on := 30, ground := Ground.data }, { on := 21, ground := Ground.guard }], guard := some (21, false) }) (v := .int .u8 (V xk)) rfl (by kernel_rfl) (by kernel_rfl) (by kernel_rfl) (fun _ _ _ h => h) (Or.inl ⟨by rfl, fun wx hS => ?_⟩) hH ?_
      · have e1 := CZ.out wx hS; go_simp
      simp only [Act.put, List.setIfInBounds_toArray, List.set_cons_zero, List.set_cons_succ]
      refine wpAnyH_take (i := 32) (oi := { dst := some 150, op := Op.binOp BinOp.neq 5 (Operand.tmp 144) (Operand.tmp 149) 5, type := 4, pos := "more.go:20", after := #[{ on := 26, ground := Ground.data }, { on := 31, ground := Ground.data }, { on := 21, ground := Ground.guard }], guard := some (21, false) }) (v := .bool false) rfl (by kernel_rfl) (by kernel_rfl) (by kernel_rfl) (fun _ _ _ h => h) (Or.inl ⟨by rfl, fun wx hS => ?_⟩) hH ?_
      · go_simp
      simp only [Act.put, List.setIfInBounds_toArray, List.set_cons_zero, List.set_cons_succ]
      refine wpAnyH_take (i := 33) (oi := { dst := some 151, op := Op.pick (Operand.tmp 139) (Operand.const (Value.bool true)) (Operand.tmp 150), type := 4, pos := "more.go:20", after := #[{ on := 21, ground := Ground.data }, { on := 32, ground := Ground.data }], guard := none }) (v := .bool false) rfl (by kernel_rfl) (by kernel_rfl) (by kernel_rfl) (fun _ _ _ h => h) (Or.inl ⟨by rfl, fun wx hS => ?_⟩) hH ?_
      · go_simp
      simp only [Act.put, List.setIfInBounds_toArray, List.set_cons_zero, List.set_cons_succ]
      refine wpAnyH_done (by kernel_rfl) ?_ _
      refine NoPanic.normal ?_
      have HB2 := Lib.hid (HB.out.trans (hH.mono HB.out.size))
      clear hH HB CX CY CZ CA CB q10 q19 qm PM PL PK PN
      go_wp2_with fail
      go_roundw
      case rel => exact ⟨k + 1, by omega, by go_num, HB2.out⟩
      case measure => simp [intOf]; omega
    · have q : ¬ (k : Int) < (n : Int) := by omega
      have rx := Lib.hid (fun X => r_sliceH 22 slice22 sz22 xb 0 L xc 16 X (by have := Cx0.out; have := HL.out; omega) (by have := Cx0.out; have := HL.out; omega))
      have ry := Lib.hid (fun X => r_sliceH 22 slice22 sz22 yb 0 L yc 16 X (by have := Cy0.out; have := HL.out; omega) (by have := Cy0.out; have := HL.out; omega))
      rw [show ((16 : Nat) : Int) = 16 from rfl] at rx ry
      have cx : Hid (∀ X, Below wr.heap.size wr X → (convert 22 9 (.slice (some ⟨xb, 0, none⟩) 16 xc)).run Tryd.prog X = .ok (.string (str N)) X) := Lib.hid (fun X hX => by
        have h := IX.out.below (HB.out.trans (hX.mono HB.out.size))
        obtain ⟨rest, hr⟩ := SN.out kd nu A
        rw [hr] at h
        have := conv_string X _ N xc (part_in (P := []) (Q := N) (R := rest) h)
        rwa [HNL.out] at this)
      have cy : Hid (∀ X, Below wr.heap.size wr X → (convert 22 9 (.slice (some ⟨yb, 0, none⟩) 16 yc)).run Tryd.prog X = .ok (.string (str N)) X) := Lib.hid (fun X hX => by
        have h := IY.out.below (HB.out.trans (hX.mono HB.out.size))
        obtain ⟨rest, hr⟩ := SN.out kd nu Bq
        rw [hr] at h
        have := conv_string X _ N yc (part_in (P := []) (Q := N) (R := rest) h)
        rwa [HNL.out] at this)
      clear SM SL SN IX IY IZ IA IB
      go_upto_region 15 with fail
      refine wp_region_noPanic ?_
      refine wp_region_held_drew (S := fun w' => Below wr.heap.size wr w') (by kernel_rfl) (below_drew' (Below.refl _ _)) (fun hH => ?_)
      generalize wr.drew = x15 at *
      refine wpAnyH_take (i := 0) (oi := { dst := some 152, op := Op.move (Operand.tmp 10), type := 22, pos := "more.go:24", after := #[], guard := none }) (v := .slice (some ⟨xb, 0, none⟩) L xc) rfl (by kernel_rfl) (by kernel_rfl) (by kernel_rfl) (fun _ _ _ h => h) (Or.inl ⟨by rfl, fun wx hS => ?_⟩) hH ?_
      · go_simp
      simp only [Act.put, List.setIfInBounds_toArray, List.set_cons_zero, List.set_cons_succ]
      refine wpAnyH_take (i := 1) (oi := { dst := some 153, op := Op.slice 22 (Operand.tmp 152) none (some (Operand.const (Value.int IntKind.i64 16))) none, type := 22, pos := "more.go:24", after := #[{ on := 0, ground := Ground.data }], guard := none }) (v := .slice (some ⟨xb, 0, none⟩) 16 xc) rfl (by kernel_rfl) (by kernel_rfl) (by kernel_rfl) (fun _ _ _ h => h) (Or.inl ⟨by rfl, fun wx hS => ?_⟩) hH ?_
      · have e1 := rx.out wx; go_simp
      simp only [Act.put, List.setIfInBounds_toArray, List.set_cons_zero, List.set_cons_succ]
      refine wpAnyH_take (i := 2) (oi := { dst := some 154, op := Op.convert 22 9 (Operand.tmp 153), type := 9, pos := "more.go:24", after := #[{ on := 1, ground := Ground.data }], guard := none }) (v := .string (str N)) rfl (by kernel_rfl) (by kernel_rfl) (by kernel_rfl) (fun _ _ _ h => h) (Or.inl ⟨by rfl, fun wx hS => ?_⟩) hH ?_
      · have e1 := cx.out wx hS; go_simp
      simp only [Act.put, List.setIfInBounds_toArray, List.set_cons_zero, List.set_cons_succ]
      refine wpAnyH_take (i := 3) (oi := { dst := some 155, op := Op.move (Operand.tmp 12), type := 22, pos := "more.go:24", after := #[], guard := none }) (v := .slice (some ⟨yb, 0, none⟩) L yc) rfl (by kernel_rfl) (by kernel_rfl) (by kernel_rfl) (fun _ _ _ h => h) (Or.inl ⟨by rfl, fun wx hS => ?_⟩) hH ?_
      · go_simp
      simp only [Act.put, List.setIfInBounds_toArray, List.set_cons_zero, List.set_cons_succ]
      refine wpAnyH_take (i := 4) (oi := { dst := some 156, op := Op.slice 22 (Operand.tmp 155) none (some (Operand.const (Value.int IntKind.i64 16))) none, type := 22, pos := "more.go:24", after := #[{ on := 3, ground := Ground.data }], guard := none }) (v := .slice (some ⟨yb, 0, none⟩) 16 yc) rfl (by kernel_rfl) (by kernel_rfl) (by kernel_rfl) (fun _ _ _ h => h) (Or.inl ⟨by rfl, fun wx hS => ?_⟩) hH ?_
      · have e1 := ry.out wx; go_simp
      simp only [Act.put, List.setIfInBounds_toArray, List.set_cons_zero, List.set_cons_succ]
      refine wpAnyH_take (i := 5) (oi := { dst := some 157, op := Op.convert 22 9 (Operand.tmp 156), type := 9, pos := "more.go:24", after := #[{ on := 4, ground := Ground.data }], guard := none }) (v := .string (str N)) rfl (by kernel_rfl) (by kernel_rfl) (by kernel_rfl) (fun _ _ _ h => h) (Or.inl ⟨by rfl, fun wx hS => ?_⟩) hH ?_
      · have e1 := cy.out wx hS; go_simp
      simp only [Act.put, List.setIfInBounds_toArray, List.set_cons_zero, List.set_cons_succ]
      refine wpAnyH_take (i := 6) (oi := { dst := some 158, op := Op.binOp BinOp.eql 9 (Operand.tmp 154) (Operand.tmp 157) 9, type := 4, pos := "more.go:24", after := #[{ on := 2, ground := Ground.data }, { on := 5, ground := Ground.data }], guard := none }) (v := .bool true) rfl (by kernel_rfl) (by kernel_rfl) (by kernel_rfl) (fun _ _ _ h => h) (Or.inl ⟨by rfl, fun wx hS => ?_⟩) hH ?_
      · have e1 : ((str N).toList == (str N).toList) = true := (by simp); go_simp
      simp only [Act.put, List.setIfInBounds_toArray, List.set_cons_zero, List.set_cons_succ]
      refine wpAnyH_ready (rs := [7]) (by kernel_rfl) (by simp) ?_
      refine AllReadyH.cons (o := { dst := some 4, op := Op.assign (Operand.tmp 158), type := 4, pos := "more.go:24", after := #[{ on := 6, ground := Ground.data }, { on := 0, ground := Ground.phase }, { on := 1, ground := Ground.phase }, { on := 2, ground := Ground.phase }, { on := 3, ground := Ground.phase }, { on := 4, ground := Ground.phase }, { on := 5, ground := Ground.phase }, { on := 6, ground := Ground.phase }], guard := none }) rfl (fun KK hKK => ?_) AllReadyH.nil
      go_simp
      refine hKK.out _ _ hH (fun hH => ?_)
      clear hKK KK
      try simp only [Act.put, List.setIfInBounds_toArray, List.set_cons_zero, List.set_cons_succ]
      refine wpAnyH_done (by kernel_rfl) ?_ _
      refine NoPanic.normal ?_
      have B10 := Lib.hid (B9.out.trans ((HB.out.trans (hH.mono HB.out.size)).mono B9.out.size))
      clear hH HB cx cy rx ry
      go_wp2_with fail
      go_ret
      exact ⟨rfl, B10.out⟩
end Go.Proofs.YtjkhokholcchfaaDoor
