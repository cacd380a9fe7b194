/- The law CipherBlocks: its walk. -/
import Derived.Test.YtklbbeilbpcnoaaPtc
import Derived.Laws.MakeOwn
namespace Go.Proofs.Ytklbbeilbpcnoaa
open Go.RowKit Sha Aes

theorem made_zeros (n : Nat) : madeCells (Value.int .u8 0).cells (n * 1) = (byteCells (List.replicate n 0)).toArray := by
  apply Array.ext
  · simp [madeCells, byteCells]
  · intro j h1 h2
    simp [madeCells, byteCells, Value.cells, Nat.mod_one]
    rfl
theorem cnt5 (z : Int) : ∃ cnt : Nat, 1 ≤ cnt ∧ cnt ≤ 5 ∧ wrap64 (1 + wrap64 ((IntKind.u64.wrap z).tmod 5)) = (cnt : Int) := by
  have hw := wrap_u64_nonneg z
  have h1 := Int.emod_lt_of_pos (IntKind.u64.wrap z) (show (0 : Int) < 5 by omega)
  have h0 := Int.emod_nonneg (IntKind.u64.wrap z) (show (5 : Int) ≠ 0 by omega)
  rw [Int.tmod_eq_emod_of_nonneg hw]
  refine ⟨(1 + IntKind.u64.wrap z % 5).toNat, by omega, by omega, ?_⟩
  unfold wrap64
  omega
theorem make_zeros (n : Nat) (w : World) (hn : n ≤ 1000000) :
    (Instr.makeSlice 28 (.int .i64 (n : Int)) (.int .i64 (n : Int))).run Try.prog w = .ok (.slice (some ⟨w.heap.size, 0, none⟩) n n) (w.alloc (.cells (byteCells (List.replicate n 0)).toArray 5 (0, 0))) := by
  obtain ⟨i0, hi, hz0, hz1, hz2⟩ := info_parts info_u8
  have := run_make (P := Try.prog) w 28 5 i0 (.int .u8 0) Try.underlying28 hi hz0 .i64 .i64 (n : Int) (n : Int) (by omega) (by omega) (by rw [hz2]; omega) (by omega)
  rw [hz1, Int.toNat_natCast, made_zeros] at this
  exact this
/-- A Pour's cells. -/
def pourCells (K N : List UInt8) (p : Int) (v : Value) : List Value := byteCells K ++ (byteCells N ++ [.int .i64 p, v])
/-- What is hidden of noughts, a block of it. -/
theorem hide_block (ws : List W) (N : List UInt8) (c i : Nat) (hi : i < c) : ((hideL ws N 0 (List.replicate (16 * c) 0)).take (16 * i + 16)).drop (16 * i) = Aes.turn ws (plus N i) := by
  apply List.ext_getElem
  · rw [List.length_drop, List.length_take]
    simp [hideL, Aes.turn_length]
    omega
  · intro j h1 h2
    have hj : j < 16 := h2
    simp only [List.getElem_drop, List.getElem_take, hideL, List.getElem_map, List.getElem_range]
    have e0 : (List.replicate (16 * c) (0 : UInt8)).getD (16 * i + j) 0 = 0 := by
      rw [List.getD_eq_getElem?_getD, List.getElem?_replicate]
      split <;> rfl
    rw [e0, UInt8.zero_xor]
    unfold sb
    rw [show (0 + (16 * i + j)) / 16 = i by omega, show (0 + (16 * i + j)) % 16 = j by omega]
    simp [Aes.turn_length, hj]
    rw [List.getElem?_eq_getElem h2]
    rfl

set_option maxRecDepth 100000 in
set_option maxHeartbeats 8000000 in
theorem law_cipherBlocks (K N : List UInt8) (p : Int) (v : Value) (z : Int) (w : World) (hK : K.length = 32) (hN : N.length = 16) :
    Calls Try.prog 8 #[.agg (pourCells K N p v).toArray, .int .i64 z] w fun e w' => e = .returned (.bool true) ∧ Below w.heap.size w w' := by
  have HKL := Lib.hid hK
  have HNL := Lib.hid hN
  have G1 := Lib.hid (blockIs.new w (pourCells K N p v) 45)
  have B1 := Lib.hid (alloc_below w (.cells (pourCells K N p v).toArray 45 (0, 0)))
  have QK : Hid (bytesIn (w.alloc (.cells (pourCells K N p v).toArray 45 (0, 0))) (some ⟨w.heap.size, 0, none⟩) K) := Lib.hid (Or.inr ⟨_, _, rfl, fun j hj => by
    rw [Nat.zero_add, G1.out.cell]
    unfold pourCells
    rw [List.getElem?_append_left (by rw [byteCells_length]; exact hj)]
    exact byteCells_get K j hj⟩)
  have CN : Hid (pourCells K N p v = byteCells K ++ (byteCells N ++ [.int .i64 p, v])) := Lib.hid rfl
  clear hK hN
  generalize pourCells K N p v = C at *
  go_enter Try.func8, Try.ntmps8
  have HM := Lib.hid (make_any (some ⟨w.heap.size, 0, none⟩) 32 K (w.alloc (.cells C.toArray 45 (0, 0))) HKL.out QK.out)
  rw [HKL.out] at HM
  go_wp2_with fail
  generalize w.alloc (.cells C.toArray 45 (0, 0)) = w1 at *
  with_reducible refine HM.out.mono ?_
  rintro e w2 ⟨g, rfl, hg1, hkey, kk⟩
  have K2 := Lib.hid hkey
  have G2 := Lib.hid (G1.out.below kk G1.out.lt)
  have B2 := Lib.hid (B1.out.trans (kk.mono B1.out.size))
  have HG1 : Hid (w.heap.size ≤ g) := Lib.hid (Nat.le_trans B1.out.size hg1)
  clear hg1 hkey kk HM G1 B1 QK
  generalize Aes.words K 60 = ws at *
  have RN : Hid (w2.rangeAt w.heap.size 32 (byteCells N)) := Lib.hid (by
    have h := G2.out
    rw [CN.out] at h
    have := rangeAt_block (p := byteCells K) (cs := byteCells N) h
    rwa [byteCells_length, HKL.out] at this)
  have HBG := Lib.hid (begin_ok g N w2 HNL.out)
  have HNB : Hid ((byteCells N).length = 16) := Lib.hid (by rw [byteCells_length]; exact HNL.out)
  go_wp2_with (refine wpList_load_mid rfl 23 _ rfl w.heap.size 32 rfl (byteCells N) _ RN.out Try.underlying23 rfl (by rw [infoBlk, HNB.out]) ?_)
  with_reducible refine HBG.out.mono ?_
  rintro e w3 ⟨fb, rfl, hfb, hfl, kk⟩
  have K3 := Lib.hid (K2.out.below kk K2.out.lt)
  have F3 := Lib.hid hfl
  have G3 := Lib.hid (G2.out.below kk G2.out.lt)
  have B3 := Lib.hid (B2.out.trans (kk.mono B2.out.size))
  have HGF : Hid (g < fb) := Lib.hid (Nat.lt_of_lt_of_le K2.out.lt hfb)
  clear hfb hfl kk K2 G2 B2 RN HBG
  go_wp2_with fail
  refine (hides_any _).mono ?_
  rintro e w4 ⟨rfl, kk⟩
  have K4 := Lib.hid (K3.out.below kk K3.out.lt)
  have F4 := Lib.hid (F3.out.below kk F3.out.lt)
  have G4 := Lib.hid (G3.out.below kk G3.out.lt)
  have B4 := Lib.hid (B3.out.trans (kk.mono B3.out.size))
  clear kk K3 F3 G3 B3
  go_upto_region 5 with fail
  go_cut [1] (fun v wx => ∃ cnt : Nat, v = .int .i64 cnt ∧ 1 ≤ cnt ∧ cnt ≤ 5 ∧ w4 = wx)
  case first =>
    go_wp2_with fail
    all_goals
      go_meet
      case rel =>
        obtain ⟨cnt, h1, h2, h3⟩ := cnt5 z
        exact ⟨cnt, by rw [h3], h1, h2, rfl⟩
  obtain ⟨cnt, rfl, hc1, hc2, rfl⟩ := hcut
  have n16 : IntKind.i64.wrap (16 * (cnt : Int)) = ((16 * cnt : Nat) : Int) := by rw [IntWalk.i64_in _ (by omega)]; omega
  have mz := make_zeros (16 * cnt) w4 (by omega)
  obtain ⟨zl, hzl⟩ : ∃ zl : List UInt8, zl = List.replicate (16 * cnt) 0 := ⟨_, rfl⟩
  have HZL : Hid (zl.length = 16 * cnt) := Lib.hid (by rw [hzl, List.length_replicate])
  have HZ0 : Hid (zl ≠ []) := Lib.hid (by rw [hzl]; intro h; have := congrArg List.length h; rw [List.length_replicate] at this; simp at this; omega)
  have HZ := Lib.hid hzl
  rw [← hzl] at mz
  clear hzl
  obtain ⟨n, hn⟩ : ∃ n, n = 16 * cnt := ⟨_, rfl⟩
  rw [← hn] at n16 mz HZL
  have HN16 := Lib.hid hn
  clear hn
  have x1 := Lib.hid (blockIs.new w4 (byteCells zl) 5)
  have k1 := alloc_below w4 (.cells (byteCells zl).toArray 5 (0, 0))
  have K5 := Lib.hid (K4.out.below k1 K4.out.lt)
  have F5 := Lib.hid (F4.out.below k1 F4.out.lt)
  have G5 := Lib.hid (G4.out.below k1 G4.out.lt)
  have B5 := Lib.hid (B4.out.trans (k1.mono B4.out.size))
  clear k1 K4 F4 G4 B4
  go_upto_region 6 with fail
  generalize hw5 : w4.alloc (.cells (byteCells zl).toArray 5 (0, 0)) = w5 at *
  have y1 := Lib.hid (blockIs.new w5 [.slice (some ⟨w4.heap.size, 0, none⟩) n n] 28)
  have k2 := alloc_below w5 (.cells [Value.slice (some ⟨w4.heap.size, 0, none⟩) n n].toArray 28 (0, 0))
  have X2 : Hid (partsB (w5.alloc (.cells [Value.slice (some ⟨w4.heap.size, 0, none⟩) n n].toArray 28 (0, 0))) (some ⟨w5.heap.size, 0, none⟩) [zl]) := Lib.hid (Or.inr ⟨_, _, rfl, fun j hj => by
    obtain rfl : j = 0 := by simpa using hj
    refine ⟨some ⟨w4.heap.size, 0, none⟩, n, ?_, (fun h => by cases h), Or.inr ⟨_, _, rfl, fun m hm => ?_⟩⟩
    · rw [Nat.zero_add, y1.out.cell]
      show _ = some (Value.slice _ zl.length n)
      rw [HZL.out]; rfl
    · rw [Nat.zero_add, (x1.out.below k2 x1.out.lt).cell]
      exact byteCells_get zl m hm⟩)
  have HH := Lib.hid (hide_some fb g ws N 0 (some ⟨w5.heap.size, 0, none⟩) 1 [zl] _ HNL.out (by decide) (by simp) (by simp [HZL.out]; have := HN16.out; omega) (by simpa using HZ0.out) (F5.out.below k2 F5.out.lt) (K5.out.below k2 K5.out.lt) (Nat.ne_of_gt HGF.out) X2.out)
  rw [show [zl].flatten = zl by simp, HZL.out, show ([zl] : List (List UInt8)).length = 1 from rfl, Nat.zero_add] at HH
  have K6 := Lib.hid (K5.out.below k2 K5.out.lt)
  have F6 := Lib.hid (F5.out.below k2 F5.out.lt)
  have G6 := Lib.hid (G5.out.below k2 G5.out.lt)
  have B6 := Lib.hid (B5.out.trans (k2.mono B5.out.size))
  clear x1 y1 k2 X2 K5 F5 G5 B5
  obtain ⟨SS, hSS⟩ : ∃ SS, SS = hideL ws N 0 zl := ⟨_, rfl⟩
  have HSL : Hid (SS.length = n) := Lib.hid (by rw [hSS]; simp [hideL, HZL.out])
  have HSB0 : Hid (∀ i, i < cnt → (SS.take (16 * i + 16)).drop (16 * i) = Aes.turn ws (plus N i)) := Lib.hid (fun i hi => by rw [hSS, HZ.out]; exact hide_block ws N cnt i hi)
  rw [← hSS] at HH
  clear hSS
  go_wp2_with fail
  generalize w5.alloc (.cells #[.slice (some ⟨w4.heap.size, 0, none⟩) n n] 28 (0, 0)) = w6 at *
  with_reducible refine HH.out.mono ?_
  rintro e w7 ⟨v7, rfl, own, hfl, hbut⟩
  obtain ⟨sa, sc, rfl, s1, s2, s3, _⟩ := own.form
  have HSA : Hid (∀ X, But w7.heap.size w7 X → bytesIn X sa SS) := Lib.hid (fun X hX => by
    rcases s3 with h | ⟨bb, bo, he, h⟩
    · exact Or.inl h
    · by_cases h0 : SS = []
      · exact Or.inl h0
      · exact Or.inr ⟨bb, bo, he, fun j hj => hX.cell (h j hj) (by show bb ≠ w7.heap.size; have := block_lt_of_cell (h j hj); exact Nat.ne_of_lt this)⟩)
  have F7 := Lib.hid hfl
  have K7 := Lib.hid (hbut.is K6.out (by have := HGF.out; omega))
  have G7 := Lib.hid (hbut.is G6.out (by have := HGF.out; have := HG1.out; omega))
  have B7 := Lib.hid (B6.out.trans (hbut.below (by have := HGF.out; have := HG1.out; omega) B6.out.size))
  have HSC := Lib.hid s1
  have RN7 : Hid (w7.rangeAt w.heap.size 32 (byteCells N)) := Lib.hid (by
    have h := G7.out
    rw [CN.out] at h
    have := rangeAt_block (p := byteCells K) (cs := byteCells N) h
    rwa [byteCells_length, HKL.out] at this)
  have HSM := Lib.hid s2
  clear own hfl hbut s1 s2 s3 HH K6 F6 G6 B6
  have hz := zeroBlk
  have N7 := Lib.hid (blockIs.new w7 (zeros 16) 23)
  have A7 := alloc_below w7 (.cells (zeros 16).toArray 23 (0, 0))
  have L7 : Hid (But w7.heap.size w7 (w7.alloc (.cells (zeros 16).toArray 23 (0, 0)))) := Lib.hid (But.of_below A7)
  have RN8 : Hid ((w7.alloc (.cells (zeros 16).toArray 23 (0, 0))).rangeAt w.heap.size 32 (byteCells N)) := Lib.hid (fun j u hj => (A7.cell (p := ⟨w.heap.size, 32 + j, none⟩) (block_lt_of_cell (RN7.out j u hj))).trans (RN7.out j u hj))
  clear A7
  go_wp2_with (first | (refine wpList_load_mid rfl 23 _ rfl w.heap.size 32 rfl (byteCells N) _ RN7.out Try.underlying23 rfl (by rw [infoBlk, HNB.out]) ?_) | (refine wpList_store_block rfl 23 _ _ rfl w7.heap.size 0 (byteCells N) rfl rfl (zeros 16) 23 N7.out (by rw [infoBlk, HNB.out]) (by rw [HNB.out]; decide) (byteCells_one _) ?_))
  intro w8 h1 h2 h3
  have h1 := h1.out
  rw [splice_all _ _ (by rw [HNB.out]; rfl), ← plus_zero N HNL.out] at h1
  have I8 := Lib.hid (And.intro h1 (L7.out.trans h2.out))
  clear h1 h2 h3 N7 L7 RN7 RN8 hz
  go_wp2_with fail
  go_loopw [11] (fun i wr => ∃ k : Nat, k ≤ cnt ∧ i = .int .i64 k ∧ blockIs wr w7.heap.size (byteCells (plus N k)) 23 ∧ But w7.heap.size w7 wr) (fun i _ => cnt - (intOf i).toNat)
  case atStart => exact ⟨0, by omega, rfl, by rw [plus_zero N HNL.out]; rw [plus_zero N HNL.out] at I8; exact I8.out.1, I8.out.2⟩
  case round =>
    obtain ⟨i, hi, rfl, h1, h2⟩ := hrel
    have H1 := Lib.hid h1
    have H2 := Lib.hid h2
    clear h1 h2
    by_cases hlt : i < cnt
    · have qi : (i : Int) < (cnt : Int) := by omega
      have HT := HSB0.out i hlt
      have HPM : Hid (plus N (i + 1) = plus (plus N i) 1) := Lib.hid (plus_plus N i 1 HNL.out).symm
      have HML : Hid ((plus N i).length = 16) := Lib.hid (by rw [plus_len, HNL.out])
      generalize plus N i = M at *
      have KR := Lib.hid (H2.out.is K7.out (Nat.ne_of_lt K7.out.lt))
      have HTN := Lib.hid (turn_any g ws M wr HML.out KR.out)
      have HTL : Hid ((Aes.turn ws M).length = 16) := Lib.hid rfl
      generalize Aes.turn ws M = T at *
      have R1 := Lib.hid (range_of H1.out)
      have HMB : Hid ((byteCells M).length = 16) := Lib.hid (by rw [byteCells_length, HML.out])
      have HTC : Hid ((byteCells T).length = 16) := Lib.hid (by rw [byteCells_length, HTL.out])
      have HT := Lib.hid HT
      have hz := zeroBlk
      go_wp2_with (refine wpList_load_mid rfl 23 _ rfl w7.heap.size 0 rfl (byteCells M) _ R1.out Try.underlying23 rfl (by rw [infoBlk, HMB.out]) ?_)
      with_reducible refine HTN.out.mono ?_
      rintro e w9 ⟨rfl, kk⟩
      have H3 := Lib.hid (H1.out.below kk H1.out.lt)
      have H4 := Lib.hid (H2.out.trans (But.of_below kk))
      have N9 := Lib.hid (blockIs.new w9 (zeros 16) 23)
      have A9 := alloc_below w9 (.cells (zeros 16).toArray 23 (0, 0))
      have H5 := Lib.hid (H3.out.below A9 H3.out.lt)
      have H6 := Lib.hid (H4.out.trans (But.of_below A9))
      have HBt : Hid (w7.heap.size < w9.heap.size) := Lib.hid H3.out.lt
      clear kk A9 H1 H2 KR HTN R1 H3
      go_wp2_with (refine wpList_store_block rfl 23 _ _ rfl w9.heap.size 0 (byteCells T) rfl rfl (zeros 16) 23 N9.out (by rw [infoBlk, HTC.out]) (by rw [HTC.out]; decide) (byteCells_one _) ?_)
      intro w10 h1 h2 h3
      have h1 := h1.out
      rw [splice_all _ _ (by rw [HTC.out]; rfl)] at h1
      have T10 := Lib.hid h1
      have H7 := Lib.hid (h2.out.is H5.out (Nat.ne_of_lt HBt.out))
      have H8 := Lib.hid (H6.out.past h2.out (Nat.le_of_lt HBt.out))
      clear h1 h2 h3 H4 H5 H6 N9 hz
      generalize w9.heap.size = Bt at *
      have HTB : Hid (bytesIn w10.drew (some ⟨Bt, 0, none⟩) T) := Lib.hid (Or.inr ⟨_, _, rfl, fun j hj => by
        rw [Nat.zero_add, show w10.drew.cell? ⟨Bt, j, none⟩ = w10.cell? ⟨Bt, j, none⟩ from rfl, T10.out.cell]
        exact byteCells_get T j hj⟩)
      have HSB : Hid (bytesIn w10.drew sa SS) := HSA.out w10 H8.out
      have hr := fun X => (⟨sa, sc, SS⟩ : Pt).run_lh (16 * i) (16 * i + 16) (by omega) (by show 16 * i + 16 ≤ SS.length; rw [HSL.out, HN16.out]; omega) HSC.out X
      have HQ0 : Hid (∀ X, bytesIn X sa SS → bytesIn X ((⟨sa, sc, SS⟩ : Pt).sub (16 * i) (16 * i + 16)).a ((⟨sa, sc, SS⟩ : Pt).sub (16 * i) (16 * i + 16)).l) := Lib.hid (fun X hX => (Pt.sub_ok (p := ⟨sa, sc, SS⟩) ⟨HSC.out, HSM.out, hX⟩ (16 * i) (16 * i + 16) (by omega) (by show 16 * i + 16 ≤ SS.length; rw [HSL.out, HN16.out]; omega)).2.2)
      have HQT0 : Hid (((⟨sa, sc, SS⟩ : Pt).sub (16 * i) (16 * i + 16)).l = T) := HT
      rw [show ((16 * i : Nat) : Int) = 16 * (i : Int) by omega, show ((16 * i + 16 : Nat) : Int) = 16 * (i : Int) + 16 by omega] at hr
      have RLH := Lib.hid hr
      clear hr
      obtain ⟨⟨qa, qc, ql⟩, hq⟩ : ∃ q : Pt, q = (⟨sa, sc, SS⟩ : Pt).sub (16 * i) (16 * i + 16) := ⟨_, rfl⟩
      rw [← hq] at RLH HQ0 HQT0
      have HQ := HQ0
      have HQT := HQT0
      have RLH : Hid (∀ X, (Instr.slice 28 (.slice sa SS.length sc) (some (.int .i64 (16 * (i : Int)))) (some (.int .i64 (16 * (i : Int) + 16))) none).run Try.prog X = .ok (.slice qa ql.length qc) X) := RLH
      have HQ : Hid (∀ X, bytesIn X sa SS → bytesIn X qa ql) := HQ
      have HQT : Hid (ql = T) := HQT
      clear hq HQ0 HQT0 HT
      have q16 : IntKind.i64.wrap (16 * (i : Int)) = 16 * (i : Int) := IntWalk.i64_in _ (by omega)
      have q32 : IntKind.i64.wrap (16 * (i : Int) + 16) = 16 * (i : Int) + 16 := IntWalk.i64_in _ (by omega)
      go_upto_region 12 with fail
      refine wp_region_noPanic ?_
      refine wp_region_held_drew (S := fun w' => bytesIn w' (some ⟨Bt, 0, none⟩) T ∧ bytesIn w' sa SS) (by kernel_rfl) ⟨HTB.out, HSB.out⟩ (fun hH => ?_)
      refine wpAnyH_take (i := 0) (oi := { dst := some 58, op := Op.slice 23 (Operand.tmp 12) none none none, type := 28, pos := "more.go:19", after := #[], guard := none }) (v := .slice (some ⟨Bt, 0, none⟩) 16 16) rfl (by kernel_rfl) (by kernel_rfl) (by kernel_rfl) (fun _ _ _ h => h) (Or.inl ⟨by rfl, fun wx hS => ?_⟩) hH ?_
      · go_simp
      simp only [Act.put, List.setIfInBounds_toArray, List.set_cons_zero, List.set_cons_succ]
      refine wpAnyH_take (i := 1) (oi := { dst := some 59, op := Op.convert 28 9 (Operand.tmp 58), type := 9, pos := "more.go:19", after := #[{ on := 0, ground := Ground.data }], guard := none }) (v := .string (str T)) rfl (by kernel_rfl) (by kernel_rfl) (by kernel_rfl) (fun _ _ _ h => h) (Or.inl ⟨by rfl, fun wx hS => ?_⟩) hH ?_
      · have e1 := conv_string wx (some ⟨Bt, 0, none⟩) T 16 hS.1; rw [HTL.out] at e1; go_simp
      simp only [Act.put, List.setIfInBounds_toArray, List.set_cons_zero, List.set_cons_succ]
      refine wpAnyH_take (i := 2) (oi := { dst := some 60, op := Op.move (Operand.tmp 9), type := 28, pos := "more.go:19", after := #[], guard := none }) (v := .slice sa SS.length sc) rfl (by kernel_rfl) (by kernel_rfl) (by kernel_rfl) (fun _ _ _ h => h) (Or.inl ⟨by rfl, fun wx hS => ?_⟩) hH ?_
      · go_simp
      simp only [Act.put, List.setIfInBounds_toArray, List.set_cons_zero, List.set_cons_succ]
      refine wpAnyH_take (i := 3) (oi := { dst := some 61, op := Op.move (Operand.tmp 11), type := 3, pos := "more.go:19", after := #[], guard := none }) (v := .int .i64 (i : Int)) rfl (by kernel_rfl) (by kernel_rfl) (by kernel_rfl) (fun _ _ _ h => h) (Or.inl ⟨by rfl, fun wx hS => ?_⟩) hH ?_
      · go_simp
      simp only [Act.put, List.setIfInBounds_toArray, List.set_cons_zero, List.set_cons_succ]
      refine wpAnyH_take (i := 4) (oi := { dst := some 62, op := Op.binOp BinOp.mul 3 (Operand.const (Value.int IntKind.i64 16)) (Operand.tmp 61) 3, type := 3, pos := "more.go:19", after := #[{ on := 3, ground := Ground.data }], guard := none }) (v := .int .i64 (16 * (i : Int))) rfl (by kernel_rfl) (by kernel_rfl) (by kernel_rfl) (fun _ _ _ h => h) (Or.inl ⟨by rfl, fun wx hS => ?_⟩) hH ?_
      · have e1 := q16; go_simp
      simp only [Act.put, List.setIfInBounds_toArray, List.set_cons_zero, List.set_cons_succ]
      refine wpAnyH_take (i := 5) (oi := { dst := some 63, op := Op.move (Operand.tmp 11), type := 3, pos := "more.go:19", after := #[], guard := none }) (v := .int .i64 (i : Int)) rfl (by kernel_rfl) (by kernel_rfl) (by kernel_rfl) (fun _ _ _ h => h) (Or.inl ⟨by rfl, fun wx hS => ?_⟩) hH ?_
      · go_simp
      simp only [Act.put, List.setIfInBounds_toArray, List.set_cons_zero, List.set_cons_succ]
      refine wpAnyH_take (i := 6) (oi := { dst := some 64, op := Op.binOp BinOp.mul 3 (Operand.const (Value.int IntKind.i64 16)) (Operand.tmp 63) 3, type := 3, pos := "more.go:19", after := #[{ on := 5, ground := Ground.data }], guard := none }) (v := .int .i64 (16 * (i : Int))) rfl (by kernel_rfl) (by kernel_rfl) (by kernel_rfl) (fun _ _ _ h => h) (Or.inl ⟨by rfl, fun wx hS => ?_⟩) hH ?_
      · have e1 := q16; go_simp
      simp only [Act.put, List.setIfInBounds_toArray, List.set_cons_zero, List.set_cons_succ]
      refine wpAnyH_take (i := 7) (oi := { dst := some 65, op := Op.binOp BinOp.add 3 (Operand.tmp 64) (Operand.const (Value.int IntKind.i64 16)) 3, type := 3, pos := "more.go:19", after := #[{ on := 6, ground := Ground.data }], guard := none }) (v := .int .i64 (16 * (i : Int) + 16)) rfl (by kernel_rfl) (by kernel_rfl) (by kernel_rfl) (fun _ _ _ h => h) (Or.inl ⟨by rfl, fun wx hS => ?_⟩) hH ?_
      · have e1 := q32; go_simp
      simp only [Act.put, List.setIfInBounds_toArray, List.set_cons_zero, List.set_cons_succ]
      refine wpAnyH_take (i := 8) (oi := { dst := some 66, op := Op.slice 28 (Operand.tmp 60) (some (Operand.tmp 62)) (some (Operand.tmp 65)) none, type := 28, pos := "more.go:19", after := #[{ on := 2, ground := Ground.data }, { on := 4, ground := Ground.data }, { on := 7, ground := Ground.data }], guard := none }) (v := .slice qa ql.length qc) rfl (by kernel_rfl) (by kernel_rfl) (by kernel_rfl) (fun _ _ _ h => h) (Or.inl ⟨by rfl, fun wx hS => ?_⟩) hH ?_
      · have e1 := RLH.out wx; go_simp
      simp only [Act.put, List.setIfInBounds_toArray, List.set_cons_zero, List.set_cons_succ]
      refine wpAnyH_take (i := 9) (oi := { dst := some 67, op := Op.convert 28 9 (Operand.tmp 66), type := 9, pos := "more.go:19", after := #[{ on := 8, ground := Ground.data }], guard := none }) (v := .string (str T)) rfl (by kernel_rfl) (by kernel_rfl) (by kernel_rfl) (fun _ _ _ h => h) (Or.inl ⟨by rfl, fun wx hS => ?_⟩) hH ?_
      · have e1 := conv_string wx qa ql qc (HQ.out wx hS.2); rw [HQT.out] at e1; rw [HQT.out]; go_simp
      simp only [Act.put, List.setIfInBounds_toArray, List.set_cons_zero, List.set_cons_succ]
      refine wpAnyH_take (i := 10) (oi := { dst := some 68, op := Op.binOp BinOp.neq 9 (Operand.tmp 59) (Operand.tmp 67) 9, type := 4, pos := "more.go:19", after := #[{ on := 1, ground := Ground.data }, { on := 9, ground := Ground.data }], guard := none }) (v := .bool false) rfl (by kernel_rfl) (by kernel_rfl) (by kernel_rfl) (fun _ _ _ h => h) (Or.inl ⟨by rfl, fun wx hS => ?_⟩) hH ?_
      · go_simp
      simp only [Act.put, List.setIfInBounds_toArray, List.set_cons_zero, List.set_cons_succ]
      refine wpAnyH_done (by kernel_rfl) ?_ _
      refine NoPanic.normal ?_
      have H8 : Hid (But w7.heap.size w7 w10.drew) := Lib.hid (H8.out.drewN 1)
      have H7 : Hid (blockIs w10.drew w7.heap.size (byteCells M) 23) := H7
      clear hH HTB HSB RLH HQ HQT T10 q16 q32
      generalize w10.drew = w11 at *
      go_wp2_with fail
      go_loopw [13] (fun j wr => ∃ k : Nat, k ≤ 16 ∧ j = .int .i64 (15 - (k : Int)) ∧ (addSt M 1 k).1 = 1 ∧ blockIs wr w7.heap.size (byteCells (addSt M 1 k).2) 23 ∧ But w7.heap.size w7 wr) (fun j _ => (intOf j + 1).toNat)
      case atStart => exact ⟨0, by omega, rfl, rfl, H7.out, H8.out⟩
      case round =>
        obtain ⟨k, hk, rfl, hone, h1, h2⟩ := hrel
        have H1 := Lib.hid h1
        have H2 := Lib.hid h2
        clear h1 h2 H7 H8
        by_cases hlk : k < 16
        · have p0 : 0 ≤ 15 - (k : Int) := by omega
          have p1 : 15 - (k : Int) < 16 := by omega
          have p2 : (15 - (k : Int)).toNat = 15 - k := by omega
          have HLN : Hid ((addSt M 1 k).2.length = 16) := Lib.hid (by rw [addSt_len, HML.out])
          have HS : Hid (addSt M 1 (k + 1) = ((1 + ((addSt M 1 k).2.getD (15 - k) 0).toNat) / 256, (addSt M 1 k).2.set (15 - k) (UInt8.ofNat (1 + ((addSt M 1 k).2.getD (15 - k) 0).toNat)))) := Lib.hid (by rw [addSt, hone])
          clear hone
          generalize (addSt M 1 k).2 = l at *
          obtain ⟨b, hb⟩ : ∃ b, b = l.getD (15 - k) 0 := ⟨_, rfl⟩
          have d1 : wr.cell? ⟨w7.heap.size, 15 - k, none⟩ = some (.int .u8 (V b)) := by rw [H1.out.cell, hb]; exact byteCells_get l _ (by rw [HLN.out]; omega)
          rw [← hb] at HS
          clear hb
          obtain ⟨y, hy⟩ : ∃ y, y = UInt8.ofNat (1 + b.toNat) := ⟨_, rfl⟩
          have v1 : IntKind.u8.wrap (V b + 1) = V y := by rw [hy, IntKind.wrap_u8', V_ofNat]; unfold V; omega
          have HY0 : Hid (¬ V y = 0 → (1 + b.toNat) / 256 = 0) := Lib.hid (fun h => by rw [hy, V_ofNat] at h; have := b.toNat_lt; omega)
          have HY1 : Hid (V y = 0 → (1 + b.toNat) / 256 = 1) := Lib.hid (fun h => by rw [hy, V_ofNat] at h; have := b.toNat_lt; omega)
          rw [← hy] at HS
          clear hy
          go_wp2_with (refine wpList_store_cell rfl 5 _ _ rfl w7.heap.size (15 - k) (.int .u8 (V y)) rfl rfl (byteCells l) 23 H1.out (by rw [byteCells_length, HLN.out]; omega) (by kernel_rfl) rfl rfl ?_)
          intro w12 h1 h2 h3
          have h1 := h1.out
          rw [byteCells_set] at h1
          have N1 := Lib.hid h1
          have N2 := Lib.hid (H2.out.trans h2.out)
          have d2 : w12.cell? ⟨w7.heap.size, 15 - k, none⟩ = some (.int .u8 (V y)) := by
            rw [N1.out.cell, byteCells_get _ _ (by rw [List.length_set, HLN.out]; omega)]
            simp [HLN.out, show 15 - k < 16 by omega]
          clear h1 h2 h3 d1 v1 H1 H2
          by_cases e : V y = 0
          · have HC1 := Lib.hid (HY1.out e)
            have z1 : (V y == 0) = true := by simpa using e
            have z2 : (V y = 0) = True := by simpa using e
            have v5 : IntKind.i64.wrap (15 - (k : Int) - 1) = 15 - (k : Int) - 1 := IntWalk.i64_in _ (by omega)
            clear e HY0 HY1
            go_wp2_with fail
            go_roundw
            case rel => exact ⟨k + 1, by omega, by go_num, by rw [HS.out]; exact HC1.out, by rw [HS.out]; exact N1.out, N2.out⟩
            case measure => simp [intOf]; omega
          · have HC0 := Lib.hid (HY0.out e)
            have z1 : (V y == 0) = false := by simpa using e
            have HPK : Hid (plus M 1 = l.set (15 - k) y) := Lib.hid (by
              rw [addSt_still M 1 HML.out (k + 1) (by omega) (by rw [HS.out]; exact HC0.out), HS.out])
            clear HY0 HY1
            have vi : IntKind.i64.wrap ((i : Int) + 1) = (i : Int) + 1 := IntWalk.i64_in _ (by omega)
            go_wp2_with fail
            go_roundw
            case rel => exact ⟨i + 1, by omega, by go_num, by rw [HPM.out, HPK.out]; exact N1.out, N2.out⟩
            case measure => simp [intOf]; omega
        · obtain rfl : k = 16 := by omega
          have HPK : Hid ((addSt M 1 16).2 = plus M 1) := Lib.hid rfl
          rw [HPK.out] at H1
          have vi : IntKind.i64.wrap ((i : Int) + 1) = (i : Int) + 1 := IntWalk.i64_in _ (by omega)
          go_wp2_with fail
          go_roundw
          case rel => exact ⟨i + 1, by omega, by go_num, by rw [HPM.out]; exact H1.out, H2.out⟩
          case measure => simp [intOf]; omega
    · obtain rfl : i = cnt := by omega
      have HAT := Lib.hid (at_ok fb g N n wr HNL.out (H2.out.is F7.out (Nat.ne_of_lt F7.out.lt)))
      have HBE := Lib.hid (B7.out.trans (H2.out.below B7.out.size B7.out.size))
      go_wp2_with fail
      with_reducible refine HAT.out.mono ?_
      rintro e w20 ⟨rfl, rfl⟩
      go_wp2_with fail
      go_ret
      exact ⟨rfl, HBE.out⟩
end Go.Proofs.Ytklbbeilbpcnoaa
