/- The law CellTapes: its walk. -/
import Derived.Test.YtjkhokholcchfaaDoorTch
namespace Go.Proofs.YtjkhokholcchfaaDoor
open Go.RowKit Sha

set_option maxRecDepth 100000 in
set_option maxHeartbeats 8000000 in
theorem law_cellTapes (a : Option Addr) (c : Nat) (F0 : List UInt8) (b : Option Addr) (d : Nat) (P : List Int) (w : World) (hF : F0.length ≤ c) (hc : c ≤ 9223372036854775807) (hz : a = none → c = 0) (hin : bytesIn w a F0) (_ : P.length ≤ d) (_ : d ≤ 9223372036854775807) (_ : b = none → d = 0) (hP : intsW w b P) (ht : tables w) :
    Calls Tryd.prog 3 #[.slice a F0.length c, .slice b P.length d] w fun e w' => e = .returned (.bool true) ∧ Below w.heap.size w w' := by
  have q9 := fun (w : World) (a : Option Addr) (n c n' c' : Nat) => Go.Lib.run_eql_slice_nil (P := Tryd.prog) w 22 _ a n c n' c' Tryd.underlying22
  have hf3 : (F0.take 300).length ≤ 300 := by rw [List.length_take]; omega
  have hfl : (F0.take 300).length ≤ F0.length := by rw [List.length_take]; omega
  have OK := Lib.hid (show Pt.ok0 w ⟨a, c, F0.take 300⟩ from ⟨⟨by show (F0.take 300).length ≤ c; omega, hc, hin.take 300⟩, hz⟩)
  have HP := Lib.hid hP
  have HT := Lib.hid ht
  have hfc : (F0.length : Int) ≤ (c : Int) := by omega
  clear hP ht hin hz
  go_enter Tryd.func3, Tryd.ntmps3
  go_upto_region 1 with fail
  go_cut [0] (fun v wx => v = .slice a (F0.take 300).length c ∧ w = wx)
  case first =>
    by_cases h8 : 300 < F0.length
    · have q8 : (300 : Int) < (F0.length : Int) := by omega
      have hc8 : (300 : Int) ≤ (c : Int) := by omega
      go_wp2_with fail
      go_meet
      case rel => exact ⟨slice_lenW (by rw [List.length_take]; omega), rfl⟩
    · have q8 : ¬ (300 : Int) < (F0.length : Int) := by omega
      go_wp2_with fail
      go_meet
      case rel => exact ⟨slice_lenW (by rw [List.length_take]; omega), rfl⟩
  obtain ⟨rfl, rfl⟩ := hcut
  clear hF hc hfc hfl
  generalize F0.take 300 = F at *
  have LIT := Lib.hid (rowM.lit w w.heap.size [] #[] rfl 0 rfl (Nat.le_refl _) (by simp))
  have KLL := Lib.hid (alloc_below w (.cells #[] 5 (0, 0)))
  have IL := Lib.hid (OK.out.1.2.2.below KLL.out)
  have hl9 : ([] : List UInt8).length + F.length ≤ 1000000 := by show 0 + _ ≤ _; omega
  have SZ : Hid (w.heap.size + 1 ≤ (w.alloc (.cells #[] 5 (0, 0))).heap.size) := Lib.hid (by simp)
  go_upto_region 2 with fail
  go_wp2_with (at_builtin; refine append_M0 rfl _ _ rfl w.heap.size _ [] rfl LIT.out a F.length c F rfl rfl IL.out hl9 KLL.out.size ?_; intro v' w2 r1 r2)
  rw [List.nil_append] at r1
  have B2 := Lib.hid (KLL.out.trans (LIT.out.grown r2 KLL.out.size))
  obtain ⟨gg, va, vc, rfl, hg1, hg2, hva⟩ := own_block (g0 := w.heap.size) r1 (Nat.le_refl _) (Nat.le_trans SZ.out (LIT.out.grown r2 KLL.out.size).size)
  obtain ⟨va', vc', hv', h1, h2, h3, h4, -⟩ := r1.bytes
  cases hv'
  have VI := Lib.hid h3
  have VZ := Lib.hid h4
  have HVA := Lib.hid hva
  have HG1 := Lib.hid hg1
  have HG2 := Lib.hid hg2
  clear r1 r2 h1 h2 h3 h4 hva hg1 hg2 LIT KLL IL SZ hl9
  go_upto_region 3 with fail
  have RI := Lib.hid (Sf.rises_any w2)
  go_wp2_with fail
  with_reducible refine RI.out.mono ?_
  rintro e w3 ⟨rfl, k3⟩
  have B3 := Lib.hid (B2.out.trans (k3.mono B2.out.size))
  have VI3 := Lib.hid (VI.out.below k3)
  have HVA3 := Lib.hid (fun h => let ⟨h1, h2⟩ := HVA.out h; And.intro h1 (h2.below k3 (Nat.le_refl _)))
  have HG3 := Lib.hid (Nat.lt_of_lt_of_le HG2.out k3.size)
  clear k3 RI VI HVA HG2 B2
  have NT := Lib.hid (nothing_any w3)
  go_wp2_with fail
  with_reducible refine NT.out.mono ?_
  rintro e w' ⟨rfl, rfl⟩
  go_wp2_with fail
  with_reducible refine (next_nil 5 w3).mono ?_
  rintro e w' ⟨rfl, rfl⟩
  go_wp2_with fail
  with_reducible refine NT.out.mono ?_
  rintro e w' ⟨rfl, rfl⟩
  go_wp2_with fail
  with_reducible refine (nonce_nil w3).mono ?_
  rintro e w4 ⟨rfl, k4⟩
  have B4 := Lib.hid (B3.out.trans (k4.mono B3.out.size))
  have VI4 := Lib.hid (VI3.out.below k4)
  have HVA4 := Lib.hid (fun h => let ⟨h1, h2⟩ := HVA3.out h; And.intro h1 (h2.below k4 (Nat.le_refl _)))
  have HG4 := Lib.hid (Nat.lt_of_lt_of_le HG3.out k4.size)
  have nq := fun X => neq_lit16 X
  have eg := egt16
  clear k4 NT VI3 HVA3 HG3 B3
  have WD := Lib.hid (wind_any va F vc w4 VI4.out VZ.out (by omega))
  go_wp2_with fail
  with_reducible refine WD.out.mono ?_
  rintro e w5 ⟨tb, fa, fc, rfl, hlo, htp, hfa, k5⟩
  have B5 := Lib.hid (B4.out.trans (k5.mono B4.out.size))
  have HVA5 := Lib.hid (fun h => let ⟨h1, h2⟩ := HVA4.out h; And.intro h1 (h2.below k5 (Nat.le_refl _)))
  have TP5 := Lib.hid htp
  have HTG : Hid (tb ≠ gg) := Lib.hid (by have := HG4.out; omega)
  have HFG : Hid (F = [] ∨ ∀ x, fa = some x → x.block ≠ gg) := Lib.hid (.inr fun x e => by have := hfa x e; have := HG4.out; omega)
  have HTW : Hid (w.heap.size ≤ tb) := Lib.hid (Nat.le_trans B4.out.size hlo)
  have HTT : Hid (1 ≠ tb ∧ 0 ≠ tb) := Lib.hid ⟨Nat.ne_of_lt (Nat.lt_of_lt_of_le HT.out.2.2.1 HTW.out), Nat.ne_of_lt (Nat.lt_of_lt_of_le HT.out.2.2.2 HTW.out)⟩
  clear hlo htp hfa k5 WD VI4 VZ HVA4 HG4 B4 nq eg
  go_upto_block 0 with fail
  go_cut [7] (fun v wx => Hid (But gg w5 wx))
  case first =>
    by_cases h0 : F = []
    · have HL0 : Hid (F.length = 0) := Lib.hid (by rw [h0]; rfl)
      clear h0
      go_wp2_with fail
      go_loopw [7] (fun i wr => i = .int .i64 0 ∧ Hid (But gg w5 wr)) (fun _ _ => 0)
      case atStart => exact ⟨rfl, Lib.hid (But.refl _ _)⟩
      case round =>
        obtain ⟨rfl, HB⟩ := hrel
        have q1 : ¬ (0 : Int) < (F.length : Int) := by have := HL0.out; omega
        go_wp2_with fail
        go_meet
        case rel => exact HB
    · obtain ⟨rfl, hr⟩ := HVA5.out h0
      have HR5 := Lib.hid hr
      clear hr HVA5
      go_wp2_with fail
      go_loopw [7] (fun i wr => ∃ k : Nat, k ≤ F.length ∧ i = .int .i64 k ∧ Hid (But gg w5 wr) ∧ ∃ l : List UInt8, l.length = F.length ∧ Hid (rowM wr w.heap.size (.slice (some ⟨gg, 0, none⟩) F.length vc) l)) (fun i _ => F.length - (intOf i).toNat)
      case atStart => exact ⟨0, by omega, rfl, Lib.hid (But.refl _ _), F, rfl, HR5⟩
      case round =>
        obtain ⟨k, hk, rfl, HB, l, hl, HR⟩ := hrel
        by_cases hgo : k < F.length
        · have q1 : (k : Int) < (F.length : Int) := by omega
          have p0 : (0 : Int) ≤ (k : Int) := by omega
          go_wp2_with (refine wpList_store_M rfl _ _ rfl w.heap.size gg k F.length vc 68 l (by first | rfl | (show Value.pointer (some ⟨gg, 0 + k, none⟩) = _; rw [Nat.zero_add])) rfl HR.out (by omega) ?_)
          intro wn h1 h2 h3
          have HB2 := Lib.hid (HB.out.trans h2.out)
          have HR3 := Lib.hid h1.out
          clear h1 h2 h3
          go_wp2_with fail
          go_roundw
          case rel => exact ⟨k + 1, by omega, by go_num, HB2, _, by rw [List.length_set]; exact hl, HR3⟩
          case measure => simp [intOf]; omega
        · have q1 : ¬ (k : Int) < (F.length : Int) := by omega
          go_wp2_with fail
          go_meet
          case rel => exact HB
  have HB := hcut
  clear hcut
  have B6 := Lib.hid (B5.out.trans (HB.out.below HG1.out B5.out.size))
  have TP6 := Lib.hid (TP5.out.other2 HB.out HTG.out HFG.out)
  clear HB TP5 HTG HFG B5 HVA5 HG1
  rename World => w6
  go_upto_region 10 with fail
  go_wp2_with fail
  go_loopw [8, 9] (fun t i wr => ∃ at_ k : Nat, k ≤ P.length ∧ k ≤ 12 ∧ t = .int .i64 at_ ∧ i = .int .i64 k ∧ at_ ≤ 100 * k ∧ Hid (Below w.heap.size w wr) ∧ Hid (tapeAt wr tb fa fc F at_)) (fun _ i _ => 12 - (intOf i).toNat)
  case atStart => exact ⟨0, 0, by omega, by omega, rfl, rfl, by omega, B6, TP6⟩
  case round =>
    obtain ⟨t, k, hkP, hk12, rfl, rfl, ht1, HB, HTP⟩ := hrel
    clear B6 TP6
    by_cases hgo : k < P.length ∧ k < 12
    · obtain ⟨hP, h12⟩ := hgo
      have q1 : (k : Int) < (P.length : Int) := by omega
      have q2 : (k : Int) < 12 := by omega
      have p0 : (0 : Int) ≤ (k : Int) := by omega
      obtain ⟨zb, zo, rfl, hcell⟩ : ∃ zb zo, b = some ⟨zb, zo, none⟩ ∧ ∀ j, j < P.length → w.cell? ⟨zb, zo + j, none⟩ = some (.int .i64 (P.getD j 0)) := by
        rcases HP.out with h | h
        · rw [h] at hP; exact absurd hP (Nat.not_lt_zero _)
        · exact h
      have hck := hcell k hP
      have c1 : wr.cell? ⟨zb, zo + k, none⟩ = some (.int .i64 (P.getD k 0)) := by rw [HB.out.cell (block_lt_of_cell hck)]; exact hck
      clear hcell hck
      generalize P.getD k 0 = z at *
      go_upto_region 14 with fail
      go_cut [10] (fun v wx => v = .int .i64 (min z 100) ∧ wr = wx)
      case first =>
        go_wp2_with fail
        all_goals
          go_meet
          case rel => exact ⟨rfl, rfl⟩
      obtain ⟨rfl, rfl⟩ := hcut
      clear c1 q1 q2
      obtain ⟨zm, hzm⟩ : ∃ zm, zm = min z 100 := ⟨_, rfl⟩
      rw [← hzm]
      obtain ⟨m, hmm⟩ : ∃ m : Nat, m = (max zm 0).toNat := ⟨_, rfl⟩
      have HZ1 : Hid (max zm 0 = (m : Int)) := Lib.hid (by omega)
      have hm100 : m ≤ 100 := by omega
      have HZ2 : Hid (zm < 1 ∧ m = 0 ∨ 1 ≤ m ∧ zm = (m : Int)) := Lib.hid (by omega)
      clear hzm hmm
      have rm : Int.tmod (k : Int) 3 = ((k % 3 : Nat) : Int) := by rw [Int.tmod_eq_emod_of_nonneg (by omega)]; omega
      have DT := Lib.hid (fun n (hn : n ≤ 1000) X => docTape_any F t n X (by omega) (by omega) hn)
      by_cases h3 : k % 3 = 2
      · rw [h3] at rm
        go_upto_region 15 with fail
        have NN := Lib.hid (nonce_any tb fa fc F t wr HTP.out (by omega) (HT.out.below HB.out HT.out.2.2.1 HT.out.2.2.2) HTT.out)
        have NL : Hid ((tbytes F t 16).length = 16) := Lib.hid (tbytes_length _ _ _)
        have hz := Ci.zeroBlk
        go_wp2_with fail
        with_reducible refine NN.out.mono ?_
        rintro e v1 ⟨rfl, hT, k1⟩
        have HB1 := Lib.hid (HB.out.trans (k1.below HTW.out HB.out.size))
        have HT1 := Lib.hid hT
        have DT16 := Lib.hid (DT.out 16 (by omega))
        generalize tbytes F t 16 = N at *
        rw [show ((16 : Nat) : Int) = 16 from rfl] at DT16
        clear hT k1 HB HTP NN
        have G1 := Lib.hid (blockIs.new v1 (zeros 16) 28)
        have A1 := Lib.hid (alloc_below v1 (.cells (zeros 16).toArray 28 (0, 0)))
        go_wp2_with (refine wpList_store_block rfl 28 _ _ rfl v1.heap.size 0 (byteCells N) rfl rfl (zeros 16) 28 G1.out (by rw [infoN, byteCells_length, NL.out]) (by rw [byteCells_length, NL.out]; simp [zeros]) (byteCells_one _) ?_)
        intro v2 h1 h2 h3
        have h1 := h1.out
        rw [splice_all _ _ (by rw [byteCells_length, NL.out]; simp [zeros])] at h1
        obtain ⟨nb, hnb⟩ : ∃ nb, nb = v1.heap.size := ⟨_, rfl⟩
        rw [← hnb] at h1 ⊢
        have NB := Lib.hid h1
        have kk := A1.out.trans (h2.out.below (Nat.le_refl _) A1.out.size)
        have HB2 := Lib.hid (HB1.out.trans (kk.mono HB1.out.size))
        have HT2 := Lib.hid (HT1.out.below kk)
        clear h1 h2 h3 kk hnb G1 A1 HB1 HT1 hz
        have CVN : Hid (∀ X, Below v2.heap.size v2 X → (convert 22 9 (.slice (some ⟨nb, 0, none⟩) 16 16)).run Tryd.prog X = .ok (.string (str N)) X) := Lib.hid (fun X hX => by
          have h := conv_string X (some ⟨nb, 0, none⟩) N 16 (.inr ⟨nb, 0, rfl, fun j hj => by rw [(NB.out.below hX NB.out.lt).cell, Nat.zero_add]; exact byteCells_get _ _ hj⟩)
          rw [NL.out] at h
          exact h)
        have CVF : Hid (∀ X, Below v2.heap.size v2 X → (convert 22 9 (.slice a F.length c)).run Tryd.prog X = .ok (.string (str F)) X) := Lib.hid (fun X hX => conv_string X a F c (OK.out.1.2.2.below (HB2.out.trans (hX.mono HB2.out.size))))
        go_upto_region 17 with fail
        refine wp_region_noPanic ?_
        refine wp_region_held_drew (S := fun w' => Below v2.heap.size v2 w') (by kernel_rfl) (below_drew' (Below.refl _ _)) (fun hH => ?_)
        generalize v2.drew = y0 at *
        refine wpAnyH_take (i := 0) (oi := { dst := some 66, op := Op.slice 28 (Operand.tmp 11) none none none, type := 22, pos := "law.go:140", after := #[], guard := none }) (v := .slice (some ⟨nb, 0, none⟩) 16 16) rfl (by kernel_rfl) (by kernel_rfl) (by kernel_rfl) (fun _ _ _ h => h) (Or.inl ⟨by rfl, fun wx hS => ?_⟩) hH ?_
        · go_simp
        simp only [Act.put, List.setIfInBounds_toArray, List.set_cons_zero, List.set_cons_succ]
        refine wpAnyH_take (i := 1) (oi := { dst := some 67, op := Op.convert 22 9 (Operand.tmp 66), type := 9, pos := "law.go:140", after := #[{ on := 0, ground := Ground.data }], guard := none }) (v := .string (str N)) rfl (by kernel_rfl) (by kernel_rfl) (by kernel_rfl) (fun _ _ _ h => h) (Or.inl ⟨by rfl, fun wx hS => ?_⟩) hH ?_
        · have e1 := CVN.out wx hS; go_simp
        simp only [Act.put, List.setIfInBounds_toArray, List.set_cons_zero, List.set_cons_succ]
        refine wpAnyH_take (i := 2) (oi := { dst := some 68, op := Op.move (Operand.tmp 0), type := 22, pos := "law.go:140", after := #[], guard := none }) (v := .slice a F.length c) rfl (by kernel_rfl) (by kernel_rfl) (by kernel_rfl) (fun _ _ _ h => h) (Or.inl ⟨by rfl, fun wx hS => ?_⟩) hH ?_
        · go_simp
        simp only [Act.put, List.setIfInBounds_toArray, List.set_cons_zero, List.set_cons_succ]
        refine wpAnyH_take (i := 3) (oi := { dst := some 69, op := Op.convert 22 9 (Operand.tmp 68), type := 9, pos := "law.go:140", after := #[{ on := 2, ground := Ground.data }], guard := none }) (v := .string (str F)) rfl (by kernel_rfl) (by kernel_rfl) (by kernel_rfl) (fun _ _ _ h => h) (Or.inl ⟨by rfl, fun wx hS => ?_⟩) hH ?_
        · have e1 := CVF.out wx hS; go_simp
        simp only [Act.put, List.setIfInBounds_toArray, List.set_cons_zero, List.set_cons_succ]
        refine wpAnyH_take (i := 4) (oi := { dst := some 70, op := Op.move (Operand.tmp 8), type := 3, pos := "law.go:140", after := #[], guard := none }) (v := .int .i64 (t : Int)) rfl (by kernel_rfl) (by kernel_rfl) (by kernel_rfl) (fun _ _ _ h => h) (Or.inl ⟨by rfl, fun wx hS => ?_⟩) hH ?_
        · go_simp
        simp only [Act.put, List.setIfInBounds_toArray, List.set_cons_zero, List.set_cons_succ]
        refine wpAnyH_ready (rs := [5]) (by kernel_rfl) (by simp) ?_
        refine AllReadyH.cons (o := { dst := some 71, op := Op.call { callee := Callee.value (Operand.func 17), args := #[Operand.tmp 69, Operand.tmp 70, Operand.const (Value.int IntKind.i64 16)], argTypes := #[9, 3, 3] }, type := 9, pos := "law.go:140", after := #[{ on := 3, ground := Ground.data }, { on := 4, ground := Ground.data }], guard := none }) rfl (fun KK hKK => ?_) AllReadyH.nil
        go_simp
        with_reducible refine (DT16.out y0).mono ?_
        rintro e y1 ⟨rfl, kb⟩
        have hN := hH.trans (kb.mono hH.size)
        clear hH kb
        refine hKK.out _ _ hN (fun hH => ?_)
        clear hKK KK hN
        try simp only [Act.put, List.setIfInBounds_toArray, List.set_cons_zero, List.set_cons_succ]
        refine wpAnyH_take (i := 6) (oi := { dst := some 72, op := Op.binOp BinOp.neq 9 (Operand.tmp 67) (Operand.tmp 71) 9, type := 4, pos := "law.go:140", after := #[{ on := 1, ground := Ground.data }, { on := 5, ground := Ground.data }], guard := none }) (v := .bool false) rfl (by kernel_rfl) (by kernel_rfl) (by kernel_rfl) (fun _ _ _ h => h) (Or.inl ⟨by rfl, fun wx hS => ?_⟩) hH ?_
        · have e1 : ((str N).toList == (str N).toList) = true := (by simp); go_simp
        simp only [Act.put, List.setIfInBounds_toArray, List.set_cons_zero, List.set_cons_succ]
        refine wpAnyH_done (by kernel_rfl) ?_ _
        refine NoPanic.normal ?_
        have HB3 := Lib.hid (HB2.out.trans (hH.mono HB2.out.size))
        have HT3 := Lib.hid (HT2.out.below hH)
        clear hH CVN CVF NB HB2 HT2 DT16
        go_wp2_with fail
        go_roundw
        case rel => exact ⟨t + 16, k + 1, by omega, by omega, by go_num, by go_num, by omega, HB3, HT3⟩
        case measure => simp [intOf]; omega
      · have h3' : ¬ ((k % 3 : Nat) : Int) = 2 := by omega
        go_upto_region 15 with fail
        go_upto_region 20 with fail
        go_cut [12] (fun v wx => ∃ ya yc, v = .slice ya m yc ∧ Hid (bytesIn wx ya (tbytes F t m)) ∧ Hid (tapeAt wx tb fa fc F (t + m)) ∧ Hid (But tb wr wx))
        case first =>
          rcases HZ2.out with ⟨h1, h2⟩ | ⟨h1, h2⟩
          · have NF := Lib.hid (next_few tb zm h1 wr)
            have HM0 := Lib.hid h2
            clear h1 h2
            go_wp2_with fail
            with_reducible refine NF.out.mono ?_
            rintro e w' ⟨rfl, rfl⟩
            go_wp2_with fail
            go_meet
            case rel => exact ⟨none, 0, by rw [HM0.out], Lib.hid (.inl (by rw [HM0.out]; rfl)), by rw [HM0.out]; exact HTP, Lib.hid (But.refl _ _)⟩
          · have NF := Lib.hid (next_any tb fa fc F t m wr HTP.out h1 (by omega) (by omega) (HT.out.below HB.out HT.out.2.2.1 HT.out.2.2.2) HTT.out)
            rw [← h2] at NF
            clear h1 h2
            go_wp2_with fail
            with_reducible refine NF.out.mono ?_
            rintro e w' ⟨v, rfl, hv, hT, k1⟩
            obtain ⟨ya, yc, rfl, -, -, hy, -⟩ := hv.form
            have HY := Lib.hid hy
            have HT1 := Lib.hid hT
            have HK1 := Lib.hid k1
            clear hv hy hT k1 NF
            go_wp2_with fail
            go_meet
            case rel => exact ⟨ya, yc, by rw [tbytes_length], HY, HT1, HK1⟩
        obtain ⟨ya, yc, rfl, HY, HT1, HK⟩ := hcut
        rename World => v1
        have HB1 := Lib.hid (HB.out.trans (HK.out.below HTW.out HB.out.size))
        clear HB HTP HK HZ2
        go_upto_region 21 with fail
        go_cut [10] (fun v wx => v = .int .i64 (m : Int) ∧ v1 = wx)
        case first =>
          go_wp2_with fail
          all_goals
            go_meet
            case rel => exact ⟨by rw [← HZ1.out], rfl⟩
        obtain ⟨rfl, rfl⟩ := hcut
        have DTM := Lib.hid (DT.out m (by omega))
        have TL : Hid ((tbytes F t m).length = m) := Lib.hid (tbytes_length _ _ _)
        generalize tbytes F t m = N at *
        have CVN : Hid (∀ X, Below v1.heap.size v1 X → (convert 22 9 (.slice ya m yc)).run Tryd.prog X = .ok (.string (str N)) X) := Lib.hid (fun X hX => by
          have h := conv_string X ya N yc (HY.out.below hX)
          rw [TL.out] at h
          exact h)
        have CVF : Hid (∀ X, Below v1.heap.size v1 X → (convert 22 9 (.slice a F.length c)).run Tryd.prog X = .ok (.string (str F)) X) := Lib.hid (fun X hX => conv_string X a F c (OK.out.1.2.2.below (HB1.out.trans (hX.mono HB1.out.size))))
        clear HY HZ1
        go_upto_region 22 with fail
        refine wp_region_noPanic ?_
        refine wp_region_held_drew (S := fun w' => Below v1.heap.size v1 w') (by kernel_rfl) (below_drew' (Below.refl _ _)) (fun hH => ?_)
        generalize v1.drew = y0 at *
        refine wpAnyH_take (i := 0) (oi := { dst := some 80, op := Op.move (Operand.tmp 12), type := 22, pos := "law.go:148", after := #[], guard := none }) (v := .slice ya m yc) rfl (by kernel_rfl) (by kernel_rfl) (by kernel_rfl) (fun _ _ _ h => h) (Or.inl ⟨by rfl, fun wx hS => ?_⟩) hH ?_
        · go_simp
        simp only [Act.put, List.setIfInBounds_toArray, List.set_cons_zero, List.set_cons_succ]
        refine wpAnyH_take (i := 1) (oi := { dst := some 81, op := Op.convert 22 9 (Operand.tmp 80), type := 9, pos := "law.go:148", after := #[{ on := 0, ground := Ground.data }], guard := none }) (v := .string (str N)) rfl (by kernel_rfl) (by kernel_rfl) (by kernel_rfl) (fun _ _ _ h => h) (Or.inl ⟨by rfl, fun wx hS => ?_⟩) hH ?_
        · have e1 := CVN.out wx hS; go_simp
        simp only [Act.put, List.setIfInBounds_toArray, List.set_cons_zero, List.set_cons_succ]
        refine wpAnyH_take (i := 2) (oi := { dst := some 82, op := Op.move (Operand.tmp 0), type := 22, pos := "law.go:148", after := #[], guard := none }) (v := .slice a F.length c) rfl (by kernel_rfl) (by kernel_rfl) (by kernel_rfl) (fun _ _ _ h => h) (Or.inl ⟨by rfl, fun wx hS => ?_⟩) hH ?_
        · go_simp
        simp only [Act.put, List.setIfInBounds_toArray, List.set_cons_zero, List.set_cons_succ]
        refine wpAnyH_take (i := 3) (oi := { dst := some 83, op := Op.convert 22 9 (Operand.tmp 82), type := 9, pos := "law.go:148", after := #[{ on := 2, ground := Ground.data }], guard := none }) (v := .string (str F)) rfl (by kernel_rfl) (by kernel_rfl) (by kernel_rfl) (fun _ _ _ h => h) (Or.inl ⟨by rfl, fun wx hS => ?_⟩) hH ?_
        · have e1 := CVF.out wx hS; go_simp
        simp only [Act.put, List.setIfInBounds_toArray, List.set_cons_zero, List.set_cons_succ]
        refine wpAnyH_take (i := 4) (oi := { dst := some 84, op := Op.move (Operand.tmp 8), type := 3, pos := "law.go:148", after := #[], guard := none }) (v := .int .i64 (t : Int)) rfl (by kernel_rfl) (by kernel_rfl) (by kernel_rfl) (fun _ _ _ h => h) (Or.inl ⟨by rfl, fun wx hS => ?_⟩) hH ?_
        · go_simp
        simp only [Act.put, List.setIfInBounds_toArray, List.set_cons_zero, List.set_cons_succ]
        refine wpAnyH_take (i := 5) (oi := { dst := some 85, op := Op.move (Operand.tmp 10), type := 3, pos := "law.go:148", after := #[], guard := none }) (v := .int .i64 (m : Int)) rfl (by kernel_rfl) (by kernel_rfl) (by kernel_rfl) (fun _ _ _ h => h) (Or.inl ⟨by rfl, fun wx hS => ?_⟩) hH ?_
        · go_simp
        simp only [Act.put, List.setIfInBounds_toArray, List.set_cons_zero, List.set_cons_succ]
        refine wpAnyH_ready (rs := [6]) (by kernel_rfl) (by simp) ?_
        refine AllReadyH.cons (o := { dst := some 86, op := Op.call { callee := Callee.value (Operand.func 17), args := #[Operand.tmp 83, Operand.tmp 84, Operand.tmp 85], argTypes := #[9, 3, 3] }, type := 9, pos := "law.go:148", after := #[{ on := 3, ground := Ground.data }, { on := 4, ground := Ground.data }, { on := 5, ground := Ground.data }], guard := none }) rfl (fun KK hKK => ?_) AllReadyH.nil
        go_simp
        with_reducible refine (DTM.out y0).mono ?_
        rintro e y1 ⟨rfl, kb⟩
        have hN := hH.trans (kb.mono hH.size)
        clear hH kb
        refine hKK.out _ _ hN (fun hH => ?_)
        clear hKK KK hN
        try simp only [Act.put, List.setIfInBounds_toArray, List.set_cons_zero, List.set_cons_succ]
        refine wpAnyH_take (i := 7) (oi := { dst := some 87, op := Op.binOp BinOp.neq 9 (Operand.tmp 81) (Operand.tmp 86) 9, type := 4, pos := "law.go:148", after := #[{ on := 1, ground := Ground.data }, { on := 6, ground := Ground.data }], guard := none }) (v := .bool false) rfl (by kernel_rfl) (by kernel_rfl) (by kernel_rfl) (fun _ _ _ h => h) (Or.inl ⟨by rfl, fun wx hS => ?_⟩) hH ?_
        · have e1 : ((str N).toList == (str N).toList) = true := (by simp); go_simp
        simp only [Act.put, List.setIfInBounds_toArray, List.set_cons_zero, List.set_cons_succ]
        refine wpAnyH_done (by kernel_rfl) ?_ _
        refine NoPanic.normal ?_
        have HB3 := Lib.hid (HB1.out.trans (hH.mono HB1.out.size))
        have HT3 := Lib.hid (HT1.out.below hH)
        clear hH CVN CVF HB1 HT1 DTM
        go_wp2_with fail
        go_roundw
        case rel => exact ⟨t + m, k + 1, by omega, by omega, by go_num, by go_num, by omega, HB3, HT3⟩
        case measure => simp [intOf]; omega
    · by_cases h12 : k < 12
      · have q2 : (k : Int) < 12 := by omega
        have q1 : ¬ (k : Int) < (P.length : Int) := by omega
        (as_aux_lemma =>
          have WD2 := Lib.hid (fun X (hX : Below wr.heap.size wr X) => wind_any a F c X (OK.out.1.2.2.below (HB.out.trans (hX.mono HB.out.size))) OK.out.2 (by omega))
          have TW := Lib.hid (HT.out.below HB.out HT.out.2.2.1 HT.out.2.2.2)
          have CVF : Hid (∀ X, Below wr.heap.size wr X → (convert 22 9 (.slice a F.length c)).run Tryd.prog X = .ok (.string (str F)) X) := Lib.hid (fun X hX => conv_string X a F c (OK.out.1.2.2.below (HB.out.trans (hX.mono HB.out.size))))
          have CAT : Hid (str F ++ ⟨#[0, 0, 0, 0, 0, 0, 0, 0]⟩ = str (F ++ List.replicate 8 0)) := Lib.hid (by rw [← tail8, str_append])
          have OF := Lib.hid (fun X => rof_any (F ++ List.replicate 8 0) X (by rw [List.length_append, List.length_replicate]; omega))
          rw [← tbytes_first] at OF
          have TL : Hid ((tbytes F 0 32).length = 32) := Lib.hid (tbytes_length _ _ _)
          have TN : Hid (tbytes F 0 32 ≠ []) := Lib.hid (fun h => by have := TL.out; rw [h] at this; cases this)
          obtain ⟨T, hT⟩ : ∃ T, T = tbytes F 0 32 := ⟨_, rfl⟩
          have NX2 := Lib.hid (fun tb2 f2 g2 X (h1 : tapeAt X tb2 f2 g2 F 0) (h2 : tables X) h3 => next_any tb2 f2 g2 F 0 32 X h1 (by omega) (by omega) (by omega) h2 h3)
          rw [← hT, show ((32 : Nat) : Int) = 32 from rfl] at NX2
          rw [← hT] at OF TL TN
          obtain ⟨FZ, hFZ⟩ : ∃ FZ, FZ = F ++ List.replicate 8 0 := ⟨_, rfl⟩
          rw [← hFZ] at CAT OF
          clear hT hFZ
          go_upto_region 25 with fail
          refine wp_region_noPanic ?_
          refine wp_region_held_drew (S := fun w' => Below wr.heap.size wr w') (by kernel_rfl) (below_drew' (Below.refl _ _)) (fun hH => ?_)
          generalize wr.drew = y0 at *
          refine wpAnyH_take (i := 0) (oi := { dst := some 91, op := Op.move (Operand.tmp 0), type := 22, pos := "law.go:153", after := #[], guard := none }) (v := .slice a F.length c) rfl (by kernel_rfl) (by kernel_rfl) (by kernel_rfl) (fun _ _ _ h => h) (Or.inl ⟨by rfl, fun wx hS => ?_⟩) hH ?_
          · go_simp
          simp only [Act.put, List.setIfInBounds_toArray, List.set_cons_zero, List.set_cons_succ]
          refine wpAnyH_take (i := 4) (oi := { dst := some 95, op := Op.move (Operand.tmp 0), type := 22, pos := "law.go:153", after := #[], guard := none }) (v := .slice a F.length c) rfl (by kernel_rfl) (by kernel_rfl) (by kernel_rfl) (fun _ _ _ h => h) (Or.inl ⟨by rfl, fun wx hS => ?_⟩) hH ?_
          · go_simp
          simp only [Act.put, List.setIfInBounds_toArray, List.set_cons_zero, List.set_cons_succ]
          refine wpAnyH_take (i := 5) (oi := { dst := some 96, op := Op.convert 22 9 (Operand.tmp 95), type := 9, pos := "law.go:153", after := #[{ on := 4, ground := Ground.data }], guard := none }) (v := .string (str F)) rfl (by kernel_rfl) (by kernel_rfl) (by kernel_rfl) (fun _ _ _ h => h) (Or.inl ⟨by rfl, fun wx hS => ?_⟩) hH ?_
          · have e1 := CVF.out wx hS; go_simp
          simp only [Act.put, List.setIfInBounds_toArray, List.set_cons_zero, List.set_cons_succ]
          refine wpAnyH_take (i := 6) (oi := { dst := some 97, op := Op.binOp BinOp.add 9 (Operand.tmp 96) (Operand.const (Value.string { data := #[0, 0, 0, 0, 0, 0, 0, 0] })) 9, type := 9, pos := "law.go:153", after := #[{ on := 5, ground := Ground.data }], guard := none }) (v := .string (str FZ)) rfl (by kernel_rfl) (by kernel_rfl) (by kernel_rfl) (fun _ _ _ h => h) (Or.inl ⟨by rfl, fun wx hS => ?_⟩) hH ?_
          · have e1 := CAT.out; go_simp; have e2 := str_size F; omega
          simp only [Act.put, List.setIfInBounds_toArray, List.set_cons_zero, List.set_cons_succ]
          refine wpAnyH_ready (rs := [1]) (by kernel_rfl) (by simp) ?_
          refine AllReadyH.cons (o := { dst := some 92, op := Op.call { callee := Callee.value (Operand.func 16), args := #[Operand.tmp 91], argTypes := #[22] }, type := 25, pos := "law.go:153", after := #[{ on := 0, ground := Ground.data }], guard := none }) rfl (fun KK hKK => ?_) AllReadyH.nil
          go_simp
          with_reducible refine (WD2.out y0 hH).mono ?_
          rintro e y1 ⟨ub, ga, gc, rfl, hlo, htp, hfa, kb⟩
          replace hlo := Nat.le_trans hH.size hlo
          clear hfa
          have hN := hH.trans (kb.mono hH.size)
          clear hH kb
          refine hKK.out _ _ hN (fun hH => ?_)
          clear hKK KK hN
          try simp only [Act.put, List.setIfInBounds_toArray, List.set_cons_zero, List.set_cons_succ]
          have TB := TW.out.below hH TW.out.2.2.1 TW.out.2.2.2
          have HU : Hid (1 ≠ ub ∧ 0 ≠ ub) := Lib.hid ⟨Nat.ne_of_lt (Nat.lt_of_lt_of_le TW.out.2.2.1 hlo), Nat.ne_of_lt (Nat.lt_of_lt_of_le TW.out.2.2.2 hlo)⟩
          have NY := Lib.hid (NX2.out ub ga gc y1 htp TB HU.out)
          clear TB
          refine wpAnyH_ready (rs := [2]) (by kernel_rfl) (by simp) ?_
          refine AllReadyH.cons (o := { dst := some 93, op := Op.call { callee := Callee.value (Operand.func 14), args := #[Operand.tmp 92, Operand.const (Value.int IntKind.i64 32)], argTypes := #[25, 3] }, type := 22, pos := "law.go:153", after := #[{ on := 1, ground := Ground.data }, { on := 1, ground := Ground.chain }], guard := none }) rfl (fun KK hKK => ?_) AllReadyH.nil
          go_simp
          with_reducible refine NY.out.mono ?_
          rintro e y2 ⟨v, rfl, hv, -, kb⟩
          obtain ⟨ya, yc, rfl, -, -, hy, -⟩ := hv.form
          have hN : Below wr.heap.size wr y2 := hH.trans (kb.below hlo hH.size)
          clear hH kb NY hv htp hlo
          refine hKK.out _ _ hN (fun hH => ?_)
          clear hKK KK hN
          try simp only [Act.put, List.setIfInBounds_toArray, List.set_cons_zero, List.set_cons_succ]
          refine wpAnyH_stronger (S' := fun X => Below wr.heap.size wr X ∧ bytesIn X ya T) (fun _ h => h.1) _ _ _ _ ?_
          have hH2 : Below wr.heap.size wr y2 ∧ bytesIn y2 ya T := ⟨hH, hy⟩
          clear hH hy
          have hH := hH2
          clear hH2
          refine wpAnyH_take (i := 3) (oi := { dst := some 94, op := Op.convert 22 9 (Operand.tmp 93), type := 9, pos := "law.go:153", after := #[{ on := 2, ground := Ground.data }], guard := none }) (v := .string (str T)) rfl (by kernel_rfl) (by kernel_rfl) (by kernel_rfl) (fun _ _ _ h => h) (Or.inl ⟨by rfl, fun wx hS => ?_⟩) hH ?_
          · have e1 := conv_string wx ya T yc hS.2; go_simp
          simp only [Act.put, List.setIfInBounds_toArray, List.set_cons_zero, List.set_cons_succ]
          refine wpAnyH_ready (rs := [7]) (by kernel_rfl) (by simp) ?_
          refine AllReadyH.cons (o := { dst := some 98, op := Op.call { callee := Callee.value (Operand.func 18), args := #[Operand.tmp 97], argTypes := #[9] }, type := 9, pos := "law.go:153", after := #[{ on := 6, ground := Ground.data }, { on := 2, ground := Ground.chain }], guard := none }) rfl (fun KK hKK => ?_) AllReadyH.nil
          go_simp
          with_reducible refine (OF.out y2).mono ?_
          rintro e y3 ⟨rfl, kb⟩
          have hN : Below wr.heap.size wr y3 ∧ bytesIn y3 ya T := ⟨hH.1.trans (kb.mono hH.1.size), hH.2.below kb⟩
          clear hH kb
          refine hKK.out _ _ hN (fun hH => ?_)
          clear hKK KK hN
          try simp only [Act.put, List.setIfInBounds_toArray, List.set_cons_zero, List.set_cons_succ]
          refine wpAnyH_take (i := 8) (oi := { dst := some 99, op := Op.binOp BinOp.eql 9 (Operand.tmp 94) (Operand.tmp 98) 9, type := 4, pos := "law.go:153", after := #[{ on := 3, ground := Ground.data }, { on := 7, ground := Ground.data }], guard := none }) (v := .bool true) rfl (by kernel_rfl) (by kernel_rfl) (by kernel_rfl) (fun _ _ _ h => h) (Or.inl ⟨by rfl, fun wx hS => ?_⟩) hH ?_
          · have e1 : ((str T).toList == (str T).toList) = true := (by simp); go_simp
          simp only [Act.put, List.setIfInBounds_toArray, List.set_cons_zero, List.set_cons_succ]
          refine wpAnyH_ready (rs := [9]) (by kernel_rfl) (by simp) ?_
          refine AllReadyH.cons (o := { dst := some 4, op := Op.assign (Operand.tmp 99), type := 4, pos := "law.go:153", after := #[{ on := 8, ground := Ground.data }, { on := 7, ground := Ground.chain }, { on := 0, ground := Ground.phase }, { on := 1, ground := Ground.phase }, { on := 2, ground := Ground.phase }, { on := 3, ground := Ground.phase }, { on := 4, ground := Ground.phase }, { on := 5, ground := Ground.phase }, { on := 6, ground := Ground.phase }, { on := 7, ground := Ground.phase }, { on := 8, ground := Ground.phase }], guard := none }) rfl (fun KK hKK => ?_) AllReadyH.nil
          go_simp
          refine hKK.out _ _ hH (fun hH => ?_)
          clear hKK KK
          try simp only [Act.put, List.setIfInBounds_toArray, List.set_cons_zero, List.set_cons_succ]
          refine wpAnyH_done (by kernel_rfl) ?_ _
          refine NoPanic.normal ?_
          have HBE := HB.out.trans (hH.1.mono HB.out.size)
          clear hH
          go_wp2_with fail
          go_ret
          exact ⟨rfl, HBE⟩)
      · have q2 : ¬ (k : Int) < 12 := by omega
        by_cases hP : k < P.length
        · have q1 : (k : Int) < (P.length : Int) := by omega
          (as_aux_lemma =>
            have WD2 := Lib.hid (fun X (hX : Below wr.heap.size wr X) => wind_any a F c X (OK.out.1.2.2.below (HB.out.trans (hX.mono HB.out.size))) OK.out.2 (by omega))
            have TW := Lib.hid (HT.out.below HB.out HT.out.2.2.1 HT.out.2.2.2)
            have CVF : Hid (∀ X, Below wr.heap.size wr X → (convert 22 9 (.slice a F.length c)).run Tryd.prog X = .ok (.string (str F)) X) := Lib.hid (fun X hX => conv_string X a F c (OK.out.1.2.2.below (HB.out.trans (hX.mono HB.out.size))))
            have CAT : Hid (str F ++ ⟨#[0, 0, 0, 0, 0, 0, 0, 0]⟩ = str (F ++ List.replicate 8 0)) := Lib.hid (by rw [← tail8, str_append])
            have OF := Lib.hid (fun X => rof_any (F ++ List.replicate 8 0) X (by rw [List.length_append, List.length_replicate]; omega))
            rw [← tbytes_first] at OF
            have TL : Hid ((tbytes F 0 32).length = 32) := Lib.hid (tbytes_length _ _ _)
            have TN : Hid (tbytes F 0 32 ≠ []) := Lib.hid (fun h => by have := TL.out; rw [h] at this; cases this)
            obtain ⟨T, hT⟩ : ∃ T, T = tbytes F 0 32 := ⟨_, rfl⟩
            have NX2 := Lib.hid (fun tb2 f2 g2 X (h1 : tapeAt X tb2 f2 g2 F 0) (h2 : tables X) h3 => next_any tb2 f2 g2 F 0 32 X h1 (by omega) (by omega) (by omega) h2 h3)
            rw [← hT, show ((32 : Nat) : Int) = 32 from rfl] at NX2
            rw [← hT] at OF TL TN
            obtain ⟨FZ, hFZ⟩ : ∃ FZ, FZ = F ++ List.replicate 8 0 := ⟨_, rfl⟩
            rw [← hFZ] at CAT OF
            clear hT hFZ
            go_upto_region 25 with fail
            refine wp_region_noPanic ?_
            refine wp_region_held_drew (S := fun w' => Below wr.heap.size wr w') (by kernel_rfl) (below_drew' (Below.refl _ _)) (fun hH => ?_)
            generalize wr.drew = y0 at *
            refine wpAnyH_take (i := 0) (oi := { dst := some 91, op := Op.move (Operand.tmp 0), type := 22, pos := "law.go:153", after := #[], guard := none }) (v := .slice a F.length c) rfl (by kernel_rfl) (by kernel_rfl) (by kernel_rfl) (fun _ _ _ h => h) (Or.inl ⟨by rfl, fun wx hS => ?_⟩) hH ?_
            · go_simp
            simp only [Act.put, List.setIfInBounds_toArray, List.set_cons_zero, List.set_cons_succ]
            refine wpAnyH_take (i := 4) (oi := { dst := some 95, op := Op.move (Operand.tmp 0), type := 22, pos := "law.go:153", after := #[], guard := none }) (v := .slice a F.length c) rfl (by kernel_rfl) (by kernel_rfl) (by kernel_rfl) (fun _ _ _ h => h) (Or.inl ⟨by rfl, fun wx hS => ?_⟩) hH ?_
            · go_simp
            simp only [Act.put, List.setIfInBounds_toArray, List.set_cons_zero, List.set_cons_succ]
            refine wpAnyH_take (i := 5) (oi := { dst := some 96, op := Op.convert 22 9 (Operand.tmp 95), type := 9, pos := "law.go:153", after := #[{ on := 4, ground := Ground.data }], guard := none }) (v := .string (str F)) rfl (by kernel_rfl) (by kernel_rfl) (by kernel_rfl) (fun _ _ _ h => h) (Or.inl ⟨by rfl, fun wx hS => ?_⟩) hH ?_
            · have e1 := CVF.out wx hS; go_simp
            simp only [Act.put, List.setIfInBounds_toArray, List.set_cons_zero, List.set_cons_succ]
            refine wpAnyH_take (i := 6) (oi := { dst := some 97, op := Op.binOp BinOp.add 9 (Operand.tmp 96) (Operand.const (Value.string { data := #[0, 0, 0, 0, 0, 0, 0, 0] })) 9, type := 9, pos := "law.go:153", after := #[{ on := 5, ground := Ground.data }], guard := none }) (v := .string (str FZ)) rfl (by kernel_rfl) (by kernel_rfl) (by kernel_rfl) (fun _ _ _ h => h) (Or.inl ⟨by rfl, fun wx hS => ?_⟩) hH ?_
            · have e1 := CAT.out; go_simp; have e2 := str_size F; omega
            simp only [Act.put, List.setIfInBounds_toArray, List.set_cons_zero, List.set_cons_succ]
            refine wpAnyH_ready (rs := [1]) (by kernel_rfl) (by simp) ?_
            refine AllReadyH.cons (o := { dst := some 92, op := Op.call { callee := Callee.value (Operand.func 16), args := #[Operand.tmp 91], argTypes := #[22] }, type := 25, pos := "law.go:153", after := #[{ on := 0, ground := Ground.data }], guard := none }) rfl (fun KK hKK => ?_) AllReadyH.nil
            go_simp
            with_reducible refine (WD2.out y0 hH).mono ?_
            rintro e y1 ⟨ub, ga, gc, rfl, hlo, htp, hfa, kb⟩
            replace hlo := Nat.le_trans hH.size hlo
            clear hfa
            have hN := hH.trans (kb.mono hH.size)
            clear hH kb
            refine hKK.out _ _ hN (fun hH => ?_)
            clear hKK KK hN
            try simp only [Act.put, List.setIfInBounds_toArray, List.set_cons_zero, List.set_cons_succ]
            have TB := TW.out.below hH TW.out.2.2.1 TW.out.2.2.2
            have HU : Hid (1 ≠ ub ∧ 0 ≠ ub) := Lib.hid ⟨Nat.ne_of_lt (Nat.lt_of_lt_of_le TW.out.2.2.1 hlo), Nat.ne_of_lt (Nat.lt_of_lt_of_le TW.out.2.2.2 hlo)⟩
            have NY := Lib.hid (NX2.out ub ga gc y1 htp TB HU.out)
            clear TB
            refine wpAnyH_ready (rs := [2]) (by kernel_rfl) (by simp) ?_
            refine AllReadyH.cons (o := { dst := some 93, op := Op.call { callee := Callee.value (Operand.func 14), args := #[Operand.tmp 92, Operand.const (Value.int IntKind.i64 32)], argTypes := #[25, 3] }, type := 22, pos := "law.go:153", after := #[{ on := 1, ground := Ground.data }, { on := 1, ground := Ground.chain }], guard := none }) rfl (fun KK hKK => ?_) AllReadyH.nil
            go_simp
            with_reducible refine NY.out.mono ?_
            rintro e y2 ⟨v, rfl, hv, -, kb⟩
            obtain ⟨ya, yc, rfl, -, -, hy, -⟩ := hv.form
            have hN : Below wr.heap.size wr y2 := hH.trans (kb.below hlo hH.size)
            clear hH kb NY hv htp hlo
            refine hKK.out _ _ hN (fun hH => ?_)
            clear hKK KK hN
            try simp only [Act.put, List.setIfInBounds_toArray, List.set_cons_zero, List.set_cons_succ]
            refine wpAnyH_stronger (S' := fun X => Below wr.heap.size wr X ∧ bytesIn X ya T) (fun _ h => h.1) _ _ _ _ ?_
            have hH2 : Below wr.heap.size wr y2 ∧ bytesIn y2 ya T := ⟨hH, hy⟩
            clear hH hy
            have hH := hH2
            clear hH2
            refine wpAnyH_take (i := 3) (oi := { dst := some 94, op := Op.convert 22 9 (Operand.tmp 93), type := 9, pos := "law.go:153", after := #[{ on := 2, ground := Ground.data }], guard := none }) (v := .string (str T)) rfl (by kernel_rfl) (by kernel_rfl) (by kernel_rfl) (fun _ _ _ h => h) (Or.inl ⟨by rfl, fun wx hS => ?_⟩) hH ?_
            · have e1 := conv_string wx ya T yc hS.2; go_simp
            simp only [Act.put, List.setIfInBounds_toArray, List.set_cons_zero, List.set_cons_succ]
            refine wpAnyH_ready (rs := [7]) (by kernel_rfl) (by simp) ?_
            refine AllReadyH.cons (o := { dst := some 98, op := Op.call { callee := Callee.value (Operand.func 18), args := #[Operand.tmp 97], argTypes := #[9] }, type := 9, pos := "law.go:153", after := #[{ on := 6, ground := Ground.data }, { on := 2, ground := Ground.chain }], guard := none }) rfl (fun KK hKK => ?_) AllReadyH.nil
            go_simp
            with_reducible refine (OF.out y2).mono ?_
            rintro e y3 ⟨rfl, kb⟩
            have hN : Below wr.heap.size wr y3 ∧ bytesIn y3 ya T := ⟨hH.1.trans (kb.mono hH.1.size), hH.2.below kb⟩
            clear hH kb
            refine hKK.out _ _ hN (fun hH => ?_)
            clear hKK KK hN
            try simp only [Act.put, List.setIfInBounds_toArray, List.set_cons_zero, List.set_cons_succ]
            refine wpAnyH_take (i := 8) (oi := { dst := some 99, op := Op.binOp BinOp.eql 9 (Operand.tmp 94) (Operand.tmp 98) 9, type := 4, pos := "law.go:153", after := #[{ on := 3, ground := Ground.data }, { on := 7, ground := Ground.data }], guard := none }) (v := .bool true) rfl (by kernel_rfl) (by kernel_rfl) (by kernel_rfl) (fun _ _ _ h => h) (Or.inl ⟨by rfl, fun wx hS => ?_⟩) hH ?_
            · have e1 : ((str T).toList == (str T).toList) = true := (by simp); go_simp
            simp only [Act.put, List.setIfInBounds_toArray, List.set_cons_zero, List.set_cons_succ]
            refine wpAnyH_ready (rs := [9]) (by kernel_rfl) (by simp) ?_
            refine AllReadyH.cons (o := { dst := some 4, op := Op.assign (Operand.tmp 99), type := 4, pos := "law.go:153", after := #[{ on := 8, ground := Ground.data }, { on := 7, ground := Ground.chain }, { on := 0, ground := Ground.phase }, { on := 1, ground := Ground.phase }, { on := 2, ground := Ground.phase }, { on := 3, ground := Ground.phase }, { on := 4, ground := Ground.phase }, { on := 5, ground := Ground.phase }, { on := 6, ground := Ground.phase }, { on := 7, ground := Ground.phase }, { on := 8, ground := Ground.phase }], guard := none }) rfl (fun KK hKK => ?_) AllReadyH.nil
            go_simp
            refine hKK.out _ _ hH (fun hH => ?_)
            clear hKK KK
            try simp only [Act.put, List.setIfInBounds_toArray, List.set_cons_zero, List.set_cons_succ]
            refine wpAnyH_done (by kernel_rfl) ?_ _
            refine NoPanic.normal ?_
            have HBE := HB.out.trans (hH.1.mono HB.out.size)
            clear hH
            go_wp2_with fail
            go_ret
            exact ⟨rfl, HBE⟩)
        · have q1 : ¬ (k : Int) < (P.length : Int) := by omega
          (as_aux_lemma =>
            have WD2 := Lib.hid (fun X (hX : Below wr.heap.size wr X) => wind_any a F c X (OK.out.1.2.2.below (HB.out.trans (hX.mono HB.out.size))) OK.out.2 (by omega))
            have TW := Lib.hid (HT.out.below HB.out HT.out.2.2.1 HT.out.2.2.2)
            have CVF : Hid (∀ X, Below wr.heap.size wr X → (convert 22 9 (.slice a F.length c)).run Tryd.prog X = .ok (.string (str F)) X) := Lib.hid (fun X hX => conv_string X a F c (OK.out.1.2.2.below (HB.out.trans (hX.mono HB.out.size))))
            have CAT : Hid (str F ++ ⟨#[0, 0, 0, 0, 0, 0, 0, 0]⟩ = str (F ++ List.replicate 8 0)) := Lib.hid (by rw [← tail8, str_append])
            have OF := Lib.hid (fun X => rof_any (F ++ List.replicate 8 0) X (by rw [List.length_append, List.length_replicate]; omega))
            rw [← tbytes_first] at OF
            have TL : Hid ((tbytes F 0 32).length = 32) := Lib.hid (tbytes_length _ _ _)
            have TN : Hid (tbytes F 0 32 ≠ []) := Lib.hid (fun h => by have := TL.out; rw [h] at this; cases this)
            obtain ⟨T, hT⟩ : ∃ T, T = tbytes F 0 32 := ⟨_, rfl⟩
            have NX2 := Lib.hid (fun tb2 f2 g2 X (h1 : tapeAt X tb2 f2 g2 F 0) (h2 : tables X) h3 => next_any tb2 f2 g2 F 0 32 X h1 (by omega) (by omega) (by omega) h2 h3)
            rw [← hT, show ((32 : Nat) : Int) = 32 from rfl] at NX2
            rw [← hT] at OF TL TN
            obtain ⟨FZ, hFZ⟩ : ∃ FZ, FZ = F ++ List.replicate 8 0 := ⟨_, rfl⟩
            rw [← hFZ] at CAT OF
            clear hT hFZ
            go_upto_region 25 with fail
            refine wp_region_noPanic ?_
            refine wp_region_held_drew (S := fun w' => Below wr.heap.size wr w') (by kernel_rfl) (below_drew' (Below.refl _ _)) (fun hH => ?_)
            generalize wr.drew = y0 at *
            refine wpAnyH_take (i := 0) (oi := { dst := some 91, op := Op.move (Operand.tmp 0), type := 22, pos := "law.go:153", after := #[], guard := none }) (v := .slice a F.length c) rfl (by kernel_rfl) (by kernel_rfl) (by kernel_rfl) (fun _ _ _ h => h) (Or.inl ⟨by rfl, fun wx hS => ?_⟩) hH ?_
            · go_simp
            simp only [Act.put, List.setIfInBounds_toArray, List.set_cons_zero, List.set_cons_succ]
            refine wpAnyH_take (i := 4) (oi := { dst := some 95, op := Op.move (Operand.tmp 0), type := 22, pos := "law.go:153", after := #[], guard := none }) (v := .slice a F.length c) rfl (by kernel_rfl) (by kernel_rfl) (by kernel_rfl) (fun _ _ _ h => h) (Or.inl ⟨by rfl, fun wx hS => ?_⟩) hH ?_
            · go_simp
            simp only [Act.put, List.setIfInBounds_toArray, List.set_cons_zero, List.set_cons_succ]
            refine wpAnyH_take (i := 5) (oi := { dst := some 96, op := Op.convert 22 9 (Operand.tmp 95), type := 9, pos := "law.go:153", after := #[{ on := 4, ground := Ground.data }], guard := none }) (v := .string (str F)) rfl (by kernel_rfl) (by kernel_rfl) (by kernel_rfl) (fun _ _ _ h => h) (Or.inl ⟨by rfl, fun wx hS => ?_⟩) hH ?_
            · have e1 := CVF.out wx hS; go_simp
            simp only [Act.put, List.setIfInBounds_toArray, List.set_cons_zero, List.set_cons_succ]
            refine wpAnyH_take (i := 6) (oi := { dst := some 97, op := Op.binOp BinOp.add 9 (Operand.tmp 96) (Operand.const (Value.string { data := #[0, 0, 0, 0, 0, 0, 0, 0] })) 9, type := 9, pos := "law.go:153", after := #[{ on := 5, ground := Ground.data }], guard := none }) (v := .string (str FZ)) rfl (by kernel_rfl) (by kernel_rfl) (by kernel_rfl) (fun _ _ _ h => h) (Or.inl ⟨by rfl, fun wx hS => ?_⟩) hH ?_
            · have e1 := CAT.out; go_simp; have e2 := str_size F; omega
            simp only [Act.put, List.setIfInBounds_toArray, List.set_cons_zero, List.set_cons_succ]
            refine wpAnyH_ready (rs := [1]) (by kernel_rfl) (by simp) ?_
            refine AllReadyH.cons (o := { dst := some 92, op := Op.call { callee := Callee.value (Operand.func 16), args := #[Operand.tmp 91], argTypes := #[22] }, type := 25, pos := "law.go:153", after := #[{ on := 0, ground := Ground.data }], guard := none }) rfl (fun KK hKK => ?_) AllReadyH.nil
            go_simp
            with_reducible refine (WD2.out y0 hH).mono ?_
            rintro e y1 ⟨ub, ga, gc, rfl, hlo, htp, hfa, kb⟩
            replace hlo := Nat.le_trans hH.size hlo
            clear hfa
            have hN := hH.trans (kb.mono hH.size)
            clear hH kb
            refine hKK.out _ _ hN (fun hH => ?_)
            clear hKK KK hN
            try simp only [Act.put, List.setIfInBounds_toArray, List.set_cons_zero, List.set_cons_succ]
            have TB := TW.out.below hH TW.out.2.2.1 TW.out.2.2.2
            have HU : Hid (1 ≠ ub ∧ 0 ≠ ub) := Lib.hid ⟨Nat.ne_of_lt (Nat.lt_of_lt_of_le TW.out.2.2.1 hlo), Nat.ne_of_lt (Nat.lt_of_lt_of_le TW.out.2.2.2 hlo)⟩
            have NY := Lib.hid (NX2.out ub ga gc y1 htp TB HU.out)
            clear TB
            refine wpAnyH_ready (rs := [2]) (by kernel_rfl) (by simp) ?_
            refine AllReadyH.cons (o := { dst := some 93, op := Op.call { callee := Callee.value (Operand.func 14), args := #[Operand.tmp 92, Operand.const (Value.int IntKind.i64 32)], argTypes := #[25, 3] }, type := 22, pos := "law.go:153", after := #[{ on := 1, ground := Ground.data }, { on := 1, ground := Ground.chain }], guard := none }) rfl (fun KK hKK => ?_) AllReadyH.nil
            go_simp
            with_reducible refine NY.out.mono ?_
            rintro e y2 ⟨v, rfl, hv, -, kb⟩
            obtain ⟨ya, yc, rfl, -, -, hy, -⟩ := hv.form
            have hN : Below wr.heap.size wr y2 := hH.trans (kb.below hlo hH.size)
            clear hH kb NY hv htp hlo
            refine hKK.out _ _ hN (fun hH => ?_)
            clear hKK KK hN
            try simp only [Act.put, List.setIfInBounds_toArray, List.set_cons_zero, List.set_cons_succ]
            refine wpAnyH_stronger (S' := fun X => Below wr.heap.size wr X ∧ bytesIn X ya T) (fun _ h => h.1) _ _ _ _ ?_
            have hH2 : Below wr.heap.size wr y2 ∧ bytesIn y2 ya T := ⟨hH, hy⟩
            clear hH hy
            have hH := hH2
            clear hH2
            refine wpAnyH_take (i := 3) (oi := { dst := some 94, op := Op.convert 22 9 (Operand.tmp 93), type := 9, pos := "law.go:153", after := #[{ on := 2, ground := Ground.data }], guard := none }) (v := .string (str T)) rfl (by kernel_rfl) (by kernel_rfl) (by kernel_rfl) (fun _ _ _ h => h) (Or.inl ⟨by rfl, fun wx hS => ?_⟩) hH ?_
            · have e1 := conv_string wx ya T yc hS.2; go_simp
            simp only [Act.put, List.setIfInBounds_toArray, List.set_cons_zero, List.set_cons_succ]
            refine wpAnyH_ready (rs := [7]) (by kernel_rfl) (by simp) ?_
            refine AllReadyH.cons (o := { dst := some 98, op := Op.call { callee := Callee.value (Operand.func 18), args := #[Operand.tmp 97], argTypes := #[9] }, type := 9, pos := "law.go:153", after := #[{ on := 6, ground := Ground.data }, { on := 2, ground := Ground.chain }], guard := none }) rfl (fun KK hKK => ?_) AllReadyH.nil
            go_simp
            with_reducible refine (OF.out y2).mono ?_
            rintro e y3 ⟨rfl, kb⟩
            have hN : Below wr.heap.size wr y3 ∧ bytesIn y3 ya T := ⟨hH.1.trans (kb.mono hH.1.size), hH.2.below kb⟩
            clear hH kb
            refine hKK.out _ _ hN (fun hH => ?_)
            clear hKK KK hN
            try simp only [Act.put, List.setIfInBounds_toArray, List.set_cons_zero, List.set_cons_succ]
            refine wpAnyH_take (i := 8) (oi := { dst := some 99, op := Op.binOp BinOp.eql 9 (Operand.tmp 94) (Operand.tmp 98) 9, type := 4, pos := "law.go:153", after := #[{ on := 3, ground := Ground.data }, { on := 7, ground := Ground.data }], guard := none }) (v := .bool true) rfl (by kernel_rfl) (by kernel_rfl) (by kernel_rfl) (fun _ _ _ h => h) (Or.inl ⟨by rfl, fun wx hS => ?_⟩) hH ?_
            · have e1 : ((str T).toList == (str T).toList) = true := (by simp); go_simp
            simp only [Act.put, List.setIfInBounds_toArray, List.set_cons_zero, List.set_cons_succ]
            refine wpAnyH_ready (rs := [9]) (by kernel_rfl) (by simp) ?_
            refine AllReadyH.cons (o := { dst := some 4, op := Op.assign (Operand.tmp 99), type := 4, pos := "law.go:153", after := #[{ on := 8, ground := Ground.data }, { on := 7, ground := Ground.chain }, { on := 0, ground := Ground.phase }, { on := 1, ground := Ground.phase }, { on := 2, ground := Ground.phase }, { on := 3, ground := Ground.phase }, { on := 4, ground := Ground.phase }, { on := 5, ground := Ground.phase }, { on := 6, ground := Ground.phase }, { on := 7, ground := Ground.phase }, { on := 8, ground := Ground.phase }], guard := none }) rfl (fun KK hKK => ?_) AllReadyH.nil
            go_simp
            refine hKK.out _ _ hH (fun hH => ?_)
            clear hKK KK
            try simp only [Act.put, List.setIfInBounds_toArray, List.set_cons_zero, List.set_cons_succ]
            refine wpAnyH_done (by kernel_rfl) ?_ _
            refine NoPanic.normal ?_
            have HBE := HB.out.trans (hH.1.mono HB.out.size)
            clear hH
            go_wp2_with fail
            go_ret
            exact ⟨rfl, HBE⟩)
end Go.Proofs.YtjkhokholcchfaaDoor
