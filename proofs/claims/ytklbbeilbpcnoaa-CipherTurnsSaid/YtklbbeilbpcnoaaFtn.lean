/- Blocks compared; Turn of nobody's key; a flow's Turn. -/
import Derived.Test.YtklbbeilbpcnoaaRhd
import Derived.Test.YtklbbeilbpcnoaaRdt
import Derived.Laws.StructEq
namespace Go.Proofs.Ytklbbeilbpcnoaa
open Go.RowKit Sha Aes

theorem run_eqItems_bytes (l m : List UInt8) (w : World) : ∀ (is : List Nat), (∀ i ∈ is, i < l.length ∧ i < m.length) →
    (Op.eqItems 9999 5 (Try.prog.cellsOf 5) (byteCells l).toArray (byteCells m).toArray is).run Try.prog w = .ok (is.all fun i => V (l.getD i 0) == V (m.getD i 0)) w
  | [], _ => by simp [Op.eqItems]
  | i :: is, h => by
    obtain ⟨h1, h2⟩ := h i (by simp)
    have ih := run_eqItems_bytes l m w is (fun j hj => h j (by simp [hj]))
    have hc : Try.prog.cellsOf 5 = 1 := by kernel_rfl
    rw [hc] at ih ⊢
    have p1 : (part 5 (byteCells l).toArray (i * 1)).run Try.prog w = .ok (.int .u8 (V (l.getD i 0))) w := run_part_plain w (by kernel_rfl) (by rw [Nat.mul_one, List.getElem?_toArray]; exact byteCells_get _ _ h1)
    have p2 : (part 5 (byteCells m).toArray (i * 1)).run Try.prog w = .ok (.int .u8 (V (m.getD i 0))) w := run_part_plain w (by kernel_rfl) (by rw [Nat.mul_one, List.getElem?_toArray]; exact byteCells_get _ _ h2)
    have p3 := run_equalIn_int (P := Try.prog) w 9998 5 .u8 .u8 (V (l.getD i 0)) (V (m.getD i 0)) Try.underlying5
    simp only [Op.eqItems, Sem.run_bind, p1, p2, Result.andThen_ok]
    rw [show (9999 : Nat) = 9998 + 1 from rfl, p3]
    simp only [Result.andThen_ok, List.all_cons]
    cases (V (l.getD i 0) == V (m.getD i 0))
    · simp
    · simpa using ih
theorem eq_blk (l m : List UInt8) (hl : l.length = 16) (hm : m.length = 16) (w : World) : (Op.equalIn 10000 23 (.agg (byteCells l).toArray) (.agg (byteCells m).toArray)).run Try.prog w = .ok (l == m) w := by
  obtain ⟨i0, hi, hz0, hz1, hz2⟩ := info_parts info_u8
  rw [show (10000 : Nat) = 9999 + 1 from rfl, run_equalIn_array w 9999 _ _ Try.underlying23 hi, run_eqItems_bytes l m w _ (fun i hi => by have := List.mem_range.1 hi; omega)]
  congr 1
  rw [Bool.eq_iff_iff, List.all_eq_true, beq_iff_eq]
  constructor
  · intro h
    apply List.ext_getElem (by omega)
    intro i h1 h2
    have := h i (List.mem_range.2 (by omega))
    rw [beq_iff_eq] at this
    have := V_inj this
    simpa [h1, h2] using this
  · rintro rfl i _
    simp
theorem egt16 : Try.prog.eqGuardType Try.prog.depth 23 = false := by kernel_rfl
set_option maxRecDepth 100000 in
set_option maxHeartbeats 1000000 in
theorem turn_nil (b : List UInt8) (w : World) (hb : b.length = 16) : Calls Try.prog 13 #[.pointer none, .agg (byteCells b).toArray] w fun e w' => e = .returned (.agg (byteCells (List.replicate 16 0)).toArray) ∧ Below w.heap.size w w' := by
  have hz := zeroBlk
  have HBB : Hid ((byteCells b).length = 16) := Lib.hid (by rw [byteCells_length]; exact hb)
  have E0 := Lib.hid (blockIs.new w (byteCells b) 23)
  have A0 := Lib.hid (alloc_below w (.cells (byteCells b).toArray 23 (0, 0)))
  have S0 : Hid ((w.alloc (.cells (byteCells b).toArray 23 (0, 0))).heap.size = w.heap.size + 1) := Lib.hid (by simp)
  have N1 := Lib.hid (blockIs.new (w.alloc (.cells (byteCells b).toArray 23 (0, 0))) (zeros 16) 23)
  have B1 := Lib.hid (alloc_below (w.alloc (.cells (byteCells b).toArray 23 (0, 0))) (.cells (zeros 16).toArray 23 (0, 0)))
  rw [S0.out] at N1 B1
  have A1 := Lib.hid (A0.out.trans (B1.out.mono (Nat.le_succ _)))
  clear E0 A0 S0 B1 hb
  generalize byteCells b = L at *
  go_enter Try.func13, Try.ntmps13
  go_wp2_with (first | (refine wpList_store_block rfl 23 _ _ rfl (w.heap.size + 1) 0 (zeros 16) rfl rfl (zeros 16) 23 N1.out (by rw [infoBlk]; rfl) (by decide) (by rw [zeros_bytes]; exact byteCells_one _) ?_))
  intro w9 h1 h2 h3
  have h1 := h1.out
  rw [splice_all _ _ rfl] at h1
  have F1 := Lib.hid h1
  have F2 := Lib.hid (A1.out.trans (h2.out.below (Nat.le_succ _) A1.out.size))
  clear h1 h2 h3
  go_wp2_with fail
  refine bodyPost_ret (v := .agg (zeros 16).toArray) (results_cell_row rfl _ _ (w.heap.size + 1) 23 _ (0, 0) _ rfl F1.out Try.underlying23 rfl (by rw [infoBlk]; simp [zeros])) rfl ?_
  exact ⟨by rw [zeros_bytes], F2.out⟩
set_option maxRecDepth 100000 in
set_option maxHeartbeats 2000000 in
theorem flowTurn_any (fb g : Nat) (ws : List W) (N b : List UInt8) (n : Nat) (w : World) (hb : b.length = 16) (hf : blockIs w fb (flowCells g N n) 65) (hk : blockIs w g (keyRow ws) 59) :
    Calls Try.prog 16 #[.pointer (some ⟨fb, 0, none⟩), .agg (byteCells b).toArray] w fun e w' => e = .returned (.agg (byteCells (Aes.turn ws b)).toArray) ∧ Below w.heap.size w w' := by
  have hz := zeroBlk
  have HBL := Lib.hid hb
  have HBB : Hid ((byteCells b).length = 16) := Lib.hid (by rw [byteCells_length]; exact hb)
  have D0 := Lib.hid (blockIs.new w (byteCells b) 23)
  have A0 := Lib.hid (alloc_below w (.cells (byteCells b).toArray 23 (0, 0)))
  have S0 : Hid ((w.alloc (.cells (byteCells b).toArray 23 (0, 0))).heap.size = w.heap.size + 1) := Lib.hid (by simp)
  have E2 := Lib.hid (blockIs.new (w.alloc (.cells (byteCells b).toArray 23 (0, 0))) (zeros 16) 23)
  have B1 := Lib.hid (alloc_below (w.alloc (.cells (byteCells b).toArray 23 (0, 0))) (.cells (zeros 16).toArray 23 (0, 0)))
  rw [S0.out] at E2 B1
  have D2 := Lib.hid (D0.out.below B1.out (Nat.lt_succ_self _))
  have B2 := Lib.hid (A0.out.trans (B1.out.mono (Nat.le_succ _)))
  have HF2 := Lib.hid (hf.below B2.out hf.lt)
  have HK2 := Lib.hid (hk.below B2.out hk.lt)
  have HFL : Hid (fb < w.heap.size + 1) := Lib.hid (by have := hf.lt; omega)
  clear D0 A0 S0 B1 hb hf hk
  go_enter Try.func16, Try.ntmps16
  go_upto_region 3 with fail
  generalize (w.alloc (.cells (byteCells b).toArray 23 (0, 0))).alloc (.cells (zeros 16).toArray 23 (0, 0)) = w2 at *
  clear hz
  refine wp_region_noPanic ?_
  refine wp_region_held_drew (S := fun X => blockIs X fb (flowCells g N n) 65 ∧ blockIs X w.heap.size (byteCells b) 23) (by kernel_rfl) ⟨HF2.out, D2.out⟩ (fun hH => ?_)
  refine wpAnyH_take (i := 0) (oi := { dst := some 8, op := Op.move (Operand.tmp 0), type := 29, pos := "cipher.go:33", after := #[], guard := none }) (v := .pointer (some ⟨fb, 0, none⟩)) rfl (by kernel_rfl) (by kernel_rfl) (by kernel_rfl) (fun _ _ _ h => h) (Or.inl ⟨by rfl, fun wx hS => ?_⟩) hH ?_
  · go_simp
  simp only [Act.put, List.setIfInBounds_toArray, List.set_cons_zero, List.set_cons_succ]
  refine wpAnyH_take (i := 1) (oi := { dst := some 9, op := Op.nilCheck (Operand.tmp 8), type := 0, pos := "cipher.go:33", after := #[{ on := 0, ground := Ground.data }], guard := none }) (v := .pointer (some ⟨fb, 0, none⟩)) rfl (by kernel_rfl) (by kernel_rfl) (by kernel_rfl) (fun _ _ _ h => h) (Or.inl ⟨by rfl, fun wx hS => ?_⟩) hH ?_
  · go_simp
  simp only [Act.put, List.setIfInBounds_toArray, List.set_cons_zero, List.set_cons_succ]
  refine wpAnyH_take (i := 2) (oi := { dst := some 10, op := Op.fieldAddr 65 (Operand.tmp 9) 0, type := 0, pos := "cipher.go:33", after := #[{ on := 1, ground := Ground.data }], guard := none }) (v := .pointer (some ⟨fb, 0, none⟩)) rfl (by kernel_rfl) (by kernel_rfl) (by kernel_rfl) (fun _ _ _ h => h) (Or.inl ⟨by rfl, fun wx hS => ?_⟩) hH ?_
  · go_simp
  simp only [Act.put, List.setIfInBounds_toArray, List.set_cons_zero, List.set_cons_succ]
  refine wpAnyH_take (i := 3) (oi := { dst := some 11, op := Op.load 24 (Operand.tmp 10), type := 24, pos := "cipher.go:33", after := #[{ on := 2, ground := Ground.data }], guard := none }) (v := .pointer (some ⟨g, 0, none⟩)) rfl (by kernel_rfl) (by kernel_rfl) (by kernel_rfl) (fun _ _ _ h => h) (Or.inl ⟨by rfl, fun wx hS => ?_⟩) hH ?_
  · have e1 : wx.cell? ⟨fb, 0, none⟩ = some (.pointer (some ⟨g, 0, none⟩)) := (by rw [blockIs.cell hS.1]; rfl); go_simp
  simp only [Act.put, List.setIfInBounds_toArray, List.set_cons_zero, List.set_cons_succ]
  refine wpAnyH_take (i := 4) (oi := { dst := some 12, op := Op.load 23 (Operand.tmp 3), type := 23, pos := "cipher.go:33", after := #[], guard := none }) (v := .agg (byteCells b).toArray) rfl (by kernel_rfl) (by kernel_rfl) (by kernel_rfl) (fun _ _ _ h => h) (yieldsIf_load_mid (by rfl) 23 _ rfl w.heap.size 0 rfl (byteCells b) _ (fun wx hS => range_of hS.2) Try.underlying23 rfl (by rw [infoBlk, HBB.out])) hH ?_
  simp only [Act.put, List.setIfInBounds_toArray, List.set_cons_zero, List.set_cons_succ]
  refine wpAnyH_ready (rs := [5]) (by kernel_rfl) (by simp) ?_
  refine AllReadyH.cons (o := { dst := some 13, op := Op.call { callee := Callee.value (Operand.func 13), args := #[Operand.tmp 11, Operand.tmp 12], argTypes := #[24, 23] }, type := 23, pos := "cipher.go:33", after := #[{ on := 3, ground := Ground.data }, { on := 4, ground := Ground.data }], guard := none }) rfl (fun KK hKK => ?_) AllReadyH.nil
  go_simp
  refine (turn_any g ws b w2.drew HBL.out HK2.out).mono ?_
  rintro e w3 ⟨rfl, kk⟩
  have E3 := Lib.hid (E2.out.below kk (show w.heap.size + 1 < w2.drew.heap.size from E2.out.lt))
  have B3 := Lib.hid (B2.out.drew.trans (kk.mono B2.out.size))
  have hN := (⟨hH.1.below kk hH.1.lt, hH.2.below kk hH.2.lt⟩ : blockIs w3 fb (flowCells g N n) 65 ∧ blockIs w3 w.heap.size (byteCells b) 23)
  clear kk hH
  refine hKK.out _ _ hN (fun hH => ?_)
  clear hKK KK hN
  try simp only [Act.put, List.setIfInBounds_toArray, List.set_cons_zero, List.set_cons_succ]
  have HTL := Lib.hid (turn_length ws b)
  generalize hT : Aes.turn ws b = T at *
  have HTE := Lib.hid hT
  clear hT
  refine wpAnyH_ready (rs := [6]) (by kernel_rfl) (by simp) ?_
  refine AllReadyH.cons (o := { dst := none, op := Op.store 23 (Operand.tmp 4) (Operand.tmp 13), type := 0, pos := "cipher.go:33", after := #[{ on := 5, ground := Ground.data }, { on := 5, ground := Ground.chain }, { on := 0, ground := Ground.phase }, { on := 1, ground := Ground.phase }, { on := 2, ground := Ground.phase }, { on := 3, ground := Ground.phase }, { on := 4, ground := Ground.phase }, { on := 5, ground := Ground.phase }], guard := none }) rfl (fun KK hKK => ?_) AllReadyH.nil
  refine step_store_block rfl 23 _ _ rfl (w.heap.size + 1) 0 (byteCells T) rfl rfl (zeros 16) 23 E3.out (by rw [infoBlk, byteCells_length, HTL.out]) (by rw [byteCells_length, HTL.out]; decide) (byteCells_one _) ?_
  intro w4 h1 h2 h3
  have h1 := h1.out
  rw [splice_all _ _ (by rw [byteCells_length, HTL.out]; decide)] at h1
  have E4 := Lib.hid h1
  have B4 := Lib.hid (B3.out.trans (h2.out.below (Nat.le_succ _) B3.out.size))
  have hN := (⟨h2.out.is hH.1 (Nat.ne_of_lt HFL.out), h2.out.is hH.2 (Nat.ne_of_lt (Nat.lt_succ_self _))⟩ : blockIs w4 fb (flowCells g N n) 65 ∧ blockIs w4 w.heap.size (byteCells b) 23)
  clear h1 h2 h3 hH E3 B3
  refine hKK.out _ _ hN (fun hH => ?_)
  clear hKK KK hH hN
  try simp only [Act.put, List.setIfInBounds_toArray, List.set_cons_zero, List.set_cons_succ]
  refine wpAnyH_done (by kernel_rfl) ?_ _
  refine NoPanic.normal ?_
  go_wp2_with fail
  refine bodyPost_ret (v := .agg (byteCells T).toArray) (results_cell_row rfl _ _ (w.heap.size + 1) 23 _ (0, 0) _ rfl E4.out Try.underlying23 rfl (by rw [infoBlk]; simp [byteCells_length, HTL.out])) rfl ?_
  exact ⟨by rw [HTE.out], B4.out⟩
end Go.Proofs.Ytklbbeilbpcnoaa
