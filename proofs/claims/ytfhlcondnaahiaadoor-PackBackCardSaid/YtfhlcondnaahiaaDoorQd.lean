/- Same, of two rows of entries that are the same. -/
import Derived.Test.YtfhlcondnaahiaaDoorQc
namespace Go.Proofs.YtfhlcondnaahiaaDoor
open Go.RowKit Sha

set_option maxRecDepth 100000 in
theorem egtEnR : Tryd.prog.eqGuardType Tryd.prog.depth 93 = false := by kernel_rfl
set_option maxRecDepth 100000 in
theorem en_fieldsR : ∃ f0 f1 f2 f3 : Field, (Tryd.prog.fieldsOf 93).toList = [f0, f1, f2, f3] ∧ f0.name ≠ "_" ∧ f1.name ≠ "_" ∧ f2.name ≠ "_" ∧ f3.name ≠ "_" ∧ f0.type = 24 ∧ f1.type = 3 ∧ f2.type = 3 ∧ f3.type = 3 ∧ f0.offset = 0 ∧ f1.offset = 32 ∧ f2.offset = 33 ∧ f3.offset = 34 :=
  ⟨_, _, _, _, rfl, by decide, by decide, by decide, by decide, rfl, rfl, rfl, rfl, rfl, rfl, rfl, rfl⟩
set_option maxRecDepth 100000 in
theorem neq_enR (x : En) (hx : x.ok) (w : World) : (binOp .neq 93 (.agg x.cells.toArray) (.agg x.cells.toArray)).run Tryd.prog w = .ok (.bool false) w := by
  have hl : x.id.length = 32 := hx
  have hb : (byteCells x.id).length = 32 := by rw [byteCells_length]; exact hl
  have hn : ∀ (o : Nat) (v : Value), x.cells[o]? = some v → (part 3 x.cells.toArray o).run Tryd.prog w = .ok v w := fun o v h => run_part_plain w (by kernel_rfl) (by simpa using h)
  have g : ∀ (i : Nat) (v : Value), [Value.int .i64 x.kind, Value.int .i64 (x.off : Int), Value.int .i64 (x.len : Int)][i]? = some v → x.cells[32 + i]? = some v := fun i v h => by
    unfold En.cells
    rw [List.getElem?_append_right (by omega), hb, Nat.add_sub_cancel_left]
    exact h
  have c0 : x.cells.toArray.extract 0 (0 + 32) = (byteCells x.id).toArray := by
    unfold En.cells
    simp [hb]
  have h : (Op.equalIn 10000 93 (.agg x.cells.toArray) (.agg x.cells.toArray)).run Tryd.prog w = .ok true w := by
    rw [show (10000 : Nat) = 9999 + 1 from rfl, run_equalIn_struct w 9999 _ _ _ (by kernel_rfl) (by kernel_rfl)]
    obtain ⟨f0, f1, f2, f3, hf, n0, n1, n2, n3, t0, t1, t2, t3, o0, o1, o2, o3⟩ := en_fieldsR
    rw [hf]
    refine eqFields_four 9999 _ _ f0 f1 f2 f3 n0 n1 n2 n3 _ _ _ _ _ _ _ _ w (by rw [t0, o0]; exact partId _ _ _) (by rw [t0, o0]; exact partId _ _ _) ?_ (by rw [t1, o1]; exact hn 32 _ (g 0 _ rfl)) (by rw [t1, o1]; exact hn 32 _ (g 0 _ rfl)) ?_ (by rw [t2, o2]; exact hn 33 _ (g 1 _ rfl)) (by rw [t2, o2]; exact hn 33 _ (g 1 _ rfl)) ?_ (by rw [t3, o3]; exact hn 34 _ (g 2 _ rfl)) (by rw [t3, o3]; exact hn 34 _ (g 2 _ rfl)) ?_
    · rw [t0, c0]; exact eq_id_at 9997 x.id hl w
    · rw [t1, show (9999 : Nat) = 9998 + 1 from rfl, run_equalIn_int w 9998 3 .i64 .i64 _ _ Tryd.underlying3]; simp
    · rw [t2, show (9999 : Nat) = 9998 + 1 from rfl, run_equalIn_int w 9998 3 .i64 .i64 _ _ Tryd.underlying3]; simp
    · rw [t3, show (9999 : Nat) = 9998 + 1 from rfl, run_equalIn_int w 9998 3 .i64 .i64 _ _ Tryd.underlying3]; simp
  rw [run_neq_struct, h]
  rfl
theorem neq_enOR (a : Act) (o : Oper) (x y : Operand) (e : En) (ho : o.op = .binOp .neq 93 x y 93) (hx : a.eval x = .agg e.cells.toArray) (hy : a.eval y = .agg e.cells.toArray) (hl : e.ok) (w : World) :
    (execOp a.eval o).run Tryd.prog w = .ok (.value (.bool false)) w := by
  unfold execOp
  simp only [ho, hx, hy, Sem.run_bind, neq_enR e hl, run_eqGuard_agg _ _ _ _ _ _ _ egtEnR, Result.andThen_ok, Sem.run_pure]
theorem info_enR : (Tryd.prog.info? 93).map (·.size) = some 35 := by kernel_rfl
set_option maxRecDepth 100000 in
set_option maxHeartbeats 2000000 in
theorem same_yes (a1 a2 : Option Addr) (c1 c2 : Nat) (L : List En) (w : World) (h1 : ensIn w a1 L) (h2 : ensIn w a2 L) (h35 : ∀ x ∈ L, x.ok) (hn : L.length ≤ 100000) :
    Calls Tryd.prog 15 #[.slice a1 L.length c1, .slice a2 L.length c2] w fun e w' => e = .returned (.bool true) ∧ Below w.heap.size w w' := by
  have H1 := Lib.hid h1
  have H2 := Lib.hid h2
  have H5 := Lib.hid h35
  obtain ⟨n, hnl⟩ : ∃ n, n = L.length := ⟨_, rfl⟩
  have NL := Lib.hid hnl
  rw [← hnl] at hn ⊢
  clear hnl h1 h2 h35
  go_enter Tryd.func15, Tryd.ntmps15
  go_wp2_with fail
  go_loopw [5] (fun i wr => ∃ j : Nat, j ≤ n ∧ i = .int .i64 (j : Int) ∧ Hid (Below w.heap.size w wr)) (fun i _ => n - (intOf i).toNat)
  case atStart => exact ⟨0, by omega, rfl, Lib.hid (Below.refl _ _)⟩
  case round =>
    obtain ⟨j, hj, rfl, BR⟩ := hrel
    by_cases hlt : j < n
    · have q1 : (j : Int) < (n : Int) := by omega
      have q0 : 0 ≤ (j : Int) := by omega
      have hjl : j < L.length := NL.out ▸ hlt
      obtain ⟨x, hx⟩ : ∃ x, x = L[j] := ⟨_, rfl⟩
      have X1 : Hid x.ok := Lib.hid (H5.out x (hx ▸ List.getElem_mem hjl))
      rcases H1.out with h0 | ⟨b1, o1, rfl, k1⟩
      · rw [h0] at hjl; cases hjl
      rcases H2.out with h0 | ⟨b2, o2, rfl, k2⟩
      · rw [h0] at hjl; cases hjl
      have K1 : Hid (∀ X, Below w.heap.size w X → X.rangeAt b1 (o1 + j * 35) x.cells) := Lib.hid (fun X hX i u hi => (hX.cell (block_lt_of_cell (k1 j hjl i u (hx ▸ hi)))).trans (k1 j hjl i u (hx ▸ hi)))
      have K2 : Hid (∀ X, Below w.heap.size w X → X.rangeAt b2 (o2 + j * 35) x.cells) := Lib.hid (fun X hX i u hi => (hX.cell (block_lt_of_cell (k2 j hjl i u (hx ▸ hi)))).trans (k2 j hjl i u (hx ▸ hi)))
      have X35 : Hid (x.cells.length = 35) := Lib.hid (En.len35 X1.out)
      clear k1 k2 hx hjl
      go_wp2_with fail
      refine wp_region_noPanic ?_
      refine wp_region_held_drew (S := fun w' => Below w.heap.size w w') (by kernel_rfl) (below_drew' BR.out) (fun hH => ?_)
      generalize wr.drew = z0 at *
      refine wpAnyH_take (i := 0) (oi := { dst := some 17, op := Op.move (Operand.tmp 0), type := 41, pos := "ref.go:159", after := #[], guard := none }) (v := .slice (some ⟨b1, o1, none⟩) n c1) rfl (by kernel_rfl) (by kernel_rfl) (by kernel_rfl) (fun _ _ _ h => h) (Or.inl ⟨by rfl, fun wx hS => ?_⟩) hH ?_
      · go_simp
      simp only [Act.put, List.setIfInBounds_toArray, List.set_cons_zero, List.set_cons_succ]
      refine wpAnyH_take (i := 1) (oi := { dst := some 18, op := Op.move (Operand.tmp 5), type := 3, pos := "ref.go:159", after := #[], guard := none }) (v := .int .i64 (j : Int)) rfl (by kernel_rfl) (by kernel_rfl) (by kernel_rfl) (fun _ _ _ h => h) (Or.inl ⟨by rfl, fun wx hS => ?_⟩) hH ?_
      · go_simp
      simp only [Act.put, List.setIfInBounds_toArray, List.set_cons_zero, List.set_cons_succ]
      refine wpAnyH_take (i := 2) (oi := { dst := some 19, op := Op.indexAddr 41 (Operand.tmp 17) (Operand.tmp 18), type := 0, pos := "ref.go:159", after := #[⟨0, .data⟩, ⟨1, .data⟩], guard := none }) (v := .pointer (some ⟨b1, o1 + j * 35, none⟩)) rfl (by kernel_rfl) (by kernel_rfl) (by kernel_rfl) (fun _ _ _ h => h) (Or.inl ⟨by rfl, fun wx hS => ?_⟩) hH ?_
      · go_simp
      simp only [Act.put, List.setIfInBounds_toArray, List.set_cons_zero, List.set_cons_succ]
      refine wpAnyH_take (i := 3) (oi := { dst := some 20, op := Op.load 93 (Operand.tmp 19), type := 93, pos := "ref.go:159", after := #[⟨2, .data⟩], guard := none }) (v := .agg (x.cells).toArray) rfl (by kernel_rfl) (by kernel_rfl) (by kernel_rfl) (fun _ _ _ h => h) (yieldsIf_load_mid (by rfl) 93 _ rfl (b1) (o1 + j * 35) rfl (x.cells) _ (fun wx hS => K1.out wx hS) Tryd.underlying93 rfl (by rw [info_enR, X35.out])) hH ?_
      simp only [Act.put, List.setIfInBounds_toArray, List.set_cons_zero, List.set_cons_succ]
      refine wpAnyH_take (i := 4) (oi := { dst := some 21, op := Op.move (Operand.tmp 1), type := 41, pos := "ref.go:159", after := #[], guard := none }) (v := .slice (some ⟨b2, o2, none⟩) n c2) rfl (by kernel_rfl) (by kernel_rfl) (by kernel_rfl) (fun _ _ _ h => h) (Or.inl ⟨by rfl, fun wx hS => ?_⟩) hH ?_
      · go_simp
      simp only [Act.put, List.setIfInBounds_toArray, List.set_cons_zero, List.set_cons_succ]
      refine wpAnyH_take (i := 5) (oi := { dst := some 22, op := Op.move (Operand.tmp 5), type := 3, pos := "ref.go:159", after := #[], guard := none }) (v := .int .i64 (j : Int)) rfl (by kernel_rfl) (by kernel_rfl) (by kernel_rfl) (fun _ _ _ h => h) (Or.inl ⟨by rfl, fun wx hS => ?_⟩) hH ?_
      · go_simp
      simp only [Act.put, List.setIfInBounds_toArray, List.set_cons_zero, List.set_cons_succ]
      refine wpAnyH_take (i := 6) (oi := { dst := some 23, op := Op.indexAddr 41 (Operand.tmp 21) (Operand.tmp 22), type := 0, pos := "ref.go:159", after := #[⟨4, .data⟩, ⟨5, .data⟩], guard := none }) (v := .pointer (some ⟨b2, o2 + j * 35, none⟩)) rfl (by kernel_rfl) (by kernel_rfl) (by kernel_rfl) (fun _ _ _ h => h) (Or.inl ⟨by rfl, fun wx hS => ?_⟩) hH ?_
      · go_simp
      simp only [Act.put, List.setIfInBounds_toArray, List.set_cons_zero, List.set_cons_succ]
      refine wpAnyH_take (i := 7) (oi := { dst := some 24, op := Op.load 93 (Operand.tmp 23), type := 93, pos := "ref.go:159", after := #[⟨6, .data⟩], guard := none }) (v := .agg (x.cells).toArray) rfl (by kernel_rfl) (by kernel_rfl) (by kernel_rfl) (fun _ _ _ h => h) (yieldsIf_load_mid (by rfl) 93 _ rfl (b2) (o2 + j * 35) rfl (x.cells) _ (fun wx hS => K2.out wx hS) Tryd.underlying93 rfl (by rw [info_enR, X35.out])) hH ?_
      simp only [Act.put, List.setIfInBounds_toArray, List.set_cons_zero, List.set_cons_succ]
      refine wpAnyH_take (i := 8) (oi := { dst := some 25, op := Op.binOp BinOp.neq 93 (Operand.tmp 20) (Operand.tmp 24) 93, type := 4, pos := "ref.go:159", after := #[⟨3, .data⟩, ⟨7, .data⟩], guard := none }) (v := .bool false) rfl (by kernel_rfl) (by kernel_rfl) (by kernel_rfl) (fun _ _ _ h => h) (Or.inl ⟨by rfl, fun wx hS => ?_⟩) hH ?_
      · exact neq_enOR _ _ _ _ x (by rfl) rfl rfl X1.out wx
      simp only [Act.put, List.setIfInBounds_toArray, List.set_cons_zero, List.set_cons_succ]
      refine wpAnyH_done (by kernel_rfl) ?_ _
      refine NoPanic.normal ?_
      have BR2 := Lib.hid hH
      clear hH BR
      go_wp2_with fail
      go_roundw
      case rel => exact ⟨j + 1, by omega, by go_num, BR2⟩
      case measure => simp [intOf]; omega
    · have q1 : ¬ (j : Int) < (n : Int) := by omega
      go_wp2_with fail
      go_ret
      exact ⟨rfl, BR.out⟩
end Go.Proofs.YtfhlcondnaahiaaDoor
