/- ShelfSteps: after Arm just so many changes answer OK; then the power is off, for reading, too, until the crash; in every row of calls. No condition. -/
import Derived.Test.YtfclnpfpddhjiaaStp
namespace Go.Proofs.Ytfclnpfpddhjiaa
open Go.RowKit Go.MapKept
theorem parts_one {W : World} {B k g h c : Nat} {m : Option Nat} {s : Sh} {y : List UInt8} (H : ShAt W B k m s) (hy : bytesIn W (some ⟨g, 0, none⟩) y) (hv : valsIn W (some ⟨h, 0, none⟩) [.slice (some ⟨g, 0, none⟩) y.length c]) (hg : g ≠ k) (hh : h ≠ k) :
    ∀ m' w', Step k m W m' w' → partsIn w' (some ⟨h, 0, none⟩) [(some ⟨g, 0, none⟩, c, y)] := fun m' w' hs => by
  refine ⟨H.keeps_vals hs hv (fun p hp => by cases hp; exact hh), fun p hp => ?_⟩
  simp only [List.mem_cons, List.not_mem_nil, or_false] at hp
  subst hp
  refine ⟨?_, fun h => by cases h⟩
  rcases hy with h0 | ⟨b, o, ha, hc⟩
  · exact Or.inl h0
  · refine Or.inr ⟨b, o, ha, fun j hj => H.keeps_cell hs (hc j hj) ?_⟩
    cases ha
    exact hg
/-- The world behind a conversion of a text to bytes; the capacity. -/
def cW (X : World) (y : List UInt8) : World := Lib.bytesWorld X 5 (str y)
def cC (X : World) (y : List UInt8) : Nat := grownCap X (str y).size 0 5
theorem run_cW (X : World) (y : List UInt8) : (convert 9 39 (.string (str y))).run Try.prog X = .ok (.slice (some ⟨X.heap.size, 0, none⟩) y.length (cC X y)) (cW X y) := by
  have r := Lib.run_convert_string_bytes (P := Try.prog) X 9 39 5 (str y) Try.underlying9 Try.underlying39 Try.underlying5
  rw [r]
  unfold cC cW
  rw [str_size]
theorem cW_below (X : World) (y : List UInt8) : Below X.heap.size X (cW X y) :=
  ⟨by simp [cW, Lib.bytesWorld, World.freeze, World.alloc, World.drew, -World.alloc_eq, -World.drew_eq], by simp [cW, Lib.bytesWorld, World.freeze, World.alloc, World.drew, -World.alloc_eq, -World.drew_eq], by simp [cW, Lib.bytesWorld, World.freeze, World.alloc, World.drew, -World.alloc_eq, -World.drew_eq],
    by unfold cW; rw [Lib.bytesWorld_size]; omega, fun k hk => Lib.bytesWorld_at_old X _ _ k hk⟩
theorem cW_size (X : World) (y : List UInt8) : (cW X y).heap.size = X.heap.size + 1 := Lib.bytesWorld_size _ _ _
theorem cW_cell (X : World) (y : List UInt8) (p : Addr) (h : p.block < X.heap.size) : (cW X y).cell? p = X.cell? p := (cW_below X y).cell h
theorem cW_in (X : World) (y : List UInt8) : bytesIn (cW X y) (some ⟨X.heap.size, 0, none⟩) y := by
  refine Or.inr ⟨_, _, rfl, fun j hj => ?_⟩
  unfold cW
  rw [Nat.zero_add, Lib.bytesWorld_cell _ _ _ _ (by rw [str_size]; exact hj)]
  simp [str, V]
set_option maxRecDepth 100000 in
set_option maxHeartbeats 40000000 in
theorem law_shelfSteps (x : Int) (a : Option Addr) (c : Nat) (F : List Dd) (W : World) (hx : (Lit.int .i64 x).wf = true) (hF : rowDeeds W a c F) :
    Calls Try.prog 5 #[.int .i64 x, .slice a F.length c] W fun e w' => e = .returned (.bool true) ∧ Below W.heap.size W w' := by
  have HF := Lib.hid hF
  have hl : (F.length : Int) ≤ 9223372036854775807 := by have := hF.1; have := hF.2.1; omega
  clear hF
  have hX : (IntKind.u64.wrap x).tmod 20 = ((x % 18446744073709551616).toNat % 20 : Nat) := by
    rw [IntKind.wrap_u64, Int.tmod_eq_emod_of_nonneg (by omega), Int.natCast_emod, Int.toNat_of_nonneg (Int.emod_nonneg _ (by decide))]
    rfl
  have hN : (x % 18446744073709551616).toNat % 20 < 20 := Nat.mod_lt _ (by decide)
  generalize (x % 18446744073709551616).toNat % 20 = N at *
  have n0 : 0 ≤ (N : Int) := by omega
  have n1 : (N : Int) < 20 := by omega
  go_enter Try.func5, Try.ntmps5
  go_wp2_with fail
  with_reducible refine (new_any 100000 W (by decide) (by decide)).mono ?_
  rintro e w1 ⟨k, rfl, h1, b1⟩
  have H1 := Lib.hid h1
  have B1 := Lib.hid b1
  clear h1 b1 hX
  go_wp2_with fail
  with_reducible refine (stands_any w1).mono ?_
  rintro e w2 ⟨rfl, b2⟩
  have H2 := Lib.hid (H1.out.below b2)
  have B2 := Lib.hid (B1.out.trans (b2.mono B1.out.size))
  clear b2
  go_wp2_with fail
  have P := arm_any W.heap.size k none (newSh 100000) (N : Int) w2 H2.out (WalkArith.wf_i64 (by omega))
  rw [show armedSh (newSh 100000) (N : Int) = sSh [] 0 false (max (N : Int) 0) from rfl, show max (N : Int) 0 = (N : Int) - 0 by omega] at P
  with_reducible refine P.mono ?_
  clear P
  rintro e w3 ⟨rfl, h3, s3⟩
  have H3 := Lib.hid h3
  have B3 := Lib.hid (B2.out.trans (H2.out.step_below s3))
  clear h3 s3
  go_wp2_with fail
  go_loopw [7, 8] (fun u v wr => ∃ (M : Int) (j : Nat) (m : Option Nat) (O : List Ent) (off : Bool), u = .int .i64 M ∧ v = .int .i64 (j : Int) ∧ j ≤ F.length ∧ j ≤ 60 ∧ (0 ≤ M ∧ M ≤ (N : Int)) ∧ Hid (off = true → M = (N : Int)) ∧ Hid (sizeSum O ≤ 100 * j ∧ O.length ≤ j) ∧
      Hid (ShAt wr W.heap.size k m (sSh O M off ((N : Int) - M))) ∧ Hid (Below W.heap.size W wr)) (fun _ v _ => F.length - (intOf v).toNat)
  case atStart => exact ⟨0, 0, none, [], false, rfl, rfl, Nat.zero_le _, by decide, by omega, Lib.hid (fun h => by cases h), Lib.hid (by decide), H3, B3⟩
  case round =>
    obtain ⟨M, j, m, O, off, rfl, rfl, hj, hj60, ⟨m0, m1⟩, A0, S0, K0, K3⟩ := hrel
    have p0 : 0 ≤ (j : Int) := by omega
    by_cases hend : j < F.length ∧ (j : Int) < 60
    · obtain ⟨hlt, h60⟩ := hend
      have q0 : (j : Int) < (F.length : Int) := by omega
      obtain ⟨bb, bo, ha, ⟨d0, d1, d2, d3, d4, d5, d6⟩, l1, l2, l3⟩ := HF.out.2.2 j hlt
      subst ha
      have DB := block_lt_of_cell d0
      have e0 := (K3.out.cell (p := ⟨bb, bo + j * 7, none⟩) DB).trans d0
      have e1 := (K3.out.cell (p := ⟨bb, bo + j * 7 + 1, none⟩) DB).trans d1
      have e2 := (K3.out.cell (p := ⟨bb, bo + j * 7 + 2, none⟩) DB).trans d2
      have e3 := (K3.out.cell (p := ⟨bb, bo + j * 7 + 3, none⟩) DB).trans d3
      have e4 := (K3.out.cell (p := ⟨bb, bo + j * 7 + 4, none⟩) DB).trans d4
      have e5 := (K3.out.cell (p := ⟨bb, bo + j * 7 + 5, none⟩) DB).trans d5
      have e6 := (K3.out.cell (p := ⟨bb, bo + j * 7 + 6, none⟩) DB).trans d6
      have LN := Lib.hid l1
      have LO := Lib.hid l2
      have LT := Lib.hid l3
      clear d0 d1 d2 d3 d4 d5 d6 l1 l2 l3 DB
      generalize F[j].what = z at *
      generalize F[j].name = nm at *
      generalize F[j].other = ot at *
      generalize F[j].text = tx at *
      generalize F[j].n = zn at *
      generalize F[j].ns = vs at *
      generalize F[j].ps = vp at *
      obtain ⟨na, nl, nc⟩ := vs
      obtain ⟨pa, pl, pc⟩ := vp
      simp only [slV] at e4 e6
      go_wp2_with fail
      have P0 := Lib.hid (K0.out.below ((Below.refl _ _).alloc (Nat.le_refl _) (.cells #[.int .i64 z, .string (str nm), .string (str ot), .string (str tx), .slice na nl nc, .int .i64 zn, .slice pa pl pc] 49 (0, 0))))
      have P3 := Lib.hid (K3.out.alloc K3.out.size (.cells #[.int .i64 z, .string (str nm), .string (str ot), .string (str tx), .slice na nl nc, .int .i64 zn, .slice pa pl pc] 49 (0, 0)))
      have PBK := blockIs.new wr [.int .i64 z, .string (str nm), .string (str ot), .string (str tx), .slice na nl nc, .int .i64 zn, .slice pa pl pc] 49
      change blockIs (wr.alloc (.cells #[.int .i64 z, .string (str nm), .string (str ot), .string (str tx), .slice na nl nc, .int .i64 zn, .slice pa pl pc] 49 (0, 0))) wr.heap.size [.int .i64 z, .string (str nm), .string (str ot), .string (str tx), .slice na nl nc, .int .i64 zn, .slice pa pl pc] 49 at PBK
      have g0 : (wr.alloc (.cells #[.int .i64 z, .string (str nm), .string (str ot), .string (str tx), .slice na nl nc, .int .i64 zn, .slice pa pl pc] 49 (0, 0))).cell? ⟨wr.heap.size, 0, none⟩ = some (.int .i64 z) := by rw [PBK.cell]; rfl
      have g1 : (wr.alloc (.cells #[.int .i64 z, .string (str nm), .string (str ot), .string (str tx), .slice na nl nc, .int .i64 zn, .slice pa pl pc] 49 (0, 0))).cell? ⟨wr.heap.size, 1, none⟩ = some (.string (str nm)) := by rw [PBK.cell]; rfl
      have g2 : (wr.alloc (.cells #[.int .i64 z, .string (str nm), .string (str ot), .string (str tx), .slice na nl nc, .int .i64 zn, .slice pa pl pc] 49 (0, 0))).cell? ⟨wr.heap.size, 2, none⟩ = some (.string (str ot)) := by rw [PBK.cell]; rfl
      have g3 : (wr.alloc (.cells #[.int .i64 z, .string (str nm), .string (str ot), .string (str tx), .slice na nl nc, .int .i64 zn, .slice pa pl pc] 49 (0, 0))).cell? ⟨wr.heap.size, 3, none⟩ = some (.string (str tx)) := by rw [PBK.cell]; rfl
      clear PBK e0 e1 e2 e3 e4 e5 e6
      have PNE : Hid (wr.heap.size ≠ k) := Lib.hid (by have := K0.out.is.lt; omega)
      have PLT0 : Hid (wr.heap.size < (wr.alloc (.cells #[.int .i64 z, .string (str nm), .string (str ot), .string (str tx), .slice na nl nc, .int .i64 zn, .slice pa pl pc] 49 (0, 0))).heap.size) := Lib.hid (by simp)
      generalize wr.alloc (.cells #[.int .i64 z, .string (str nm), .string (str ot), .string (str tx), .slice na nl nc, .int .i64 zn, .slice pa pl pc] 49 (0, 0)) = wp at *
      generalize wr.heap.size = pb at *
      with_reducible refine (off_any W.heap.size k m _ wp P0.out).mono ?_
      rintro e w' ⟨rfl, rfl⟩
      rw [show (sSh O M off ((N : Int) - M)).off = off from rfl]
      by_cases hz1 : z = 1
      · subst hz1
        have hsz := Lib.hid (str_size tx)
        have hmin : min ((str tx).size : Int) 100 = ((min tx.length 100 : Nat) : Int) := by rw [hsz.out]; omega
        have hS0 : (str tx).extract 0 (min tx.length 100) = str (tx.take 100) := by
          rw [str_take]
          by_cases h : tx.length ≤ 100
          · rw [Nat.min_eq_left h, List.take_of_length_le h, List.take_of_length_le (Nat.le_refl _)]
          · rw [Nat.min_eq_right (by omega)]
        have hr0 : 0 ≤ ((min tx.length 100 : Nat) : Int) := by omega
        have hr1 : ((min tx.length 100 : Nat) : Int) ≤ ((str tx).size : Int) := by rw [hsz.out]; omega
        generalize min tx.length 100 = r at *
        have YL : Hid ((tx.take 100).length ≤ 100) := Lib.hid (by rw [List.length_take]; omega)
        generalize tx.take 100 = y at *
        have PBK : Hid (pb ≠ k) := PNE
        have PLT : pb < wp.heap.size := PLT0.out
        have hcv := fun X => run_cW X y
        have hc1 : ∀ X : World, pb < X.heap.size → (cW X y).cell? ⟨pb, 1, none⟩ = X.cell? ⟨pb, 1, none⟩ := fun X h => cW_cell X y ⟨pb, 1, none⟩ h
        have hc3 : ∀ X : World, pb < X.heap.size → (cW X y).cell? ⟨pb, 3, none⟩ = X.cell? ⟨pb, 3, none⟩ := fun X h => cW_cell X y ⟨pb, 3, none⟩ h
        have hsz2 : ∀ X : World, (cW X y).heap.size = X.heap.size + 1 := fun X => cW_size X y
        have HBW : Hid (Below wp.heap.size wp (cW wp.drew y)) := Lib.hid (by have h := cW_below wp.drew y; exact ⟨h.os, h.tape, h.output, h.size, h.block⟩)
        have HW := Lib.hid ((P0.out.below HBW.out).below ((Below.refl _ _).alloc (Nat.le_refl _) (.cells #[.slice (some ⟨wp.heap.size, 0, none⟩) y.length (cC wp.drew y)] 39 (0, 0))))
        have BW := Lib.hid ((P3.out.trans (HBW.out.mono P3.out.size)).alloc (Nat.le_trans P3.out.size HBW.out.size) (.cells #[.slice (some ⟨wp.heap.size, 0, none⟩) y.length (cC wp.drew y)] 39 (0, 0)))
        have IN2 : Hid (bytesIn ((cW wp.drew y).alloc (.cells #[.slice (some ⟨wp.heap.size, 0, none⟩) y.length (cC wp.drew y)] 39 (0, 0))) (some ⟨wp.heap.size, 0, none⟩) y) := Lib.hid (bytesIn.below (cW_in wp.drew y) ((Below.refl _ _).alloc (Nat.le_refl _) _) (Nat.le_refl _))
        have VN := Lib.hid (vals_one (w := cW wp.drew y) (.slice (some ⟨wp.heap.size, 0, none⟩) y.length (cC wp.drew y)) 39)
        have NK : Hid (wp.heap.size ≠ k ∧ (cW wp.drew y).heap.size ≠ k) := Lib.hid (by have := P0.out.is.lt; have := HBW.out.size; omega)
        have k1 : ((cW wp.drew y).alloc (.cells #[.slice (some ⟨wp.heap.size, 0, none⟩) y.length (cC wp.drew y)] 39 (0, 0))).cell? ⟨pb, 1, none⟩ = some (.string (str nm)) := (((HBW.out.alloc HBW.out.size _)).cell (p := ⟨pb, 1, none⟩) PLT).trans g1
        have k3 : ((cW wp.drew y).alloc (.cells #[.slice (some ⟨wp.heap.size, 0, none⟩) y.length (cC wp.drew y)] 39 (0, 0))).cell? ⟨pb, 3, none⟩ = some (.string (str tx)) := (((HBW.out.alloc HBW.out.size _)).cell (p := ⟨pb, 3, none⟩) PLT).trans g3
        have KC1 := Lib.hid k1
        have kc1 : (cW wp.drew y).cell? ⟨pb, 1, none⟩ = some (.string (str nm)) := (HBW.out.cell (p := ⟨pb, 1, none⟩) PLT).trans g1
        have kc3 : (cW wp.drew y).cell? ⟨pb, 3, none⟩ = some (.string (str tx)) := (HBW.out.cell (p := ⟨pb, 3, none⟩) PLT).trans g3
        have KC3 := Lib.hid k3
        clear k1 k3
        obtain ⟨E, S', hE, hS⟩ : ∃ E S', E = putE (sSh O M off ((N : Int) - M)) nm y ∧ S' = putS (sSh O M off ((N : Int) - M)) nm y := ⟨_, _, rfl, rfl⟩
        have OUT := Lib.hid (out_put O M off ((N : Int) - M) nm y YL.out)
        rw [← hE, ← hS] at OUT
        have P := put_any W.heap.size k m (sSh O M off ((N : Int) - M)) nm (some ⟨(cW wp.drew y).heap.size, 0, none⟩) [(some ⟨wp.heap.size, 0, none⟩, cC wp.drew y, y)] 1 _ HW.out (sSh_ok (T := M) m0 (by omega) (by omega) (by omega)) LN.out (by simp [partsJoin]; have := YL.out; omega) (by simp) (by have := S0.out; show sizeSum O ≤ _; omega) (by have := S0.out; show O.length ≤ _; omega) (parts_one HW.out IN2.out VN.out NK.out.1 NK.out.2)
        rw [show partsJoin [(some (⟨wp.heap.size, 0, none⟩ : Addr), cC wp.drew y, y)] = y by simp [partsJoin], cW_size wp.drew y] at P
        change Calls _ _ #[.pointer (some ⟨k, 0, none⟩), .string (str nm), .slice (some ⟨wp.heap.size + 1, 0, none⟩) 1 1] _ _ at P
        rw [← hE, ← hS] at P
        clear hE hS
        have PP := Lib.hid P
        clear P
        go_wp2_with fail
        refine wp_region_noPanic ?_
        refine wp_region_held_drew (S := fun w' => w'.cell? ⟨pb, 1, none⟩ = some (.string (str nm)) ∧ w'.cell? ⟨pb, 3, none⟩ = some (.string (str tx))) (by kernel_rfl) ⟨g1, g3⟩ (fun hH => ?_)
        refine wpAnyH_take (i := 0) (oi := { dst := some 55, op := Op.move (Operand.tmp 5), type := 23, pos := "law.go:269", after := #[], guard := none }) (v := .pointer (some ⟨k, 0, none⟩)) rfl (by kernel_rfl) (by kernel_rfl) (by kernel_rfl) (fun _ _ _ h => h) (Or.inl ⟨by rfl, fun wx hS => ?_⟩) hH ?_
        · obtain ⟨x1, x3⟩ := hS; go_simp
        simp only [Act.put, List.setIfInBounds_toArray, List.set_cons_zero, List.set_cons_succ]
        refine wpAnyH_take (i := 1) (oi := { dst := some 56, op := Op.fieldAddr 49 (Operand.tmp 9) 1, type := 0, pos := "law.go:269", after := #[], guard := none }) (v := .pointer (some ⟨pb, 1, none⟩)) rfl (by kernel_rfl) (by kernel_rfl) (by kernel_rfl) (fun _ _ _ h => h) (Or.inl ⟨by rfl, fun wx hS => ?_⟩) hH ?_
        · obtain ⟨x1, x3⟩ := hS; go_simp
        simp only [Act.put, List.setIfInBounds_toArray, List.set_cons_zero, List.set_cons_succ]
        refine wpAnyH_take (i := 2) (oi := { dst := some 57, op := Op.load 9 (Operand.tmp 56), type := 9, pos := "law.go:269", after := #[{ on := 1, ground := Ground.data }], guard := none }) (v := .string (str nm)) rfl (by kernel_rfl) (by kernel_rfl) (by kernel_rfl) (fun _ _ _ h => h) (Or.inl ⟨by rfl, fun wx hS => ?_⟩) hH ?_
        · obtain ⟨x1, x3⟩ := hS; go_simp
        simp only [Act.put, List.setIfInBounds_toArray, List.set_cons_zero, List.set_cons_succ]
        refine wpAnyH_take (i := 3) (oi := { dst := some 58, op := Op.fieldAddr 49 (Operand.tmp 9) 3, type := 0, pos := "law.go:269", after := #[], guard := none }) (v := .pointer (some ⟨pb, 3, none⟩)) rfl (by kernel_rfl) (by kernel_rfl) (by kernel_rfl) (fun _ _ _ h => h) (Or.inl ⟨by rfl, fun wx hS => ?_⟩) hH ?_
        · obtain ⟨x1, x3⟩ := hS; go_simp
        simp only [Act.put, List.setIfInBounds_toArray, List.set_cons_zero, List.set_cons_succ]
        refine wpAnyH_take (i := 4) (oi := { dst := some 59, op := Op.load 9 (Operand.tmp 58), type := 9, pos := "law.go:269", after := #[{ on := 3, ground := Ground.data }], guard := none }) (v := .string (str tx)) rfl (by kernel_rfl) (by kernel_rfl) (by kernel_rfl) (fun _ _ _ h => h) (Or.inl ⟨by rfl, fun wx hS => ?_⟩) hH ?_
        · obtain ⟨x1, x3⟩ := hS; go_simp
        simp only [Act.put, List.setIfInBounds_toArray, List.set_cons_zero, List.set_cons_succ]
        refine wpAnyH_take (i := 5) (oi := { dst := some 60, op := Op.fieldAddr 49 (Operand.tmp 9) 3, type := 0, pos := "law.go:269", after := #[], guard := none }) (v := .pointer (some ⟨pb, 3, none⟩)) rfl (by kernel_rfl) (by kernel_rfl) (by kernel_rfl) (fun _ _ _ h => h) (Or.inl ⟨by rfl, fun wx hS => ?_⟩) hH ?_
        · obtain ⟨x1, x3⟩ := hS; go_simp
        simp only [Act.put, List.setIfInBounds_toArray, List.set_cons_zero, List.set_cons_succ]
        refine wpAnyH_take (i := 6) (oi := { dst := some 61, op := Op.load 9 (Operand.tmp 60), type := 9, pos := "law.go:269", after := #[{ on := 5, ground := Ground.data }], guard := none }) (v := .string (str tx)) rfl (by kernel_rfl) (by kernel_rfl) (by kernel_rfl) (fun _ _ _ h => h) (Or.inl ⟨by rfl, fun wx hS => ?_⟩) hH ?_
        · obtain ⟨x1, x3⟩ := hS; go_simp
        simp only [Act.put, List.setIfInBounds_toArray, List.set_cons_zero, List.set_cons_succ]
        refine wpAnyH_take (i := 7) (oi := { dst := some 62, op := Op.call { callee := Callee.builtin Builtin.len, args := #[Operand.tmp 61], argTypes := #[9] }, type := 3, pos := "law.go:269", after := #[{ on := 6, ground := Ground.data }], guard := none }) (v := .int .i64 ((str tx).size : Int)) rfl (by kernel_rfl) (by kernel_rfl) (by kernel_rfl) (fun _ _ _ h => h) (Or.inl ⟨by rfl, fun wx hS => ?_⟩) hH ?_
        · obtain ⟨x1, x3⟩ := hS; go_simp
        simp only [Act.put, List.setIfInBounds_toArray, List.set_cons_zero, List.set_cons_succ]
        refine wpAnyH_take (i := 8) (oi := { dst := some 63, op := Op.call { callee := Callee.builtin Builtin.min, args := #[Operand.tmp 62, Operand.const (Value.int IntKind.i64 100)], argTypes := #[3, 3] }, type := 3, pos := "law.go:269", after := #[{ on := 7, ground := Ground.data }], guard := none }) (v := .int .i64 (r : Int)) rfl (by kernel_rfl) (by kernel_rfl) (by kernel_rfl) (fun _ _ _ h => h) (Or.inl ⟨by rfl, fun wx hS => ?_⟩) hH ?_
        · obtain ⟨x1, x3⟩ := hS; go_simp
        simp only [Act.put, List.setIfInBounds_toArray, List.set_cons_zero, List.set_cons_succ]
        refine wpAnyH_take (i := 9) (oi := { dst := some 64, op := Op.slice 9 (Operand.tmp 59) none (some (Operand.tmp 63)) none, type := 9, pos := "law.go:269", after := #[{ on := 4, ground := Ground.data }, { on := 8, ground := Ground.data }], guard := none }) (v := .string (str y)) rfl (by kernel_rfl) (by kernel_rfl) (by kernel_rfl) (fun _ _ _ h => h) (Or.inl ⟨by rfl, fun wx hS => ?_⟩) hH ?_
        · obtain ⟨x1, x3⟩ := hS; go_simp
        simp only [Act.put, List.setIfInBounds_toArray, List.set_cons_zero, List.set_cons_succ]
        refine wpAnyH_ready (rs := [10]) (by kernel_rfl) (by simp) ?_
        refine AllReadyH.cons (o := { dst := some 65, op := Op.convert 9 39 (Operand.tmp 64), type := 39, pos := "law.go:269", after := #[{ on := 9, ground := Ground.data }], guard := none }) rfl (fun KK hKK => ?_) AllReadyH.nil
        go_simp
        refine hKK.out _ _ ⟨kc1, kc3⟩ (fun hH => ?_)
        clear hKK KK
        try simp only [Act.put, List.setIfInBounds_toArray, List.set_cons_zero, List.set_cons_succ]
        refine wpAnyH_ready (rs := [11]) (by kernel_rfl) (by simp) ?_
        refine AllReadyH.cons (o := { dst := some 66, op := Op.buildSlice 78 1 #[(0, Operand.tmp 65)], type := 78, pos := "law.go:269", after := #[{ on := 10, ground := Ground.data }], guard := none }) rfl (fun KK hKK => ?_) AllReadyH.nil
        go_simp
        refine hKK.out _ _ ⟨KC1.out, KC3.out⟩ (fun hH => ?_)
        clear hKK KK
        try simp only [Act.put, List.setIfInBounds_toArray, List.set_cons_zero, List.set_cons_succ]
        refine wpAnyH_ready (rs := [12]) (by kernel_rfl) (by simp) ?_
        refine AllReadyH.cons (o := { dst := some 67, op := Op.call { callee := Callee.value (Operand.func 15), args := #[Operand.tmp 55, Operand.tmp 57, Operand.tmp 66], argTypes := #[23, 9, 78] }, type := 24, pos := "law.go:269", after := #[{ on := 0, ground := Ground.data }, { on := 2, ground := Ground.data }, { on := 11, ground := Ground.data }], guard := none }) rfl (fun KK hKK => ?_) AllReadyH.nil
        go_simp
        with_reducible refine PP.out.mono ?_
        rintro e w5 ⟨rfl, m5, h5, s5⟩
        have H5 := Lib.hid h5
        have B5 := Lib.hid (BW.out.trans (HW.out.step_below s5))
        have s1 : w5.cell? ⟨pb, 1, none⟩ = some (.string (str nm)) := HW.out.keeps_cell s5 KC1.out PBK.out
        have s3 : w5.cell? ⟨pb, 3, none⟩ = some (.string (str tx)) := HW.out.keeps_cell s5 KC3.out PBK.out
        clear h5 s5
        refine hKK.out _ _ ⟨s1, s3⟩ (fun hH => ?_)
        clear hKK KK
        try simp only [Act.put, List.setIfInBounds_toArray, List.set_cons_zero, List.set_cons_succ]
        refine wpAnyH_ready (rs := [13]) (by kernel_rfl) (by simp) ?_
        refine AllReadyH.cons (o := { dst := some 11, op := Op.assign (Operand.tmp 67), type := 24, pos := "law.go:269", after := #[{ on := 12, ground := Ground.data }, { on := 12, ground := Ground.chain }, { on := 0, ground := Ground.phase }, { on := 1, ground := Ground.phase }, { on := 2, ground := Ground.phase }, { on := 3, ground := Ground.phase }, { on := 4, ground := Ground.phase }, { on := 5, ground := Ground.phase }, { on := 6, ground := Ground.phase }, { on := 7, ground := Ground.phase }, { on := 8, ground := Ground.phase }, { on := 9, ground := Ground.phase }, { on := 10, ground := Ground.phase }, { on := 11, ground := Ground.phase }, { on := 12, ground := Ground.phase }], guard := none }) rfl (fun KK hKK => ?_) AllReadyH.nil
        go_simp
        refine hKK.out _ _ ⟨s1, s3⟩ (fun _ => ?_)
        clear hKK KK hH
        refine wpAnyH_done (by kernel_rfl) ?_ _
        refine NoPanic.normal ?_
        clear kc1 kc3 hcv hc1 hc3 hsz2 hS0 hmin hr0 hr1
        rcases OUT.out with ⟨ho, hE, hS⟩ | ⟨ho, hE0, hE9, hS⟩ | ⟨ho, hL, hE, hS⟩ | ⟨ho, hL, hE, O', hS, hs, hn⟩
        · subst ho hE hS
          have em : M = (N : Int) := A0.out rfl
          subst em

          have PO : Hid (Calls Try.prog 24 #[.pointer (some ⟨k, 0, none⟩)] w5 fun e w' => e = .returned (.bool true) ∧ w5 = w') := Lib.hid (off_any W.heap.size k m5 _ w5 H5.out)
          have PS : Hid (Calls Try.prog 27 #[.pointer (some ⟨k, 0, none⟩)] w5 fun e w' => e = .returned (.int .i64 (N : Int)) ∧ w5 = w') := Lib.hid (steps_any W.heap.size k m5 _ w5 H5.out)

          go_wp2_with (first
            | (go_at_call 24; (with_reducible refine PO.out.mono ?_); rintro e w' ⟨rfl, rfl⟩)
            | (go_at_call 27; (with_reducible refine PS.out.mono ?_); rintro e w' ⟨rfl, rfl⟩))
          go_roundw
          case rel => exact ⟨(N : Int), j + 1, m5, O, true, by first | rfl | exact trivial, by go_num, by omega, by omega, by omega, Lib.hid (fun _ => rfl), Lib.hid (by have := S0.out; omega), H5, B5⟩
          case measure => simp [intOf]; omega
        · subst ho hS
          have PO : Hid (Calls Try.prog 24 #[.pointer (some ⟨k, 0, none⟩)] w5 fun e w' => e = .returned (.bool false) ∧ w5 = w') := Lib.hid (off_any W.heap.size k m5 _ w5 H5.out)
          have PS : Hid (Calls Try.prog 27 #[.pointer (some ⟨k, 0, none⟩)] w5 fun e w' => e = .returned (.int .i64 M) ∧ w5 = w') := Lib.hid (steps_any W.heap.size k m5 _ w5 H5.out)
          have te0 : (E == 0) = false := by simpa using hE0
          have te9 : (E == 9) = false := by simpa using hE9
          go_wp2_with (first
            | (go_at_call 24; (with_reducible refine PO.out.mono ?_); rintro e w' ⟨rfl, rfl⟩)
            | (go_at_call 27; (with_reducible refine PS.out.mono ?_); rintro e w' ⟨rfl, rfl⟩))
          go_roundw
          case rel => exact ⟨M, j + 1, m5, O, false, by first | rfl | exact trivial, by go_num, by omega, by omega, by omega, Lib.hid (fun h => by cases h), Lib.hid (by have := S0.out; omega), H5, B5⟩
          case measure => simp [intOf]; omega
        · subst ho hE hS
          have em : M = (N : Int) := by omega
          subst em

          have PO : Hid (Calls Try.prog 24 #[.pointer (some ⟨k, 0, none⟩)] w5 fun e w' => e = .returned (.bool true) ∧ w5 = w') := Lib.hid (off_any W.heap.size k m5 _ w5 H5.out)
          have PS : Hid (Calls Try.prog 27 #[.pointer (some ⟨k, 0, none⟩)] w5 fun e w' => e = .returned (.int .i64 (N : Int)) ∧ w5 = w') := Lib.hid (steps_any W.heap.size k m5 _ w5 H5.out)

          go_wp2_with (first
            | (go_at_call 24; (with_reducible refine PO.out.mono ?_); rintro e w' ⟨rfl, rfl⟩)
            | (go_at_call 27; (with_reducible refine PS.out.mono ?_); rintro e w' ⟨rfl, rfl⟩))
          go_roundw
          case rel => exact ⟨(N : Int), j + 1, m5, O, true, by first | rfl | exact trivial, by go_num, by omega, by omega, by omega, Lib.hid (fun _ => rfl), Lib.hid (by have := S0.out; omega), H5, B5⟩
          case measure => simp [intOf]; omega
        · subst ho hE hS
          have hM : M + 1 ≤ (N : Int) := by omega
          have hL2 : (N : Int) - M - 1 = (N : Int) - (M + 1) := by omega
          rw [hL2] at H5
          clear hL2
          have hS2 := Lib.hid hs
          have hN2 := Lib.hid hn
          clear hs hn hL

          have PO : Hid (Calls Try.prog 24 #[.pointer (some ⟨k, 0, none⟩)] w5 fun e w' => e = .returned (.bool false) ∧ w5 = w') := Lib.hid (off_any W.heap.size k m5 _ w5 H5.out)
          have PS : Hid (Calls Try.prog 27 #[.pointer (some ⟨k, 0, none⟩)] w5 fun e w' => e = .returned (.int .i64 (M + 1)) ∧ w5 = w') := Lib.hid (steps_any W.heap.size k m5 _ w5 H5.out)

          go_wp2_with (first
            | (go_at_call 24; (with_reducible refine PO.out.mono ?_); rintro e w' ⟨rfl, rfl⟩)
            | (go_at_call 27; (with_reducible refine PS.out.mono ?_); rintro e w' ⟨rfl, rfl⟩))
          go_roundw
          case rel => exact ⟨(M + 1), j + 1, m5, O', false, by first | rfl | exact trivial, by go_num, by omega, by omega, by omega, Lib.hid (fun h => by cases h), Lib.hid (by have := S0.out; have := hS2.out; have := hN2.out; omega), H5, B5⟩
          case measure => simp [intOf]; omega
      · by_cases hz2 : z = 2
        · subst hz2
          go_wp2_with fail
          have HW := P0
          have BW := P3
          obtain ⟨E, S', hE, hS⟩ : ∃ E S', E = syncedE (sSh O M off ((N : Int) - M)) [] ∧ S' = syncedS (sSh O M off ((N : Int) - M)) [] := ⟨_, _, rfl, rfl⟩
          have OUT := Lib.hid (out_sync O M off ((N : Int) - M))
          rw [← hE, ← hS] at OUT
          have P := sync_any W.heap.size k m (sSh O M off ((N : Int) - M)) none [] 0 wp P0.out (sSh_ok (T := M) m0 (by omega) (by omega) (by omega)) (by decide) (fun _ _ _ => Or.inl rfl)
          change Calls _ _ #[.pointer (some ⟨k, 0, none⟩), .slice none 0 0] _ _ at P
          rw [← hE, ← hS] at P
          clear hE hS
          with_reducible refine P.mono ?_
          clear P
          rintro e w5 ⟨rfl, m5, h5, s5⟩
          have H5 := Lib.hid h5
          have B5 := Lib.hid (BW.out.trans (HW.out.step_below s5))
          clear h5 s5
          rcases OUT.out with ⟨ho, hE, hS⟩ | ⟨ho, hE0, hE9, hS⟩ | ⟨ho, hL, hE, hS⟩ | ⟨ho, hL, hE, O', hS, hs, hn⟩
          · subst ho hE hS
            have em : M = (N : Int) := A0.out rfl
            subst em

            have PO : Hid (Calls Try.prog 24 #[.pointer (some ⟨k, 0, none⟩)] w5 fun e w' => e = .returned (.bool true) ∧ w5 = w') := Lib.hid (off_any W.heap.size k m5 _ w5 H5.out)
            have PS : Hid (Calls Try.prog 27 #[.pointer (some ⟨k, 0, none⟩)] w5 fun e w' => e = .returned (.int .i64 (N : Int)) ∧ w5 = w') := Lib.hid (steps_any W.heap.size k m5 _ w5 H5.out)

            go_wp2_with (first
              | (go_at_call 24; (with_reducible refine PO.out.mono ?_); rintro e w' ⟨rfl, rfl⟩)
              | (go_at_call 27; (with_reducible refine PS.out.mono ?_); rintro e w' ⟨rfl, rfl⟩))
            go_roundw
            case rel => exact ⟨(N : Int), j + 1, m5, O, true, by first | rfl | exact trivial, by go_num, by omega, by omega, by omega, Lib.hid (fun _ => rfl), Lib.hid (by have := S0.out; omega), H5, B5⟩
            case measure => simp [intOf]; omega
          · subst ho hS
            have PO : Hid (Calls Try.prog 24 #[.pointer (some ⟨k, 0, none⟩)] w5 fun e w' => e = .returned (.bool false) ∧ w5 = w') := Lib.hid (off_any W.heap.size k m5 _ w5 H5.out)
            have PS : Hid (Calls Try.prog 27 #[.pointer (some ⟨k, 0, none⟩)] w5 fun e w' => e = .returned (.int .i64 M) ∧ w5 = w') := Lib.hid (steps_any W.heap.size k m5 _ w5 H5.out)
            have te0 : (E == 0) = false := by simpa using hE0
            have te9 : (E == 9) = false := by simpa using hE9
            go_wp2_with (first
              | (go_at_call 24; (with_reducible refine PO.out.mono ?_); rintro e w' ⟨rfl, rfl⟩)
              | (go_at_call 27; (with_reducible refine PS.out.mono ?_); rintro e w' ⟨rfl, rfl⟩))
            go_roundw
            case rel => exact ⟨M, j + 1, m5, O, false, by first | rfl | exact trivial, by go_num, by omega, by omega, by omega, Lib.hid (fun h => by cases h), Lib.hid (by have := S0.out; omega), H5, B5⟩
            case measure => simp [intOf]; omega
          · subst ho hE hS
            have em : M = (N : Int) := by omega
            subst em

            have PO : Hid (Calls Try.prog 24 #[.pointer (some ⟨k, 0, none⟩)] w5 fun e w' => e = .returned (.bool true) ∧ w5 = w') := Lib.hid (off_any W.heap.size k m5 _ w5 H5.out)
            have PS : Hid (Calls Try.prog 27 #[.pointer (some ⟨k, 0, none⟩)] w5 fun e w' => e = .returned (.int .i64 (N : Int)) ∧ w5 = w') := Lib.hid (steps_any W.heap.size k m5 _ w5 H5.out)

            go_wp2_with (first
              | (go_at_call 24; (with_reducible refine PO.out.mono ?_); rintro e w' ⟨rfl, rfl⟩)
              | (go_at_call 27; (with_reducible refine PS.out.mono ?_); rintro e w' ⟨rfl, rfl⟩))
            go_roundw
            case rel => exact ⟨(N : Int), j + 1, m5, O, true, by first | rfl | exact trivial, by go_num, by omega, by omega, by omega, Lib.hid (fun _ => rfl), Lib.hid (by have := S0.out; omega), H5, B5⟩
            case measure => simp [intOf]; omega
          · subst ho hE hS
            have hM : M + 1 ≤ (N : Int) := by omega
            have hL2 : (N : Int) - M - 1 = (N : Int) - (M + 1) := by omega
            rw [hL2] at H5
            clear hL2
            have hS2 := Lib.hid hs
            have hN2 := Lib.hid hn
            clear hs hn hL

            have PO : Hid (Calls Try.prog 24 #[.pointer (some ⟨k, 0, none⟩)] w5 fun e w' => e = .returned (.bool false) ∧ w5 = w') := Lib.hid (off_any W.heap.size k m5 _ w5 H5.out)
            have PS : Hid (Calls Try.prog 27 #[.pointer (some ⟨k, 0, none⟩)] w5 fun e w' => e = .returned (.int .i64 (M + 1)) ∧ w5 = w') := Lib.hid (steps_any W.heap.size k m5 _ w5 H5.out)

            go_wp2_with (first
              | (go_at_call 24; (with_reducible refine PO.out.mono ?_); rintro e w' ⟨rfl, rfl⟩)
              | (go_at_call 27; (with_reducible refine PS.out.mono ?_); rintro e w' ⟨rfl, rfl⟩))
            go_roundw
            case rel => exact ⟨(M + 1), j + 1, m5, O', false, by first | rfl | exact trivial, by go_num, by omega, by omega, by omega, Lib.hid (fun h => by cases h), Lib.hid (by have := S0.out; have := hS2.out; have := hN2.out; omega), H5, B5⟩
            case measure => simp [intOf]; omega
        · by_cases hz3 : z = 3
          · subst hz3
            go_wp2_with fail
            have HW := P0
            have BW := P3
            obtain ⟨E, S', hE, hS⟩ : ∃ E S', E = renamedE (sSh O M off ((N : Int) - M)) nm ot ∧ S' = renamedS (sSh O M off ((N : Int) - M)) nm ot := ⟨_, _, rfl, rfl⟩
            have OUT := Lib.hid (out_rename O M off ((N : Int) - M) nm ot)
            rw [← hE, ← hS] at OUT
            have P := rename_any W.heap.size k m (sSh O M off ((N : Int) - M)) nm ot wp P0.out (sSh_ok (T := M) m0 (by omega) (by omega) (by omega)) LO.out
            rw [← hE, ← hS] at P
            clear hE hS
            with_reducible refine P.mono ?_
            clear P
            rintro e w5 ⟨rfl, m5, h5, s5⟩
            have H5 := Lib.hid h5
            have B5 := Lib.hid (BW.out.trans (HW.out.step_below s5))
            clear h5 s5
            rcases OUT.out with ⟨ho, hE, hS⟩ | ⟨ho, hE0, hE9, hS⟩ | ⟨ho, hL, hE, hS⟩ | ⟨ho, hL, hE, O', hS, hs, hn⟩
            · subst ho hE hS
              have em : M = (N : Int) := A0.out rfl
              subst em

              have PO : Hid (Calls Try.prog 24 #[.pointer (some ⟨k, 0, none⟩)] w5 fun e w' => e = .returned (.bool true) ∧ w5 = w') := Lib.hid (off_any W.heap.size k m5 _ w5 H5.out)
              have PS : Hid (Calls Try.prog 27 #[.pointer (some ⟨k, 0, none⟩)] w5 fun e w' => e = .returned (.int .i64 (N : Int)) ∧ w5 = w') := Lib.hid (steps_any W.heap.size k m5 _ w5 H5.out)

              go_wp2_with (first
                | (go_at_call 24; (with_reducible refine PO.out.mono ?_); rintro e w' ⟨rfl, rfl⟩)
                | (go_at_call 27; (with_reducible refine PS.out.mono ?_); rintro e w' ⟨rfl, rfl⟩))
              go_roundw
              case rel => exact ⟨(N : Int), j + 1, m5, O, true, by first | rfl | exact trivial, by go_num, by omega, by omega, by omega, Lib.hid (fun _ => rfl), Lib.hid (by have := S0.out; omega), H5, B5⟩
              case measure => simp [intOf]; omega
            · subst ho hS
              have PO : Hid (Calls Try.prog 24 #[.pointer (some ⟨k, 0, none⟩)] w5 fun e w' => e = .returned (.bool false) ∧ w5 = w') := Lib.hid (off_any W.heap.size k m5 _ w5 H5.out)
              have PS : Hid (Calls Try.prog 27 #[.pointer (some ⟨k, 0, none⟩)] w5 fun e w' => e = .returned (.int .i64 M) ∧ w5 = w') := Lib.hid (steps_any W.heap.size k m5 _ w5 H5.out)
              have te0 : (E == 0) = false := by simpa using hE0
              have te9 : (E == 9) = false := by simpa using hE9
              go_wp2_with (first
                | (go_at_call 24; (with_reducible refine PO.out.mono ?_); rintro e w' ⟨rfl, rfl⟩)
                | (go_at_call 27; (with_reducible refine PS.out.mono ?_); rintro e w' ⟨rfl, rfl⟩))
              go_roundw
              case rel => exact ⟨M, j + 1, m5, O, false, by first | rfl | exact trivial, by go_num, by omega, by omega, by omega, Lib.hid (fun h => by cases h), Lib.hid (by have := S0.out; omega), H5, B5⟩
              case measure => simp [intOf]; omega
            · subst ho hE hS
              have em : M = (N : Int) := by omega
              subst em

              have PO : Hid (Calls Try.prog 24 #[.pointer (some ⟨k, 0, none⟩)] w5 fun e w' => e = .returned (.bool true) ∧ w5 = w') := Lib.hid (off_any W.heap.size k m5 _ w5 H5.out)
              have PS : Hid (Calls Try.prog 27 #[.pointer (some ⟨k, 0, none⟩)] w5 fun e w' => e = .returned (.int .i64 (N : Int)) ∧ w5 = w') := Lib.hid (steps_any W.heap.size k m5 _ w5 H5.out)

              go_wp2_with (first
                | (go_at_call 24; (with_reducible refine PO.out.mono ?_); rintro e w' ⟨rfl, rfl⟩)
                | (go_at_call 27; (with_reducible refine PS.out.mono ?_); rintro e w' ⟨rfl, rfl⟩))
              go_roundw
              case rel => exact ⟨(N : Int), j + 1, m5, O, true, by first | rfl | exact trivial, by go_num, by omega, by omega, by omega, Lib.hid (fun _ => rfl), Lib.hid (by have := S0.out; omega), H5, B5⟩
              case measure => simp [intOf]; omega
            · subst ho hE hS
              have hM : M + 1 ≤ (N : Int) := by omega
              have hL2 : (N : Int) - M - 1 = (N : Int) - (M + 1) := by omega
              rw [hL2] at H5
              clear hL2
              have hS2 := Lib.hid hs
              have hN2 := Lib.hid hn
              clear hs hn hL

              have PO : Hid (Calls Try.prog 24 #[.pointer (some ⟨k, 0, none⟩)] w5 fun e w' => e = .returned (.bool false) ∧ w5 = w') := Lib.hid (off_any W.heap.size k m5 _ w5 H5.out)
              have PS : Hid (Calls Try.prog 27 #[.pointer (some ⟨k, 0, none⟩)] w5 fun e w' => e = .returned (.int .i64 (M + 1)) ∧ w5 = w') := Lib.hid (steps_any W.heap.size k m5 _ w5 H5.out)

              go_wp2_with (first
                | (go_at_call 24; (with_reducible refine PO.out.mono ?_); rintro e w' ⟨rfl, rfl⟩)
                | (go_at_call 27; (with_reducible refine PS.out.mono ?_); rintro e w' ⟨rfl, rfl⟩))
              go_roundw
              case rel => exact ⟨(M + 1), j + 1, m5, O', false, by first | rfl | exact trivial, by go_num, by omega, by omega, by omega, Lib.hid (fun h => by cases h), Lib.hid (by have := S0.out; have := hS2.out; have := hN2.out; omega), H5, B5⟩
              case measure => simp [intOf]; omega
          · by_cases hz4 : z = 4
            · subst hz4
              go_wp2_with fail
              have HW := P0
              have BW := P3
              obtain ⟨E, S', hE, hS⟩ : ∃ E S', E = deletedE (sSh O M off ((N : Int) - M)) nm ∧ S' = deletedS (sSh O M off ((N : Int) - M)) nm := ⟨_, _, rfl, rfl⟩
              have OUT := Lib.hid (out_delete O M off ((N : Int) - M) nm)
              rw [← hE, ← hS] at OUT
              have P := delete_any W.heap.size k m (sSh O M off ((N : Int) - M)) nm wp P0.out (sSh_ok (T := M) m0 (by omega) (by omega) (by omega))
              rw [← hE, ← hS] at P
              clear hE hS
              with_reducible refine P.mono ?_
              clear P
              rintro e w5 ⟨rfl, m5, h5, s5⟩
              have H5 := Lib.hid h5
              have B5 := Lib.hid (BW.out.trans (HW.out.step_below s5))
              clear h5 s5
              rcases OUT.out with ⟨ho, hE, hS⟩ | ⟨ho, hE0, hE9, hS⟩ | ⟨ho, hL, hE, hS⟩ | ⟨ho, hL, hE, O', hS, hs, hn⟩
              · subst ho hE hS
                have em : M = (N : Int) := A0.out rfl
                subst em

                have PO : Hid (Calls Try.prog 24 #[.pointer (some ⟨k, 0, none⟩)] w5 fun e w' => e = .returned (.bool true) ∧ w5 = w') := Lib.hid (off_any W.heap.size k m5 _ w5 H5.out)
                have PS : Hid (Calls Try.prog 27 #[.pointer (some ⟨k, 0, none⟩)] w5 fun e w' => e = .returned (.int .i64 (N : Int)) ∧ w5 = w') := Lib.hid (steps_any W.heap.size k m5 _ w5 H5.out)

                go_wp2_with (first
                  | (go_at_call 24; (with_reducible refine PO.out.mono ?_); rintro e w' ⟨rfl, rfl⟩)
                  | (go_at_call 27; (with_reducible refine PS.out.mono ?_); rintro e w' ⟨rfl, rfl⟩))
                go_roundw
                case rel => exact ⟨(N : Int), j + 1, m5, O, true, by first | rfl | exact trivial, by go_num, by omega, by omega, by omega, Lib.hid (fun _ => rfl), Lib.hid (by have := S0.out; omega), H5, B5⟩
                case measure => simp [intOf]; omega
              · subst ho hS
                have PO : Hid (Calls Try.prog 24 #[.pointer (some ⟨k, 0, none⟩)] w5 fun e w' => e = .returned (.bool false) ∧ w5 = w') := Lib.hid (off_any W.heap.size k m5 _ w5 H5.out)
                have PS : Hid (Calls Try.prog 27 #[.pointer (some ⟨k, 0, none⟩)] w5 fun e w' => e = .returned (.int .i64 M) ∧ w5 = w') := Lib.hid (steps_any W.heap.size k m5 _ w5 H5.out)
                have te0 : (E == 0) = false := by simpa using hE0
                have te9 : (E == 9) = false := by simpa using hE9
                go_wp2_with (first
                  | (go_at_call 24; (with_reducible refine PO.out.mono ?_); rintro e w' ⟨rfl, rfl⟩)
                  | (go_at_call 27; (with_reducible refine PS.out.mono ?_); rintro e w' ⟨rfl, rfl⟩))
                go_roundw
                case rel => exact ⟨M, j + 1, m5, O, false, by first | rfl | exact trivial, by go_num, by omega, by omega, by omega, Lib.hid (fun h => by cases h), Lib.hid (by have := S0.out; omega), H5, B5⟩
                case measure => simp [intOf]; omega
              · subst ho hE hS
                have em : M = (N : Int) := by omega
                subst em

                have PO : Hid (Calls Try.prog 24 #[.pointer (some ⟨k, 0, none⟩)] w5 fun e w' => e = .returned (.bool true) ∧ w5 = w') := Lib.hid (off_any W.heap.size k m5 _ w5 H5.out)
                have PS : Hid (Calls Try.prog 27 #[.pointer (some ⟨k, 0, none⟩)] w5 fun e w' => e = .returned (.int .i64 (N : Int)) ∧ w5 = w') := Lib.hid (steps_any W.heap.size k m5 _ w5 H5.out)

                go_wp2_with (first
                  | (go_at_call 24; (with_reducible refine PO.out.mono ?_); rintro e w' ⟨rfl, rfl⟩)
                  | (go_at_call 27; (with_reducible refine PS.out.mono ?_); rintro e w' ⟨rfl, rfl⟩))
                go_roundw
                case rel => exact ⟨(N : Int), j + 1, m5, O, true, by first | rfl | exact trivial, by go_num, by omega, by omega, by omega, Lib.hid (fun _ => rfl), Lib.hid (by have := S0.out; omega), H5, B5⟩
                case measure => simp [intOf]; omega
              · subst ho hE hS
                have hM : M + 1 ≤ (N : Int) := by omega
                have hL2 : (N : Int) - M - 1 = (N : Int) - (M + 1) := by omega
                rw [hL2] at H5
                clear hL2
                have hS2 := Lib.hid hs
                have hN2 := Lib.hid hn
                clear hs hn hL

                have PO : Hid (Calls Try.prog 24 #[.pointer (some ⟨k, 0, none⟩)] w5 fun e w' => e = .returned (.bool false) ∧ w5 = w') := Lib.hid (off_any W.heap.size k m5 _ w5 H5.out)
                have PS : Hid (Calls Try.prog 27 #[.pointer (some ⟨k, 0, none⟩)] w5 fun e w' => e = .returned (.int .i64 (M + 1)) ∧ w5 = w') := Lib.hid (steps_any W.heap.size k m5 _ w5 H5.out)

                go_wp2_with (first
                  | (go_at_call 24; (with_reducible refine PO.out.mono ?_); rintro e w' ⟨rfl, rfl⟩)
                  | (go_at_call 27; (with_reducible refine PS.out.mono ?_); rintro e w' ⟨rfl, rfl⟩))
                go_roundw
                case rel => exact ⟨(M + 1), j + 1, m5, O', false, by first | rfl | exact trivial, by go_num, by omega, by omega, by omega, Lib.hid (fun h => by cases h), Lib.hid (by have := S0.out; have := hS2.out; have := hN2.out; omega), H5, B5⟩
                case measure => simp [intOf]; omega
            · have u1 : (z == 1) = false := by simpa using hz1
              have u2 : (z == 2) = false := by simpa using hz2
              have u3 : (z == 3) = false := by simpa using hz3
              have u4 : (z == 4) = false := by simpa using hz4
              go_wp2_with fail
              obtain ⟨E, S', hE, hS⟩ : ∃ E S', E = nudgedE (sSh O M off ((N : Int) - M)) ∧ S' = nudged (sSh O M off ((N : Int) - M)) := ⟨_, _, rfl, rfl⟩
              have OUT := Lib.hid (out_nudge O M off ((N : Int) - M))
              rw [← hE, ← hS] at OUT
              have P0' := nudge_any W.heap.size k m (sSh O M off ((N : Int) - M)) wp P0.out (sSh_ok (T := M) m0 (by omega) (by omega) (by omega))
              rw [← hE, ← hS] at P0'
              clear hE hS
              with_reducible refine P0'.mono ?_
              clear P0'
              rintro e w5 ⟨rfl, h5, s5⟩
              have H5 := Lib.hid h5
              have B5 := Lib.hid (P3.out.trans (P0.out.step_below s5))
              obtain ⟨m5, hm5⟩ : ∃ m5, m5 = m := ⟨m, rfl⟩
              rw [← hm5] at H5
              clear h5 s5 hm5
              rcases OUT.out with ⟨ho, hE, hS⟩ | ⟨ho, hE0, hE9, hS⟩ | ⟨ho, hL, hE, hS⟩ | ⟨ho, hL, hE, O', hS, hs, hn⟩
              · subst ho hE hS
                have em : M = (N : Int) := A0.out rfl
                subst em

                have PO : Hid (Calls Try.prog 24 #[.pointer (some ⟨k, 0, none⟩)] w5 fun e w' => e = .returned (.bool true) ∧ w5 = w') := Lib.hid (off_any W.heap.size k m5 _ w5 H5.out)
                have PS : Hid (Calls Try.prog 27 #[.pointer (some ⟨k, 0, none⟩)] w5 fun e w' => e = .returned (.int .i64 (N : Int)) ∧ w5 = w') := Lib.hid (steps_any W.heap.size k m5 _ w5 H5.out)

                go_wp2_with (first
                  | (go_at_call 24; (with_reducible refine PO.out.mono ?_); rintro e w' ⟨rfl, rfl⟩)
                  | (go_at_call 27; (with_reducible refine PS.out.mono ?_); rintro e w' ⟨rfl, rfl⟩))
                go_roundw
                case rel => exact ⟨(N : Int), j + 1, m5, O, true, by first | rfl | exact trivial, by go_num, by omega, by omega, by omega, Lib.hid (fun _ => rfl), Lib.hid (by have := S0.out; omega), H5, B5⟩
                case measure => simp [intOf]; omega
              · subst ho hS
                have PO : Hid (Calls Try.prog 24 #[.pointer (some ⟨k, 0, none⟩)] w5 fun e w' => e = .returned (.bool false) ∧ w5 = w') := Lib.hid (off_any W.heap.size k m5 _ w5 H5.out)
                have PS : Hid (Calls Try.prog 27 #[.pointer (some ⟨k, 0, none⟩)] w5 fun e w' => e = .returned (.int .i64 M) ∧ w5 = w') := Lib.hid (steps_any W.heap.size k m5 _ w5 H5.out)
                have te0 : (E == 0) = false := by simpa using hE0
                have te9 : (E == 9) = false := by simpa using hE9
                go_wp2_with (first
                  | (go_at_call 24; (with_reducible refine PO.out.mono ?_); rintro e w' ⟨rfl, rfl⟩)
                  | (go_at_call 27; (with_reducible refine PS.out.mono ?_); rintro e w' ⟨rfl, rfl⟩))
                go_roundw
                case rel => exact ⟨M, j + 1, m5, O, false, by first | rfl | exact trivial, by go_num, by omega, by omega, by omega, Lib.hid (fun h => by cases h), Lib.hid (by have := S0.out; omega), H5, B5⟩
                case measure => simp [intOf]; omega
              · subst ho hE hS
                have em : M = (N : Int) := by omega
                subst em

                have PO : Hid (Calls Try.prog 24 #[.pointer (some ⟨k, 0, none⟩)] w5 fun e w' => e = .returned (.bool true) ∧ w5 = w') := Lib.hid (off_any W.heap.size k m5 _ w5 H5.out)
                have PS : Hid (Calls Try.prog 27 #[.pointer (some ⟨k, 0, none⟩)] w5 fun e w' => e = .returned (.int .i64 (N : Int)) ∧ w5 = w') := Lib.hid (steps_any W.heap.size k m5 _ w5 H5.out)

                go_wp2_with (first
                  | (go_at_call 24; (with_reducible refine PO.out.mono ?_); rintro e w' ⟨rfl, rfl⟩)
                  | (go_at_call 27; (with_reducible refine PS.out.mono ?_); rintro e w' ⟨rfl, rfl⟩))
                go_roundw
                case rel => exact ⟨(N : Int), j + 1, m5, O, true, by first | rfl | exact trivial, by go_num, by omega, by omega, by omega, Lib.hid (fun _ => rfl), Lib.hid (by have := S0.out; omega), H5, B5⟩
                case measure => simp [intOf]; omega
              · subst ho hE hS
                have hM : M + 1 ≤ (N : Int) := by omega
                have hL2 : (N : Int) - M - 1 = (N : Int) - (M + 1) := by omega
                rw [hL2] at H5
                clear hL2
                have hS2 := Lib.hid hs
                have hN2 := Lib.hid hn
                clear hs hn hL

                have PO : Hid (Calls Try.prog 24 #[.pointer (some ⟨k, 0, none⟩)] w5 fun e w' => e = .returned (.bool false) ∧ w5 = w') := Lib.hid (off_any W.heap.size k m5 _ w5 H5.out)
                have PS : Hid (Calls Try.prog 27 #[.pointer (some ⟨k, 0, none⟩)] w5 fun e w' => e = .returned (.int .i64 (M + 1)) ∧ w5 = w') := Lib.hid (steps_any W.heap.size k m5 _ w5 H5.out)

                go_wp2_with (first
                  | (go_at_call 24; (with_reducible refine PO.out.mono ?_); rintro e w' ⟨rfl, rfl⟩)
                  | (go_at_call 27; (with_reducible refine PS.out.mono ?_); rintro e w' ⟨rfl, rfl⟩))
                go_roundw
                case rel => exact ⟨(M + 1), j + 1, m5, O', false, by first | rfl | exact trivial, by go_num, by omega, by omega, by omega, Lib.hid (fun h => by cases h), Lib.hid (by have := S0.out; have := hS2.out; have := hN2.out; omega), H5, B5⟩
                case measure => simp [intOf]; omega
    · by_cases hlt : j < F.length
      · have q0 : (j : Int) < (F.length : Int) := by omega
        have q1 : ¬ (j : Int) < 60 := by omega
        clear hend
        cases off
        · go_wp2_with fail
          with_reducible refine (off_any W.heap.size k m _ wr K0.out).mono ?_
          rintro e w' ⟨rfl, rfl⟩
          rw [show (sSh O M false ((N : Int) - M)).off = false from rfl]
          go_wp2_with fail
          have PC := crash_none W.heap.size k m _ wr K0.out (by show O.length ≤ _; have := S0.out; omega) ((small_sum O).mono (by have := S0.out; omega))
          with_reducible refine PC.mono ?_
          clear PC
          rintro e w8 ⟨rfl, m8, h8, s8⟩
          have H8 := Lib.hid h8
          have B8 := Lib.hid (K3.out.trans (K0.out.step_below s8))
          clear h8 s8
          go_wp2_with fail
          with_reducible refine (off_any W.heap.size k m8 _ w8 H8.out).mono ?_
          rintro e w' ⟨rfl, rfl⟩
          rw [show (crashed (sSh O M false ((N : Int) - M)) []).off = false from rfl]
          go_wp2_with fail
          have PNU := nudge_any W.heap.size k m8 _ w8 H8.out ⟨⟨by show (0 : Int) ≤ 100000; decide, by show (100000 : Int) ≤ 1073741824; decide⟩, ⟨m0, by show M ≤ 1000000000; omega⟩, ⟨by show (0 : Int) ≤ 0; decide, by show (0 : Int) ≤ 9223372036854775807; decide⟩⟩
          rw [show nudgedE (crashed (sSh O M false ((N : Int) - M)) []) = 0 from rfl] at PNU
          with_reducible refine PNU.mono ?_
          clear PNU
          rintro e w9 ⟨rfl, h9, s9⟩
          have B9 := Lib.hid (B8.out.trans (H8.out.step_below s9))
          clear h9 s9
          go_wp2_with fail
          go_ret
          exact ⟨rfl, B9.out⟩
        · go_wp2_with fail
          with_reducible refine (off_any W.heap.size k m _ wr K0.out).mono ?_
          rintro e w' ⟨rfl, rfl⟩
          rw [show (sSh O M true ((N : Int) - M)).off = true from rfl]
          go_wp2_with fail
          have PG := get_any W.heap.size k m _ [97] wr K0.out
          rw [show getB (sSh O M true ((N : Int) - M)) [97] = [] from rfl, show getE (sSh O M true ((N : Int) - M)) [97] = 9 from rfl] at PG
          change Calls _ _ #[.pointer (some ⟨k, 0, none⟩), .string { data := #[97] }] _ _ at PG
          with_reducible refine PG.mono ?_
          clear PG
          rintro e w6 ⟨ga, gc, rfl, -, b6⟩
          have H6 := Lib.hid (K0.out.below b6)
          have B6 := Lib.hid (K3.out.trans (b6.mono K3.out.size))
          clear b6
          go_wp2_with fail
          have PL := list_any W.heap.size k m _ [] w6 H6.out (by show O.length ≤ _; have := S0.out; omega)
          rw [show listE (sSh O M true ((N : Int) - M)) = 9 from rfl] at PL
          change Calls _ _ #[.pointer (some ⟨k, 0, none⟩), .string { data := #[] }] _ _ at PL
          with_reducible refine PL.mono ?_
          clear PL
          rintro e w7 ⟨lv, rfl, -, b7⟩
          have H7 := Lib.hid (H6.out.below b7)
          have B7 := Lib.hid (B6.out.trans (b7.mono B6.out.size))
          clear b7
          go_wp2_with fail
          have PC := crash_none W.heap.size k m _ w7 H7.out (by show O.length ≤ _; have := S0.out; omega) ((small_sum O).mono (by have := S0.out; omega))
          with_reducible refine PC.mono ?_
          clear PC
          rintro e w8 ⟨rfl, m8, h8, s8⟩
          have H8 := Lib.hid h8
          have B8 := Lib.hid (B7.out.trans (H7.out.step_below s8))
          clear h8 s8
          go_wp2_with fail
          with_reducible refine (off_any W.heap.size k m8 _ w8 H8.out).mono ?_
          rintro e w' ⟨rfl, rfl⟩
          rw [show (crashed (sSh O M true ((N : Int) - M)) []).off = false from rfl]
          go_wp2_with fail
          have PNU := nudge_any W.heap.size k m8 _ w8 H8.out ⟨⟨by show (0 : Int) ≤ 100000; decide, by show (100000 : Int) ≤ 1073741824; decide⟩, ⟨m0, by show M ≤ 1000000000; omega⟩, ⟨by show (0 : Int) ≤ 0; decide, by show (0 : Int) ≤ 9223372036854775807; decide⟩⟩
          rw [show nudgedE (crashed (sSh O M true ((N : Int) - M)) []) = 0 from rfl] at PNU
          with_reducible refine PNU.mono ?_
          clear PNU
          rintro e w9 ⟨rfl, h9, s9⟩
          have B9 := Lib.hid (B8.out.trans (H8.out.step_below s9))
          clear h9 s9
          go_wp2_with fail
          go_ret
          exact ⟨rfl, B9.out⟩
      · have q0 : ¬ (j : Int) < (F.length : Int) := by omega
        clear hend
        cases off
        · go_wp2_with fail
          with_reducible refine (off_any W.heap.size k m _ wr K0.out).mono ?_
          rintro e w' ⟨rfl, rfl⟩
          rw [show (sSh O M false ((N : Int) - M)).off = false from rfl]
          go_wp2_with fail
          have PC := crash_none W.heap.size k m _ wr K0.out (by show O.length ≤ _; have := S0.out; omega) ((small_sum O).mono (by have := S0.out; omega))
          with_reducible refine PC.mono ?_
          clear PC
          rintro e w8 ⟨rfl, m8, h8, s8⟩
          have H8 := Lib.hid h8
          have B8 := Lib.hid (K3.out.trans (K0.out.step_below s8))
          clear h8 s8
          go_wp2_with fail
          with_reducible refine (off_any W.heap.size k m8 _ w8 H8.out).mono ?_
          rintro e w' ⟨rfl, rfl⟩
          rw [show (crashed (sSh O M false ((N : Int) - M)) []).off = false from rfl]
          go_wp2_with fail
          have PNU := nudge_any W.heap.size k m8 _ w8 H8.out ⟨⟨by show (0 : Int) ≤ 100000; decide, by show (100000 : Int) ≤ 1073741824; decide⟩, ⟨m0, by show M ≤ 1000000000; omega⟩, ⟨by show (0 : Int) ≤ 0; decide, by show (0 : Int) ≤ 9223372036854775807; decide⟩⟩
          rw [show nudgedE (crashed (sSh O M false ((N : Int) - M)) []) = 0 from rfl] at PNU
          with_reducible refine PNU.mono ?_
          clear PNU
          rintro e w9 ⟨rfl, h9, s9⟩
          have B9 := Lib.hid (B8.out.trans (H8.out.step_below s9))
          clear h9 s9
          go_wp2_with fail
          go_ret
          exact ⟨rfl, B9.out⟩
        · go_wp2_with fail
          with_reducible refine (off_any W.heap.size k m _ wr K0.out).mono ?_
          rintro e w' ⟨rfl, rfl⟩
          rw [show (sSh O M true ((N : Int) - M)).off = true from rfl]
          go_wp2_with fail
          have PG := get_any W.heap.size k m _ [97] wr K0.out
          rw [show getB (sSh O M true ((N : Int) - M)) [97] = [] from rfl, show getE (sSh O M true ((N : Int) - M)) [97] = 9 from rfl] at PG
          change Calls _ _ #[.pointer (some ⟨k, 0, none⟩), .string { data := #[97] }] _ _ at PG
          with_reducible refine PG.mono ?_
          clear PG
          rintro e w6 ⟨ga, gc, rfl, -, b6⟩
          have H6 := Lib.hid (K0.out.below b6)
          have B6 := Lib.hid (K3.out.trans (b6.mono K3.out.size))
          clear b6
          go_wp2_with fail
          have PL := list_any W.heap.size k m _ [] w6 H6.out (by show O.length ≤ _; have := S0.out; omega)
          rw [show listE (sSh O M true ((N : Int) - M)) = 9 from rfl] at PL
          change Calls _ _ #[.pointer (some ⟨k, 0, none⟩), .string { data := #[] }] _ _ at PL
          with_reducible refine PL.mono ?_
          clear PL
          rintro e w7 ⟨lv, rfl, -, b7⟩
          have H7 := Lib.hid (H6.out.below b7)
          have B7 := Lib.hid (B6.out.trans (b7.mono B6.out.size))
          clear b7
          go_wp2_with fail
          have PC := crash_none W.heap.size k m _ w7 H7.out (by show O.length ≤ _; have := S0.out; omega) ((small_sum O).mono (by have := S0.out; omega))
          with_reducible refine PC.mono ?_
          clear PC
          rintro e w8 ⟨rfl, m8, h8, s8⟩
          have H8 := Lib.hid h8
          have B8 := Lib.hid (B7.out.trans (H7.out.step_below s8))
          clear h8 s8
          go_wp2_with fail
          with_reducible refine (off_any W.heap.size k m8 _ w8 H8.out).mono ?_
          rintro e w' ⟨rfl, rfl⟩
          rw [show (crashed (sSh O M true ((N : Int) - M)) []).off = false from rfl]
          go_wp2_with fail
          have PNU := nudge_any W.heap.size k m8 _ w8 H8.out ⟨⟨by show (0 : Int) ≤ 100000; decide, by show (100000 : Int) ≤ 1073741824; decide⟩, ⟨m0, by show M ≤ 1000000000; omega⟩, ⟨by show (0 : Int) ≤ 0; decide, by show (0 : Int) ≤ 9223372036854775807; decide⟩⟩
          rw [show nudgedE (crashed (sSh O M true ((N : Int) - M)) []) = 0 from rfl] at PNU
          with_reducible refine PNU.mono ?_
          clear PNU
          rintro e w9 ⟨rfl, h9, s9⟩
          have B9 := Lib.hid (B8.out.trans (H8.out.step_below s9))
          clear h9 s9
          go_wp2_with fail
          go_ret
          exact ⟨rfl, B9.out⟩
end Go.Proofs.Ytfclnpfpddhjiaa
