/- cell.Tape.Nonce; tapes that are none. -/
import Derived.Test.YtjkhokholcchfaaDoorTnx
import Derived.Laws.CopyOwn
namespace Go.Proofs.YtjkhokholcchfaaDoor
open Go.RowKit Sha

set_option maxRecDepth 100000 in
theorem next_nil (z : Int) (w : World) : Calls Tryd.prog 14 #[.pointer none, .int .i64 z] w fun e w' => e = .returned (.slice none 0 0) ∧ w = w' := by
  go_enter Tryd.func14, Tryd.ntmps14
  go_wp2_with fail
  go_ret
  exact ⟨rfl, rfl⟩
set_option maxRecDepth 100000 in
theorem next_few (tb : Nat) (z : Int) (hz : z < 1) (w : World) : Calls Tryd.prog 14 #[.pointer (some ⟨tb, 0, none⟩), .int .i64 z] w fun e w' => e = .returned (.slice none 0 0) ∧ w = w' := by
  go_enter Tryd.func14, Tryd.ntmps14
  go_wp2_with fail
  go_ret
  exact ⟨rfl, rfl⟩
set_option maxRecDepth 100000 in
set_option maxHeartbeats 2000000 in
theorem nonce_nil (w : World) : Calls Tryd.prog 15 #[.pointer none] w fun e w' => e = .returned (.agg (zeros 16).toArray) ∧ Below w.heap.size w w' := by
  have R0' := (blockIs.new w (zeros 16) 28).alloc (.cells (zeros 16).toArray 28 (0, 0))
  have S0' := blockIs.last (w.alloc (.cells (zeros 16).toArray 28 (0, 0))) (zeros 16) 28 (w.heap.size + 1) (by simp)
  have A0 := alloc_below w (.cells (zeros 16).toArray 28 (0, 0))
  have B1 := Lib.hid (A0.alloc A0.size (.cells (zeros 16).toArray 28 (0, 0)))
  have SZ : Hid (w.heap.size + 2 ≤ ((w.alloc (.cells (zeros 16).toArray 28 (0, 0))).alloc (.cells (zeros 16).toArray 28 (0, 0))).heap.size) := Lib.hid (by simp)
  have R0 := Lib.hid R0'
  have S0 := Lib.hid S0'
  clear R0' S0' A0
  have hz16 := Ci.zeroBlk
  go_enter Tryd.func15, Tryd.ntmps15
  go_upto_region 2 with fail
  generalize (w.alloc (.cells (zeros 16).toArray 28 (0, 0))).alloc (.cells (zeros 16).toArray 28 (0, 0)) = w1 at *
  have R0 : Hid (blockIs w1.drew w.heap.size (zeros 16) 28) := R0
  have S0 : Hid (blockIs w1.drew (w.heap.size + 1) (zeros 16) 28) := S0
  have B1 : Hid (Below w.heap.size w w1.drew) := Lib.hid (below_drew' B1.out)
  have SZ : Hid (w.heap.size + 2 ≤ w1.drew.heap.size) := SZ
  refine wp_region_noPanic ?_
  refine wp_region_held_drew (S := fun _ => True) (by kernel_rfl) trivial (fun hH => ?_)
  generalize w1.drew = x0 at *
  refine wpAnyH_take (i := 0) (oi := { dst := some 4, op := Op.slice 28 (Operand.tmp 3) none none none, type := 22, pos := "tape.go:43", after := #[], guard := none }) (v := .slice (some ⟨w.heap.size + 1, 0, none⟩) 16 16) rfl (by kernel_rfl) (by kernel_rfl) (by kernel_rfl) (fun _ _ _ h => h) (Or.inl ⟨by rfl, fun wx hS => ?_⟩) hH ?_
  · go_simp
  simp only [Act.put, List.setIfInBounds_toArray, List.set_cons_zero, List.set_cons_succ]
  refine wpAnyH_take (i := 1) (oi := { dst := some 5, op := Op.move (Operand.tmp 0), type := 25, pos := "tape.go:43", after := #[], guard := none }) (v := .pointer none) rfl (by kernel_rfl) (by kernel_rfl) (by kernel_rfl) (fun _ _ _ h => h) (Or.inl ⟨by rfl, fun wx hS => ?_⟩) hH ?_
  · go_simp
  simp only [Act.put, List.setIfInBounds_toArray, List.set_cons_zero, List.set_cons_succ]
  refine wpAnyH_ready (rs := [2]) (by kernel_rfl) (by simp) ?_
  refine AllReadyH.cons (o := { dst := some 6, op := Op.call { callee := Callee.value (Operand.func 14), args := #[Operand.tmp 5, Operand.const (Value.int IntKind.i64 16)], argTypes := #[25, 3] }, type := 22, pos := "tape.go:43", after := #[{ on := 1, ground := Ground.data }], guard := none }) rfl (fun KK hKK => ?_) AllReadyH.nil
  go_simp
  with_reducible refine (next_nil 16 x0).mono ?_
  rintro e x1 ⟨rfl, rfl⟩
  refine hKK.out _ _ trivial (fun _ => ?_)
  clear hKK KK hH
  try simp only [Act.put, List.setIfInBounds_toArray, List.set_cons_zero, List.set_cons_succ]
  refine wpAnyH_ready (rs := [3]) (by kernel_rfl) (by simp) ?_
  refine AllReadyH.cons (o := { dst := some 7, op := Op.call { callee := Callee.builtin Builtin.copy, args := #[Operand.tmp 4, Operand.tmp 6], argTypes := #[22, 22] }, type := 3, pos := "tape.go:43", after := #[{ on := 0, ground := Ground.data }, { on := 2, ground := Ground.data }, { on := 2, ground := Ground.chain }], guard := none }) rfl (fun KK hKK => ?_) AllReadyH.nil
  refine step_copy_splice rfl _ _ 22 22 rfl 5 Tryd.underlying22 (by kernel_rfl) _ _ 16 16 0 0 rfl rfl (w.heap.size + 1) 0 (zeros 16) 28 S0.out [] rfl (fun h => absurd h (by decide)) (by simp [zeros]) (by simp) (w.heap.size + 1) x0 (Below.refl _ _) (Nat.le_refl _) ?_
  intro x2 h1 hN
  have h1 := h1.out
  rw [show splice (zeros 16) 0 [] = zeros 16 by simp [splice]] at h1
  refine hKK.out _ _ trivial (fun _ => ?_)
  clear hKK KK
  try simp only [Act.put, List.setIfInBounds_toArray, List.set_cons_zero, List.set_cons_succ]
  refine wpAnyH_done (by kernel_rfl) ?_ _
  refine NoPanic.normal ?_
  have L16 : Hid ((zeros 16).length = 16) := Lib.hid (by simp [zeros])
  have E1 : Hid (blockIs x2 (w.heap.size + 1) (zeros 16) 28) := Lib.hid h1
  have E0 : Hid (blockIs x2 w.heap.size (zeros 16) 28) := Lib.hid (R0.out.below hN (Nat.lt_succ_self _))
  have RX := Lib.hid (Ci.range_of E1.out)
  have ONE : Hid (∀ v ∈ (zeros 16), v.oneCell' = true) := Lib.hid (by decide)
  have BB := Lib.hid (B1.out.trans (hN.mono (Nat.le_succ _)))
  clear h1 hN R0 S0
  obtain ⟨CC, hCC⟩ : ∃ CC, CC = (zeros 16) := ⟨_, rfl⟩
  rw [← hCC] at L16 E1 RX ONE
  have HCC := Lib.hid hCC
  clear hCC
  go_wp2_with (first
    | (refine Ci.wpList_load_mid_if (by rfl) 28 _ rfl (w.heap.size + 1) 0 rfl CC _ RX.out Tryd.underlying28 rfl (by rw [infoN, L16.out]) ?_)
    | (refine wpList_store_block rfl 28 _ _ rfl w.heap.size 0 CC rfl rfl (zeros 16) 28 E0.out (by rw [infoN, L16.out]) (by simp [zeros, L16.out]) ONE.out ?_))
  intro x3 g1 g2 g3
  have g1 := g1.out
  rw [splice_all _ _ (by simp [zeros, L16.out])] at g1
  have E3 := Lib.hid g1
  have K3 := Lib.hid (g2.out.below (B := w.heap.size) (Nat.le_refl _) (Nat.le_of_lt E0.out.lt))
  clear g1 g2 g3
  go_wp2_with fail
  refine bodyPost_ret (v := .agg CC.toArray) (results_cell_row rfl _ _ w.heap.size 28 _ (0, 0) _ rfl E3.out Tryd.underlying28 rfl (by rw [infoN]; simp [L16.out])) rfl ?_
  exact ⟨by rw [HCC.out], BB.out.trans K3.out⟩

set_option maxRecDepth 100000 in
set_option maxHeartbeats 4000000 in
theorem nonce_any (tb : Nat) (fa : Option Addr) (fc : Nat) (F : List UInt8) (told : Nat) (w : World) (h : tapeAt w tb fa fc F told) (ht2 : told ≤ 100000000) (ht : tables w) (htb : 1 ≠ tb ∧ 0 ≠ tb) :
    Calls Tryd.prog 15 #[.pointer (some ⟨tb, 0, none⟩)] w fun e w' => e = .returned (.agg (byteCells (tbytes F told 16)).toArray) ∧ tapeAt w' tb fa fc F (told + 16) ∧ But tb w w' := by
  have R0' := (blockIs.new w (zeros 16) 28).alloc (.cells (zeros 16).toArray 28 (0, 0))
  have S0' := blockIs.last (w.alloc (.cells (zeros 16).toArray 28 (0, 0))) (zeros 16) 28 (w.heap.size + 1) (by simp)
  have A0 := alloc_below w (.cells (zeros 16).toArray 28 (0, 0))
  have B1 := Lib.hid (A0.alloc A0.size (.cells (zeros 16).toArray 28 (0, 0)))
  have SZ : Hid (w.heap.size + 2 ≤ ((w.alloc (.cells (zeros 16).toArray 28 (0, 0))).alloc (.cells (zeros 16).toArray 28 (0, 0))).heap.size) := Lib.hid (by simp)
  have R0 := Lib.hid R0'
  have S0 := Lib.hid S0'
  have HT := Lib.hid h
  have TLT : Hid (tb < w.heap.size) := Lib.hid h.is.lt
  have HT1 := Lib.hid (h.below B1.out)
  have TB1 := Lib.hid (ht.below B1.out ht.2.2.1 ht.2.2.2)
  clear R0' S0' A0 h ht
  have hz16 := Ci.zeroBlk
  go_enter Tryd.func15, Tryd.ntmps15
  go_upto_region 2 with fail
  generalize (w.alloc (.cells (zeros 16).toArray 28 (0, 0))).alloc (.cells (zeros 16).toArray 28 (0, 0)) = w1 at *
  have R0 : Hid (blockIs w1.drew w.heap.size (zeros 16) 28) := R0
  have S0 : Hid (blockIs w1.drew (w.heap.size + 1) (zeros 16) 28) := S0
  have HN := next_any tb fa fc F told 16 w1.drew (HT1.out.below (below_drew' (Below.refl _ _))) (by omega) (by omega) ht2 (TB1.out.below (below_drew' (Below.refl _ _)) TB1.out.2.2.1 TB1.out.2.2.2) htb
  rw [show ((16 : Nat) : Int) = 16 from rfl] at HN
  have HN := Lib.hid HN
  have B1 : Hid (Below w.heap.size w w1.drew) := Lib.hid (below_drew' B1.out)
  have SZ : Hid (w.heap.size + 2 ≤ w1.drew.heap.size) := SZ
  clear HT1 TB1
  refine wp_region_noPanic ?_
  refine wp_region_held_drew (S := fun _ => True) (by kernel_rfl) trivial (fun hH => ?_)
  generalize w1.drew = x0 at *
  refine wpAnyH_take (i := 0) (oi := { dst := some 4, op := Op.slice 28 (Operand.tmp 3) none none none, type := 22, pos := "tape.go:43", after := #[], guard := none }) (v := .slice (some ⟨w.heap.size + 1, 0, none⟩) 16 16) rfl (by kernel_rfl) (by kernel_rfl) (by kernel_rfl) (fun _ _ _ h => h) (Or.inl ⟨by rfl, fun wx hS => ?_⟩) hH ?_
  · go_simp
  simp only [Act.put, List.setIfInBounds_toArray, List.set_cons_zero, List.set_cons_succ]
  refine wpAnyH_take (i := 1) (oi := { dst := some 5, op := Op.move (Operand.tmp 0), type := 25, pos := "tape.go:43", after := #[], guard := none }) (v := .pointer (some ⟨tb, 0, none⟩)) rfl (by kernel_rfl) (by kernel_rfl) (by kernel_rfl) (fun _ _ _ h => h) (Or.inl ⟨by rfl, fun wx hS => ?_⟩) hH ?_
  · go_simp
  simp only [Act.put, List.setIfInBounds_toArray, List.set_cons_zero, List.set_cons_succ]
  refine wpAnyH_ready (rs := [2]) (by kernel_rfl) (by simp) ?_
  refine AllReadyH.cons (o := { dst := some 6, op := Op.call { callee := Callee.value (Operand.func 14), args := #[Operand.tmp 5, Operand.const (Value.int IntKind.i64 16)], argTypes := #[25, 3] }, type := 22, pos := "tape.go:43", after := #[{ on := 1, ground := Ground.data }], guard := none }) rfl (fun KK hKK => ?_) AllReadyH.nil
  go_simp
  with_reducible refine HN.out.mono ?_
  rintro e x1 ⟨v, rfl, ho, hta, hbt⟩
  obtain ⟨a, c, rfl, o1, o2, o3, o4⟩ := ho.form
  rw [tbytes_length] at o1 ⊢
  have s2 := hbt.is S0.out (by have := TLT.out; omega)
  have r2 := hbt.is R0.out (by have := TLT.out; omega)
  refine hKK.out _ _ trivial (fun _ => ?_)
  clear hKK KK hH
  try simp only [Act.put, List.setIfInBounds_toArray, List.set_cons_zero, List.set_cons_succ]
  refine wpAnyH_ready (rs := [3]) (by kernel_rfl) (by simp) ?_
  refine AllReadyH.cons (o := { dst := some 7, op := Op.call { callee := Callee.builtin Builtin.copy, args := #[Operand.tmp 4, Operand.tmp 6], argTypes := #[22, 22] }, type := 3, pos := "tape.go:43", after := #[{ on := 0, ground := Ground.data }, { on := 2, ground := Ground.data }, { on := 2, ground := Ground.chain }], guard := none }) rfl (fun KK hKK => ?_) AllReadyH.nil
  refine step_copy_splice rfl _ _ 22 22 rfl 5 Tryd.underlying22 (by kernel_rfl) _ _ 16 16 16 c rfl rfl (w.heap.size + 1) 0 (zeros 16) 28 s2 (byteCells (tbytes F told 16)) (by rw [byteCells_length, tbytes_length]; rfl) (fun h => ⟨rfl, o3.cells h⟩) (by rw [byteCells_length, tbytes_length]; simp [zeros]) (byteCells_one _) (w.heap.size + 1) x1 (Below.refl _ _) (Nat.le_refl _) ?_
  intro x2 h1 hN
  have h1 := h1.out
  rw [splice_all _ _ (by rw [byteCells_length, tbytes_length]; simp [zeros])] at h1
  refine hKK.out _ _ trivial (fun _ => ?_)
  clear hKK KK
  try simp only [Act.put, List.setIfInBounds_toArray, List.set_cons_zero, List.set_cons_succ]
  refine wpAnyH_done (by kernel_rfl) ?_ _
  refine NoPanic.normal ?_
  have L16 : Hid ((byteCells (tbytes F told 16)).length = 16) := Lib.hid (by rw [byteCells_length, tbytes_length])
  have E1 : Hid (blockIs x2 (w.heap.size + 1) (byteCells (tbytes F told 16)) 28) := Lib.hid h1
  have E0 : Hid (blockIs x2 w.heap.size (zeros 16) 28) := Lib.hid (r2.below hN (Nat.lt_succ_self _))
  have RX := Lib.hid (Ci.range_of E1.out)
  have ONE : Hid (∀ v ∈ (byteCells (tbytes F told 16)), v.oneCell' = true) := Lib.hid (byteCells_one _)
  have BW : Hid (But tb w x2) := Lib.hid (but_then ((But.of_below B1.out).trans hbt) (hN.mono (Nat.le_succ _)))
  have IS2 := Lib.hid (hta.is.below hN (by have := TLT.out; omega))
  clear h1 hN R0 S0 s2 r2 ho o1 o2 o3 o4 hta hbt HN
  obtain ⟨CC, hCC⟩ : ∃ CC, CC = (byteCells (tbytes F told 16)) := ⟨_, rfl⟩
  rw [← hCC] at L16 E1 RX ONE
  have HCC := Lib.hid hCC
  clear hCC
  go_wp2_with (first
    | (refine Ci.wpList_load_mid_if (by rfl) 28 _ rfl (w.heap.size + 1) 0 rfl CC _ RX.out Tryd.underlying28 rfl (by rw [infoN, L16.out]) ?_)
    | (refine wpList_store_block rfl 28 _ _ rfl w.heap.size 0 CC rfl rfl (zeros 16) 28 E0.out (by rw [infoN, L16.out]) (by simp [zeros, L16.out]) ONE.out ?_))
  intro x3 g1 g2 g3
  have g1 := g1.out
  rw [splice_all _ _ (by simp [zeros, L16.out])] at g1
  have E3 := Lib.hid g1
  have K3 := Lib.hid (g2.out.below (B := w.heap.size) (Nat.le_refl _) (Nat.le_of_lt E0.out.lt))
  clear g1 g2 g3
  go_wp2_with fail
  refine bodyPost_ret (v := .agg CC.toArray) (results_cell_row rfl _ _ w.heap.size 28 _ (0, 0) _ rfl E3.out Tryd.underlying28 rfl (by rw [infoN]; simp [L16.out])) rfl ?_
  have B3 := but_then BW.out K3.out
  exact ⟨by rw [HCC.out], tapeAt.but HT.out B3 (IS2.out.below K3.out TLT.out), B3⟩
end Go.Proofs.YtjkhokholcchfaaDoor
