/- pack: split, where the count is one. -/
import Derived.Test.YtfhlcondnaahiaaDoorGn
import Derived.Test.YtfhlcondnaahiaaDoorPa
import Derived.Test.YtfhlcondnaahiaaDoorHe
namespace Go.Proofs.YtfhlcondnaahiaaDoor
open Go.RowKit Sha

theorem results_tmp3 {fn : Func} {t u v : Tmp} (h : fn.results = #[.tmp t, .tmp u, .tmp v]) (tmps : Array Value) (P : Program) (w : World) :
    (results fn tmps).run P w = .ok (.tuple #[tmps.getD t undef, tmps.getD u undef, tmps.getD v undef]) w := by
  simp [results, h]
theorem u64_or_nat (a b : Nat) (ha : a < 9223372036854775808) (hb : b < 9223372036854775808) : bits .or .u64 (a : Int) (b : Int) = ((a ||| b : Nat) : Int) := by
  have hx : a ||| b < 2 ^ 63 := Nat.or_lt_two_pow (by omega) (by omega)
  show IntKind.u64.wrap ((BitVec.ofInt 64 (a : Int) ||| BitVec.ofInt 64 (b : Int)).toNat : Int) = _
  rw [BitVec.toNat_or, ofInt_u64 a (by omega), ofInt_u64 b (by omega), IntKind.wrap_u64]
  omega
/-- Four bytes, the highest first, put together as split does. -/
theorem count_is (n d0 d1 d2 d3 s0 s1 s2 o1 o2 : Nat) (hn : n < 4294967296) (h0 : d0 = n / 16777216 % 256) (h1 : d1 = n / 65536 % 256) (h2 : d2 = n / 256 % 256) (h3 : d3 = n % 256)
    (hs0 : s0 = d0 * 16777216) (hs1 : s1 = d1 * 65536) (hs2 : s2 = d2 * 256) (ho1 : o1 = s0 + s1) (ho2 : o2 = o1 + s2) :
    bits .or .u64 (s0 : Int) (s1 : Int) = (o1 : Int) ∧ bits .or .u64 (o1 : Int) (s2 : Int) = (o2 : Int) ∧ bits .or .u64 (o2 : Int) (d3 : Int) = (n : Int) := by
  refine ⟨?_, ?_, ?_⟩
  · rw [u64_or_nat _ _ (by omega) (by omega), nat_join 24 s0 s1 (by omega) (by omega), ho1]
  · rw [u64_or_nat _ _ (by omega) (by omega), nat_join 16 o1 s2 (by omega) (by omega), ho2]
  · rw [u64_or_nat _ _ (by omega) (by omega), nat_join 8 o2 d3 (by omega) (by omega)]
    omega

set_option maxRecDepth 100000 in
set_option maxHeartbeats 4000000 in
theorem split_yes (p : Pt) (Y Z : List UInt8) (w : World) (hp : p.ok w) (he : p.l = (Y ++ Z) ++ be4 Z.length) (hl : (Y ++ Z).length ≤ 100000000) :
    Calls Tryd.prog 41 #[.slice p.a p.l.length p.c] w fun e w' => e = .returned (.tuple #[((p.sub 0 (Y ++ Z).length).sub 0 Y.length).val, ((p.sub 0 (Y ++ Z).length).sub Y.length (Y ++ Z).length).val, .bool true]) ∧ Below w.heap.size w w' := by
  have hn : (Y ++ Z).length = Y.length + Z.length := by simp
  have hlen : p.l.length = (Y ++ Z).length + 4 := by rw [he, List.length_append]; rfl
  generalize hM : (Y ++ Z).length = M at *
  have r1 : Hid (∀ X, _) := Lib.hid (fun X => p.run_h M (by omega) hp.1 X)
  have r2 : Hid (∀ X, _) := Lib.hid (fun X => p.run_l M (by omega) hp.1 X)
  have S2 := Lib.hid (Pt.sub_ok hp M p.l.length (by omega) (by omega))
  have S1 := Lib.hid (Pt.sub_ok hp 0 M (by omega) (by omega))
  obtain ⟨c2, hc2⟩ : ∃ q, q = p.sub M p.l.length := ⟨_, rfl⟩
  obtain ⟨c1, hc1⟩ : ∃ q, q = p.sub 0 M := ⟨_, rfl⟩
  rw [← hc2] at r2 S2
  rw [← hc1] at r1 S1 ⊢
  have L2 : c2.l = be4 Z.length := by rw [hc2]; show (p.l.take p.l.length).drop M = _; rw [List.take_length, he]; exact List.drop_left' hM
  have L1 : c1.l = Y ++ Z := by rw [hc1]; show (p.l.take M).drop 0 = _; rw [List.drop_zero, he]; exact List.take_left' hM
  have ll1 : c1.l.length = M := by rw [L1]; exact hM
  have hk1 := c1.run_h Y.length (by omega) S1.out.1
  have hk2 := c1.run_l Y.length (by omega) S1.out.1
  obtain ⟨q1, hq1⟩ : ∃ q, q = c1.sub 0 Y.length := ⟨_, rfl⟩
  obtain ⟨q2, hq2⟩ : ∃ q, q = c1.sub Y.length M := ⟨_, rfl⟩
  rw [ll1] at hk1 hk2
  rw [← hq1] at hk1 ⊢
  rw [← hq2] at hk2 ⊢
  have r3 := Lib.hid hk1
  have r4 := Lib.hid hk2
  clear hk1 hk2 hq1 hq2 hc1 hc2
  obtain ⟨cb, co, hca, hcells⟩ : ∃ b o, c2.a = some ⟨b, o, none⟩ ∧ ∀ j, j < 4 → w.cell? ⟨b, o + j, none⟩ = some (.int .u8 (V ((be4 Z.length).getD j 0))) := by
    rcases S2.out.2.2 with h0 | ⟨b, o, h1, h2⟩
    · rw [L2] at h0; exact absurd h0 (by simp [be4])
    · exact ⟨b, o, h1, fun j hj => by rw [h2 j (by rw [L2]; exact hj), L2]⟩
  have r2 := r2.out
  rw [hca, show c2.l.length = 4 by rw [L2]; rfl] at r2
  have r2 := Lib.hid r2
  have r1 := r1.out
  rw [ll1] at r1
  have r1 := Lib.hid r1
  obtain ⟨z, hz⟩ : ∃ z, z = Z.length := ⟨_, rfl⟩
  obtain ⟨y, hy⟩ : ∃ y, y = Y.length := ⟨_, rfl⟩
  rw [← hz] at hcells hn
  rw [← hy] at hn r3 r4
  have hbd : ∀ m : Nat, (V (UInt8.ofNat m)) = ((m % 256 : Nat) : Int) := fun m => by unfold V; simp
  have k0 := hcells 0 (by omega)
  have k1 := hcells 1 (by omega)
  have k2 := hcells 2 (by omega)
  have k3 := hcells 3 (by omega)
  simp only [be4, List.getD_cons_zero, List.getD_cons_succ, Nat.add_zero, hbd] at k0 k1 k2 k3
  obtain ⟨d0, h0⟩ : ∃ d, d = z / 16777216 % 256 := ⟨_, rfl⟩
  obtain ⟨d1, h1⟩ : ∃ d, d = z / 65536 % 256 := ⟨_, rfl⟩
  obtain ⟨d2, h2⟩ : ∃ d, d = z / 256 % 256 := ⟨_, rfl⟩
  obtain ⟨d3, h3⟩ : ∃ d, d = z % 256 := ⟨_, rfl⟩
  rw [← h0] at k0
  rw [← h1] at k1
  rw [← h2] at k2
  rw [← h3] at k3
  obtain ⟨s0, hs0⟩ : ∃ o : Nat, o = d0 * 16777216 := ⟨_, rfl⟩
  obtain ⟨s1, hs1⟩ : ∃ o : Nat, o = d1 * 65536 := ⟨_, rfl⟩
  obtain ⟨s2, hs2⟩ : ∃ o : Nat, o = d2 * 256 := ⟨_, rfl⟩
  obtain ⟨o1, hO1⟩ : ∃ o : Nat, o = s0 + s1 := ⟨_, rfl⟩
  obtain ⟨o2, hO2⟩ : ∃ o : Nat, o = o1 + s2 := ⟨_, rfl⟩
  have cnt := count_is z d0 d1 d2 d3 s0 s1 s2 o1 o2 (by omega) h0 h1 h2 h3 hs0 hs1 hs2 hO1 hO2
  have m0 : IntKind.u64.wrap ((d0 : Int) * 16777216) = (s0 : Int) := by rw [IntKind.wrap_u64]; omega
  have m1 : IntKind.u64.wrap ((d1 : Int) * 65536) = (s1 : Int) := by rw [IntKind.wrap_u64]; omega
  have m2 : IntKind.u64.wrap ((d2 : Int) * 256) = (s2 : Int) := by rw [IntKind.wrap_u64]; omega
  have t0 : IntKind.u64.wrap (d0 : Int) = (d0 : Int) := by rw [IntKind.wrap_u64]; omega
  have t1 : IntKind.u64.wrap (d1 : Int) = (d1 : Int) := by rw [IntKind.wrap_u64]; omega
  have t2 : IntKind.u64.wrap (d2 : Int) = (d2 : Int) := by rw [IntKind.wrap_u64]; omega
  have t3 : IntKind.u64.wrap (d3 : Int) = (d3 : Int) := by rw [IntKind.wrap_u64]; omega
  have u1 : IntKind.u64.wrap (M : Int) = (M : Int) := by rw [IntKind.wrap_u64]; omega
  have u2 : IntKind.i64.wrap (z : Int) = (z : Int) := by rw [IntWalk.i64_in _ (by omega)]
  have u3 : IntKind.i64.wrap ((M : Int) - (z : Int)) = (y : Int) := by rw [IntWalk.i64_in _ (by omega)]; omega
  have u4 : ¬ (M : Int) < (z : Int) := by omega
  have e1 : IntKind.i64.wrap ((p.l.length : Int) - 4) = (M : Int) := by rw [IntWalk.i64_in _ (by omega)]; omega
  have g1 : ¬ (p.l.length : Int) < 4 := by omega
  have E1 := Lib.hid e1
  have CN := Lib.hid cnt
  have K0 := Lib.hid k0
  have K1 := Lib.hid k1
  have K2 := Lib.hid k2
  have K3 := Lib.hid k3
  have M0 := Lib.hid m0
  have M1 := Lib.hid m1
  have M2 := Lib.hid m2
  have T0 := Lib.hid (And.intro t0 (And.intro t1 (And.intro t2 t3)))
  generalize hN : p.l.length = N at *
  clear hN hlen hn he hM hp hl hcells hs0 hs1 hs2 hO1 hO2 hz hy h0 h1 h2 h3 L1 L2 ll1 S1 S2 hca hbd cnt k0 k1 k2 k3 m0 m1 m2 t0 t1 t2 t3 e1
  go_enter Tryd.func41, Tryd.ntmps41
  go_wp2_with fail
  refine wp_region_noPanic ?_
  refine wp_region_held_drew (S := fun w' => Below w.heap.size w w') (by kernel_rfl) (below_drew' (Below.refl _ _)) (fun hH => ?_)
  generalize w.drew = x0 at *
  refine wpAnyH_take (i := 0) (oi := { dst := some 11, op := Op.move (Operand.tmp 0), type := 30, pos := "pack.go:92", after := #[], guard := none }) (v := .slice p.a N p.c) rfl (by kernel_rfl) (by kernel_rfl) (by kernel_rfl) (fun _ _ _ h => h) (Or.inl ⟨by rfl, fun wx hS => ?_⟩) hH ?_
  · go_simp
  simp only [Act.put, List.setIfInBounds_toArray, List.set_cons_zero, List.set_cons_succ]
  refine wpAnyH_take (i := 1) (oi := { dst := some 12, op := Op.move (Operand.tmp 0), type := 30, pos := "pack.go:92", after := #[], guard := none }) (v := .slice p.a N p.c) rfl (by kernel_rfl) (by kernel_rfl) (by kernel_rfl) (fun _ _ _ h => h) (Or.inl ⟨by rfl, fun wx hS => ?_⟩) hH ?_
  · go_simp
  simp only [Act.put, List.setIfInBounds_toArray, List.set_cons_zero, List.set_cons_succ]
  refine wpAnyH_take (i := 2) (oi := { dst := some 13, op := Op.call { callee := Callee.builtin Builtin.len, args := #[Operand.tmp 12], argTypes := #[30] }, type := 3, pos := "pack.go:92", after := #[⟨1, .data⟩], guard := none }) (v := .int .i64 (N : Int)) rfl (by kernel_rfl) (by kernel_rfl) (by kernel_rfl) (fun _ _ _ h => h) (Or.inl ⟨by rfl, fun wx hS => ?_⟩) hH ?_
  · go_simp
  simp only [Act.put, List.setIfInBounds_toArray, List.set_cons_zero, List.set_cons_succ]
  refine wpAnyH_take (i := 3) (oi := { dst := some 14, op := Op.binOp BinOp.sub 3 (Operand.tmp 13) (Operand.const (Value.int IntKind.i64 4)) 3, type := 3, pos := "pack.go:92", after := #[⟨2, .data⟩], guard := none }) (v := .int .i64 (M : Int)) rfl (by kernel_rfl) (by kernel_rfl) (by kernel_rfl) (fun _ _ _ h => h) (Or.inl ⟨by rfl, fun wx hS => ?_⟩) hH ?_
  · have e1 := E1.out; go_simp
  simp only [Act.put, List.setIfInBounds_toArray, List.set_cons_zero, List.set_cons_succ]
  refine wpAnyH_take (i := 4) (oi := { dst := some 15, op := Op.slice 30 (Operand.tmp 11) none (some (Operand.tmp 14)) none, type := 30, pos := "pack.go:92", after := #[⟨0, .data⟩, ⟨3, .data⟩], guard := none }) (v := .slice c1.a M c1.c) rfl (by kernel_rfl) (by kernel_rfl) (by kernel_rfl) (fun _ _ _ h => h) (Or.inl ⟨by rfl, fun wx hS => ?_⟩) hH ?_
  · have e1 := r1.out wx; go_simp
  simp only [Act.put, List.setIfInBounds_toArray, List.set_cons_zero, List.set_cons_succ]
  refine wpAnyH_take (i := 5) (oi := { dst := some 16, op := Op.move (Operand.tmp 0), type := 30, pos := "pack.go:92", after := #[], guard := none }) (v := .slice p.a N p.c) rfl (by kernel_rfl) (by kernel_rfl) (by kernel_rfl) (fun _ _ _ h => h) (Or.inl ⟨by rfl, fun wx hS => ?_⟩) hH ?_
  · go_simp
  simp only [Act.put, List.setIfInBounds_toArray, List.set_cons_zero, List.set_cons_succ]
  refine wpAnyH_take (i := 6) (oi := { dst := some 17, op := Op.move (Operand.tmp 0), type := 30, pos := "pack.go:92", after := #[], guard := none }) (v := .slice p.a N p.c) rfl (by kernel_rfl) (by kernel_rfl) (by kernel_rfl) (fun _ _ _ h => h) (Or.inl ⟨by rfl, fun wx hS => ?_⟩) hH ?_
  · go_simp
  simp only [Act.put, List.setIfInBounds_toArray, List.set_cons_zero, List.set_cons_succ]
  refine wpAnyH_take (i := 7) (oi := { dst := some 18, op := Op.call { callee := Callee.builtin Builtin.len, args := #[Operand.tmp 17], argTypes := #[30] }, type := 3, pos := "pack.go:92", after := #[⟨6, .data⟩], guard := none }) (v := .int .i64 (N : Int)) rfl (by kernel_rfl) (by kernel_rfl) (by kernel_rfl) (fun _ _ _ h => h) (Or.inl ⟨by rfl, fun wx hS => ?_⟩) hH ?_
  · go_simp
  simp only [Act.put, List.setIfInBounds_toArray, List.set_cons_zero, List.set_cons_succ]
  refine wpAnyH_take (i := 8) (oi := { dst := some 19, op := Op.binOp BinOp.sub 3 (Operand.tmp 18) (Operand.const (Value.int IntKind.i64 4)) 3, type := 3, pos := "pack.go:92", after := #[⟨7, .data⟩], guard := none }) (v := .int .i64 (M : Int)) rfl (by kernel_rfl) (by kernel_rfl) (by kernel_rfl) (fun _ _ _ h => h) (Or.inl ⟨by rfl, fun wx hS => ?_⟩) hH ?_
  · have e1 := E1.out; go_simp
  simp only [Act.put, List.setIfInBounds_toArray, List.set_cons_zero, List.set_cons_succ]
  refine wpAnyH_take (i := 9) (oi := { dst := some 20, op := Op.slice 30 (Operand.tmp 16) (some (Operand.tmp 19)) none none, type := 30, pos := "pack.go:92", after := #[⟨5, .data⟩, ⟨8, .data⟩], guard := none }) (v := .slice (some ⟨cb, co, none⟩) 4 c2.c) rfl (by kernel_rfl) (by kernel_rfl) (by kernel_rfl) (fun _ _ _ h => h) (Or.inl ⟨by rfl, fun wx hS => ?_⟩) hH ?_
  · have e1 := r2.out wx; go_simp
  simp only [Act.put, List.setIfInBounds_toArray, List.set_cons_zero, List.set_cons_succ]
  refine wpAnyH_ready (rs := [10]) (by kernel_rfl) (by simp) ?_
  refine AllReadyH.cons (o := { dst := some 0, op := Op.assign (Operand.tmp 15), type := 30, pos := "pack.go:92", after := #[⟨4, .data⟩, ⟨0, .phase⟩, ⟨1, .phase⟩, ⟨2, .phase⟩, ⟨3, .phase⟩, ⟨4, .phase⟩, ⟨5, .phase⟩, ⟨6, .phase⟩, ⟨7, .textOnly .lateStoresUnsure⟩, ⟨8, .textOnly .lateStores⟩, ⟨9, .textOnly .lateStoresUnsure⟩], guard := none }) rfl (fun KK hKK => ?_) AllReadyH.nil
  go_simp
  refine hKK.out _ _ hH (fun hH => ?_)
  clear hKK KK
  try simp only [Act.put, List.setIfInBounds_toArray, List.set_cons_zero, List.set_cons_succ]
  refine wpAnyH_ready (rs := [11]) (by kernel_rfl) (by simp) ?_
  refine AllReadyH.cons (o := { dst := some 5, op := Op.assign (Operand.tmp 20), type := 30, pos := "pack.go:92", after := #[⟨9, .data⟩, ⟨10, .chain⟩, ⟨0, .phase⟩, ⟨1, .phase⟩, ⟨2, .phase⟩, ⟨3, .phase⟩, ⟨4, .phase⟩, ⟨5, .phase⟩, ⟨6, .phase⟩, ⟨7, .phase⟩, ⟨8, .phase⟩, ⟨9, .phase⟩, ⟨10, .phase⟩], guard := none }) rfl (fun KK hKK => ?_) AllReadyH.nil
  go_simp
  refine hKK.out _ _ hH (fun hH => ?_)
  clear hKK KK
  try simp only [Act.put, List.setIfInBounds_toArray, List.set_cons_zero, List.set_cons_succ]
  refine wpAnyH_done (by kernel_rfl) ?_ _
  refine NoPanic.normal ?_
  have KB1 := Lib.hid hH
  clear hH
  go_wp2_with fail
  refine wp_region_noPanic ?_
  refine wp_region_held_drew (S := fun w' => Below w.heap.size w w') (by kernel_rfl) (below_drew' KB1.out) (fun hH => ?_)
  generalize x0.drew = y0 at *
  refine wpAnyH_take (i := 0) (oi := { dst := some 21, op := Op.move (Operand.tmp 5), type := 30, pos := "pack.go:93", after := #[], guard := none }) (v := .slice (some ⟨cb, co, none⟩) 4 c2.c) rfl (by kernel_rfl) (by kernel_rfl) (by kernel_rfl) (fun _ _ _ h => h) (Or.inl ⟨by rfl, fun wx hS => ?_⟩) hH ?_
  · go_simp
  simp only [Act.put, List.setIfInBounds_toArray, List.set_cons_zero, List.set_cons_succ]
  refine wpAnyH_take (i := 1) (oi := { dst := some 22, op := Op.indexAddr 30 (Operand.tmp 21) (Operand.const (Value.int IntKind.i64 0)), type := 0, pos := "pack.go:93", after := #[⟨0, .data⟩], guard := none }) (v := .pointer (some ⟨cb, co, none⟩)) rfl (by kernel_rfl) (by kernel_rfl) (by kernel_rfl) (fun _ _ _ h => h) (Or.inl ⟨by rfl, fun wx hS => ?_⟩) hH ?_
  · go_simp
  simp only [Act.put, List.setIfInBounds_toArray, List.set_cons_zero, List.set_cons_succ]
  refine wpAnyH_take (i := 2) (oi := { dst := some 23, op := Op.load 5 (Operand.tmp 22), type := 5, pos := "pack.go:93", after := #[⟨1, .data⟩], guard := none }) (v := .int .u8 (d0 : Int)) rfl (by kernel_rfl) (by kernel_rfl) (by kernel_rfl) (fun _ _ _ h => h) (Or.inl ⟨by rfl, fun wx hS => ?_⟩) hH ?_
  · have e1 := (hS.cell (block_lt_of_cell K0.out)).trans K0.out; go_simp
  simp only [Act.put, List.setIfInBounds_toArray, List.set_cons_zero, List.set_cons_succ]
  refine wpAnyH_take (i := 3) (oi := { dst := some 24, op := Op.convert 5 68 (Operand.tmp 23), type := 68, pos := "pack.go:93", after := #[⟨2, .data⟩], guard := none }) (v := .int .u64 (d0 : Int)) rfl (by kernel_rfl) (by kernel_rfl) (by kernel_rfl) (fun _ _ _ h => h) (Or.inl ⟨by rfl, fun wx hS => ?_⟩) hH ?_
  · have e1 := T0.out.1; go_simp
  simp only [Act.put, List.setIfInBounds_toArray, List.set_cons_zero, List.set_cons_succ]
  refine wpAnyH_take (i := 4) (oi := { dst := some 25, op := Op.binOp BinOp.shl 68 (Operand.tmp 24) (Operand.const (Value.int IntKind.u64 24)) 109, type := 68, pos := "pack.go:93", after := #[⟨3, .data⟩], guard := none }) (v := .int .u64 (s0 : Int)) rfl (by kernel_rfl) (by kernel_rfl) (by kernel_rfl) (fun _ _ _ h => h) (Or.inl ⟨by rfl, fun wx hS => ?_⟩) hH ?_
  · have e1 := M0.out; go_simp
  simp only [Act.put, List.setIfInBounds_toArray, List.set_cons_zero, List.set_cons_succ]
  refine wpAnyH_take (i := 5) (oi := { dst := some 26, op := Op.move (Operand.tmp 5), type := 30, pos := "pack.go:93", after := #[], guard := none }) (v := .slice (some ⟨cb, co, none⟩) 4 c2.c) rfl (by kernel_rfl) (by kernel_rfl) (by kernel_rfl) (fun _ _ _ h => h) (Or.inl ⟨by rfl, fun wx hS => ?_⟩) hH ?_
  · go_simp
  simp only [Act.put, List.setIfInBounds_toArray, List.set_cons_zero, List.set_cons_succ]
  refine wpAnyH_take (i := 6) (oi := { dst := some 27, op := Op.indexAddr 30 (Operand.tmp 26) (Operand.const (Value.int IntKind.i64 1)), type := 0, pos := "pack.go:93", after := #[⟨5, .data⟩], guard := none }) (v := .pointer (some ⟨cb, co + 1, none⟩)) rfl (by kernel_rfl) (by kernel_rfl) (by kernel_rfl) (fun _ _ _ h => h) (Or.inl ⟨by rfl, fun wx hS => ?_⟩) hH ?_
  · go_simp
  simp only [Act.put, List.setIfInBounds_toArray, List.set_cons_zero, List.set_cons_succ]
  refine wpAnyH_take (i := 7) (oi := { dst := some 28, op := Op.load 5 (Operand.tmp 27), type := 5, pos := "pack.go:93", after := #[⟨6, .data⟩], guard := none }) (v := .int .u8 (d1 : Int)) rfl (by kernel_rfl) (by kernel_rfl) (by kernel_rfl) (fun _ _ _ h => h) (Or.inl ⟨by rfl, fun wx hS => ?_⟩) hH ?_
  · have e1 := (hS.cell (block_lt_of_cell K1.out)).trans K1.out; go_simp
  simp only [Act.put, List.setIfInBounds_toArray, List.set_cons_zero, List.set_cons_succ]
  refine wpAnyH_take (i := 8) (oi := { dst := some 29, op := Op.convert 5 68 (Operand.tmp 28), type := 68, pos := "pack.go:93", after := #[⟨7, .data⟩], guard := none }) (v := .int .u64 (d1 : Int)) rfl (by kernel_rfl) (by kernel_rfl) (by kernel_rfl) (fun _ _ _ h => h) (Or.inl ⟨by rfl, fun wx hS => ?_⟩) hH ?_
  · have e1 := T0.out.2.1; go_simp
  simp only [Act.put, List.setIfInBounds_toArray, List.set_cons_zero, List.set_cons_succ]
  refine wpAnyH_take (i := 9) (oi := { dst := some 30, op := Op.binOp BinOp.shl 68 (Operand.tmp 29) (Operand.const (Value.int IntKind.u64 16)) 109, type := 68, pos := "pack.go:93", after := #[⟨8, .data⟩], guard := none }) (v := .int .u64 (s1 : Int)) rfl (by kernel_rfl) (by kernel_rfl) (by kernel_rfl) (fun _ _ _ h => h) (Or.inl ⟨by rfl, fun wx hS => ?_⟩) hH ?_
  · have e1 := M1.out; go_simp
  simp only [Act.put, List.setIfInBounds_toArray, List.set_cons_zero, List.set_cons_succ]
  refine wpAnyH_take (i := 10) (oi := { dst := some 31, op := Op.binOp BinOp.or 68 (Operand.tmp 25) (Operand.tmp 30) 68, type := 68, pos := "pack.go:93", after := #[⟨4, .data⟩, ⟨9, .data⟩], guard := none }) (v := .int .u64 (o1 : Int)) rfl (by kernel_rfl) (by kernel_rfl) (by kernel_rfl) (fun _ _ _ h => h) (Or.inl ⟨by rfl, fun wx hS => ?_⟩) hH ?_
  · have e1 := CN.out.1; go_simp
  simp only [Act.put, List.setIfInBounds_toArray, List.set_cons_zero, List.set_cons_succ]
  refine wpAnyH_take (i := 11) (oi := { dst := some 32, op := Op.move (Operand.tmp 5), type := 30, pos := "pack.go:93", after := #[], guard := none }) (v := .slice (some ⟨cb, co, none⟩) 4 c2.c) rfl (by kernel_rfl) (by kernel_rfl) (by kernel_rfl) (fun _ _ _ h => h) (Or.inl ⟨by rfl, fun wx hS => ?_⟩) hH ?_
  · go_simp
  simp only [Act.put, List.setIfInBounds_toArray, List.set_cons_zero, List.set_cons_succ]
  refine wpAnyH_take (i := 12) (oi := { dst := some 33, op := Op.indexAddr 30 (Operand.tmp 32) (Operand.const (Value.int IntKind.i64 2)), type := 0, pos := "pack.go:93", after := #[⟨11, .data⟩], guard := none }) (v := .pointer (some ⟨cb, co + 2, none⟩)) rfl (by kernel_rfl) (by kernel_rfl) (by kernel_rfl) (fun _ _ _ h => h) (Or.inl ⟨by rfl, fun wx hS => ?_⟩) hH ?_
  · go_simp
  simp only [Act.put, List.setIfInBounds_toArray, List.set_cons_zero, List.set_cons_succ]
  refine wpAnyH_take (i := 13) (oi := { dst := some 34, op := Op.load 5 (Operand.tmp 33), type := 5, pos := "pack.go:93", after := #[⟨12, .data⟩], guard := none }) (v := .int .u8 (d2 : Int)) rfl (by kernel_rfl) (by kernel_rfl) (by kernel_rfl) (fun _ _ _ h => h) (Or.inl ⟨by rfl, fun wx hS => ?_⟩) hH ?_
  · have e1 := (hS.cell (block_lt_of_cell K2.out)).trans K2.out; go_simp
  simp only [Act.put, List.setIfInBounds_toArray, List.set_cons_zero, List.set_cons_succ]
  refine wpAnyH_take (i := 14) (oi := { dst := some 35, op := Op.convert 5 68 (Operand.tmp 34), type := 68, pos := "pack.go:93", after := #[⟨13, .data⟩], guard := none }) (v := .int .u64 (d2 : Int)) rfl (by kernel_rfl) (by kernel_rfl) (by kernel_rfl) (fun _ _ _ h => h) (Or.inl ⟨by rfl, fun wx hS => ?_⟩) hH ?_
  · have e1 := T0.out.2.2.1; go_simp
  simp only [Act.put, List.setIfInBounds_toArray, List.set_cons_zero, List.set_cons_succ]
  refine wpAnyH_take (i := 15) (oi := { dst := some 36, op := Op.binOp BinOp.shl 68 (Operand.tmp 35) (Operand.const (Value.int IntKind.u64 8)) 109, type := 68, pos := "pack.go:93", after := #[⟨14, .data⟩], guard := none }) (v := .int .u64 (s2 : Int)) rfl (by kernel_rfl) (by kernel_rfl) (by kernel_rfl) (fun _ _ _ h => h) (Or.inl ⟨by rfl, fun wx hS => ?_⟩) hH ?_
  · have e1 := M2.out; go_simp
  simp only [Act.put, List.setIfInBounds_toArray, List.set_cons_zero, List.set_cons_succ]
  refine wpAnyH_take (i := 16) (oi := { dst := some 37, op := Op.binOp BinOp.or 68 (Operand.tmp 31) (Operand.tmp 36) 68, type := 68, pos := "pack.go:93", after := #[⟨10, .data⟩, ⟨15, .data⟩], guard := none }) (v := .int .u64 (o2 : Int)) rfl (by kernel_rfl) (by kernel_rfl) (by kernel_rfl) (fun _ _ _ h => h) (Or.inl ⟨by rfl, fun wx hS => ?_⟩) hH ?_
  · have e1 := CN.out.2.1; go_simp
  simp only [Act.put, List.setIfInBounds_toArray, List.set_cons_zero, List.set_cons_succ]
  refine wpAnyH_take (i := 17) (oi := { dst := some 38, op := Op.move (Operand.tmp 5), type := 30, pos := "pack.go:93", after := #[], guard := none }) (v := .slice (some ⟨cb, co, none⟩) 4 c2.c) rfl (by kernel_rfl) (by kernel_rfl) (by kernel_rfl) (fun _ _ _ h => h) (Or.inl ⟨by rfl, fun wx hS => ?_⟩) hH ?_
  · go_simp
  simp only [Act.put, List.setIfInBounds_toArray, List.set_cons_zero, List.set_cons_succ]
  refine wpAnyH_take (i := 18) (oi := { dst := some 39, op := Op.indexAddr 30 (Operand.tmp 38) (Operand.const (Value.int IntKind.i64 3)), type := 0, pos := "pack.go:93", after := #[⟨17, .data⟩], guard := none }) (v := .pointer (some ⟨cb, co + 3, none⟩)) rfl (by kernel_rfl) (by kernel_rfl) (by kernel_rfl) (fun _ _ _ h => h) (Or.inl ⟨by rfl, fun wx hS => ?_⟩) hH ?_
  · go_simp
  simp only [Act.put, List.setIfInBounds_toArray, List.set_cons_zero, List.set_cons_succ]
  refine wpAnyH_take (i := 19) (oi := { dst := some 40, op := Op.load 5 (Operand.tmp 39), type := 5, pos := "pack.go:93", after := #[⟨18, .data⟩], guard := none }) (v := .int .u8 (d3 : Int)) rfl (by kernel_rfl) (by kernel_rfl) (by kernel_rfl) (fun _ _ _ h => h) (Or.inl ⟨by rfl, fun wx hS => ?_⟩) hH ?_
  · have e1 := (hS.cell (block_lt_of_cell K3.out)).trans K3.out; go_simp
  simp only [Act.put, List.setIfInBounds_toArray, List.set_cons_zero, List.set_cons_succ]
  refine wpAnyH_take (i := 20) (oi := { dst := some 41, op := Op.convert 5 68 (Operand.tmp 40), type := 68, pos := "pack.go:93", after := #[⟨19, .data⟩], guard := none }) (v := .int .u64 (d3 : Int)) rfl (by kernel_rfl) (by kernel_rfl) (by kernel_rfl) (fun _ _ _ h => h) (Or.inl ⟨by rfl, fun wx hS => ?_⟩) hH ?_
  · have e1 := T0.out.2.2.2; go_simp
  simp only [Act.put, List.setIfInBounds_toArray, List.set_cons_zero, List.set_cons_succ]
  refine wpAnyH_take (i := 21) (oi := { dst := some 42, op := Op.binOp BinOp.or 68 (Operand.tmp 37) (Operand.tmp 41) 68, type := 68, pos := "pack.go:93", after := #[⟨16, .data⟩, ⟨20, .data⟩], guard := none }) (v := .int .u64 (z : Int)) rfl (by kernel_rfl) (by kernel_rfl) (by kernel_rfl) (fun _ _ _ h => h) (Or.inl ⟨by rfl, fun wx hS => ?_⟩) hH ?_
  · have e1 := CN.out.2.2; go_simp
  simp only [Act.put, List.setIfInBounds_toArray, List.set_cons_zero, List.set_cons_succ]
  refine wpAnyH_ready (rs := [22]) (by kernel_rfl) (by simp) ?_
  refine AllReadyH.cons (o := { dst := some 6, op := Op.assign (Operand.tmp 42), type := 68, pos := "pack.go:93", after := #[⟨21, .data⟩, ⟨0, .phase⟩, ⟨1, .phase⟩, ⟨2, .phase⟩, ⟨3, .phase⟩, ⟨4, .phase⟩, ⟨5, .phase⟩, ⟨6, .phase⟩, ⟨7, .phase⟩, ⟨8, .phase⟩, ⟨9, .phase⟩, ⟨10, .phase⟩, ⟨11, .phase⟩, ⟨12, .phase⟩, ⟨13, .phase⟩, ⟨14, .phase⟩, ⟨15, .phase⟩, ⟨16, .phase⟩, ⟨17, .phase⟩, ⟨18, .phase⟩, ⟨19, .phase⟩, ⟨20, .phase⟩, ⟨21, .phase⟩], guard := none }) rfl (fun KK hKK => ?_) AllReadyH.nil
  go_simp
  refine hKK.out _ _ hH (fun hH => ?_)
  clear hKK KK
  try simp only [Act.put, List.setIfInBounds_toArray, List.set_cons_zero, List.set_cons_succ]
  refine wpAnyH_done (by kernel_rfl) ?_ _
  refine NoPanic.normal ?_
  have KB2 := Lib.hid hH
  clear hH
  go_wp2_with fail
  refine wp_region_noPanic ?_
  refine wp_region_held_drew (S := fun w' => Below w.heap.size w w') (by kernel_rfl) (below_drew' KB2.out) (fun hH => ?_)
  generalize y0.drew = z0 at *
  refine wpAnyH_take (i := 0) (oi := { dst := some 53, op := Op.move (Operand.tmp 0), type := 30, pos := "pack.go:98", after := #[], guard := none }) (v := .slice c1.a M c1.c) rfl (by kernel_rfl) (by kernel_rfl) (by kernel_rfl) (fun _ _ _ h => h) (Or.inl ⟨by rfl, fun wx hS => ?_⟩) hH ?_
  · go_simp
  simp only [Act.put, List.setIfInBounds_toArray, List.set_cons_zero, List.set_cons_succ]
  refine wpAnyH_take (i := 1) (oi := { dst := some 54, op := Op.move (Operand.tmp 7), type := 3, pos := "pack.go:98", after := #[], guard := none }) (v := .int .i64 (y : Int)) rfl (by kernel_rfl) (by kernel_rfl) (by kernel_rfl) (fun _ _ _ h => h) (Or.inl ⟨by rfl, fun wx hS => ?_⟩) hH ?_
  · go_simp
  simp only [Act.put, List.setIfInBounds_toArray, List.set_cons_zero, List.set_cons_succ]
  refine wpAnyH_take (i := 2) (oi := { dst := some 55, op := Op.slice 30 (Operand.tmp 53) none (some (Operand.tmp 54)) none, type := 30, pos := "pack.go:98", after := #[⟨0, .data⟩, ⟨1, .data⟩], guard := none }) (v := .slice q1.a q1.l.length q1.c) rfl (by kernel_rfl) (by kernel_rfl) (by kernel_rfl) (fun _ _ _ h => h) (Or.inl ⟨by rfl, fun wx hS => ?_⟩) hH ?_
  · have e1 := r3.out wx; go_simp
  simp only [Act.put, List.setIfInBounds_toArray, List.set_cons_zero, List.set_cons_succ]
  refine wpAnyH_take (i := 3) (oi := { dst := some 56, op := Op.move (Operand.tmp 0), type := 30, pos := "pack.go:98", after := #[], guard := none }) (v := .slice c1.a M c1.c) rfl (by kernel_rfl) (by kernel_rfl) (by kernel_rfl) (fun _ _ _ h => h) (Or.inl ⟨by rfl, fun wx hS => ?_⟩) hH ?_
  · go_simp
  simp only [Act.put, List.setIfInBounds_toArray, List.set_cons_zero, List.set_cons_succ]
  refine wpAnyH_take (i := 4) (oi := { dst := some 57, op := Op.move (Operand.tmp 7), type := 3, pos := "pack.go:98", after := #[], guard := none }) (v := .int .i64 (y : Int)) rfl (by kernel_rfl) (by kernel_rfl) (by kernel_rfl) (fun _ _ _ h => h) (Or.inl ⟨by rfl, fun wx hS => ?_⟩) hH ?_
  · go_simp
  simp only [Act.put, List.setIfInBounds_toArray, List.set_cons_zero, List.set_cons_succ]
  refine wpAnyH_take (i := 5) (oi := { dst := some 58, op := Op.slice 30 (Operand.tmp 56) (some (Operand.tmp 57)) none none, type := 30, pos := "pack.go:98", after := #[⟨3, .data⟩, ⟨4, .data⟩], guard := none }) (v := .slice q2.a q2.l.length q2.c) rfl (by kernel_rfl) (by kernel_rfl) (by kernel_rfl) (fun _ _ _ h => h) (Or.inl ⟨by rfl, fun wx hS => ?_⟩) hH ?_
  · have e1 := r4.out wx; go_simp
  simp only [Act.put, List.setIfInBounds_toArray, List.set_cons_zero, List.set_cons_succ]
  refine wpAnyH_ready (rs := [6]) (by kernel_rfl) (by simp) ?_
  refine AllReadyH.cons (o := { dst := some 2, op := Op.assign (Operand.tmp 55), type := 30, pos := "pack.go:98", after := #[⟨2, .data⟩, ⟨0, .phase⟩, ⟨1, .phase⟩, ⟨2, .phase⟩, ⟨3, .textOnly .lateStores⟩, ⟨4, .textOnly .lateStores⟩, ⟨5, .textOnly .lateStoresUnsure⟩], guard := none }) rfl (fun KK hKK => ?_) AllReadyH.nil
  go_simp
  refine hKK.out _ _ hH (fun hH => ?_)
  clear hKK KK
  try simp only [Act.put, List.setIfInBounds_toArray, List.set_cons_zero, List.set_cons_succ]
  refine wpAnyH_ready (rs := [7]) (by kernel_rfl) (by simp) ?_
  refine AllReadyH.cons (o := { dst := some 3, op := Op.assign (Operand.tmp 58), type := 30, pos := "pack.go:98", after := #[⟨5, .data⟩, ⟨6, .chain⟩, ⟨0, .phase⟩, ⟨1, .phase⟩, ⟨2, .phase⟩, ⟨3, .phase⟩, ⟨4, .phase⟩, ⟨5, .phase⟩, ⟨6, .phase⟩], guard := none }) rfl (fun KK hKK => ?_) AllReadyH.nil
  go_simp
  refine hKK.out _ _ hH (fun hH => ?_)
  clear hKK KK
  try simp only [Act.put, List.setIfInBounds_toArray, List.set_cons_zero, List.set_cons_succ]
  refine wpAnyH_ready (rs := [8]) (by kernel_rfl) (by simp) ?_
  refine AllReadyH.cons (o := { dst := some 4, op := Op.assign (Operand.const (Value.bool true)), type := 4, pos := "pack.go:98", after := #[⟨7, .chain⟩, ⟨0, .phase⟩, ⟨1, .phase⟩, ⟨2, .phase⟩, ⟨3, .phase⟩, ⟨4, .phase⟩, ⟨5, .phase⟩, ⟨6, .phase⟩, ⟨7, .phase⟩], guard := none }) rfl (fun KK hKK => ?_) AllReadyH.nil
  go_simp
  refine hKK.out _ _ hH (fun hH => ?_)
  clear hKK KK
  try simp only [Act.put, List.setIfInBounds_toArray, List.set_cons_zero, List.set_cons_succ]
  refine wpAnyH_done (by kernel_rfl) ?_ _
  refine NoPanic.normal ?_
  have KB3 := Lib.hid hH
  clear hH
  go_wp2_with fail
  refine bodyPost_ret (v := .tuple #[.slice q1.a q1.l.length q1.c, .slice q2.a q2.l.length q2.c, .bool true]) (results_tmp3 (t := 2) (u := 3) (v := 4) rfl _ _ _) rfl ?_
  exact ⟨rfl, KB3.out⟩
end Go.Proofs.YtfhlcondnaahiaaDoor
