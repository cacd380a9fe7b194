/- The contracts of fits, ready and on. -/
import Derived.Test.YtaohbpmefcdipaaDoorCtTab
namespace Go.Proofs.YtaohbpmefcdipaaDoor.Ct
open Go.RowKit

theorem wpList_build_is {P : Program} {ops : Array Oper} {rest : List Oper} {o : Oper} {a : Act} {w : World} {Q : Exit → Act → World → Prop} (hgd : o.guard = none) (ty : TypeId) (ps : Array (Nat × Operand)) (ho : o.op = .build ty ps)
    (qs : Array (Nat × Value)) (v : Value) (hrun : (Instr.build ty qs).run P w = .ok v w) (hq : (ps.toList.map fun p => (p.1, a.eval p.2)) = qs.toList) (h : wpList P ops Q rest (a.put o.dst v) w) : wpList P ops Q (o :: rest) a w := by
  refine wpList_plain hgd fun K hK => ?_
  have e : (ps.map fun (i, x) => (i, a.eval x)) = qs := by
    apply Array.toList_inj.1
    rw [Array.toList_map, ← hq]
  unfold Oper.wp execOp
  simp only [ho, Sem.run_bind, e, hrun, Result.andThen_ok, Sem.run_pure]
  exact hK _ _ h

/-- The cells of a modulus that was made ready. -/
def modCells (m : W) : List Value := .int .i64 (dgw m) :: cellsW (tab (1#64 <<< (dgw m).toNat) m) 256
def noMod : List Value := .int .i64 0 :: noughts 256
theorem zero_mod (w : World) : (zeroValue 108).run Tryd.prog w = .ok (.agg noMod.toArray) w := by kernel_rfl
theorem info_mod : (Tryd.prog.info? 108).map (·.size) = some 257 := by kernel_rfl
theorem build_mod (d : Int) (f : Nat → W) (w : World) : (Instr.build 108 #[(0, .int .i64 d), (1, .agg (cellsW f 256).toArray)]).run Tryd.prog w = .ok (.agg (Value.int .i64 d :: cellsW f 256).toArray) w := by kernel_rfl
theorem modCells_length (m : W) : (modCells m).length = 257 := by simp [modCells, cellsW_length]
theorem noMod_length : noMod.length = 257 := by rw [noMod, List.length_cons, noughts, List.length_replicate]
theorem noMod_ne : (noMod = []) = False := by simp [noMod]
theorem modCells_one (m : W) : ∀ v ∈ modCells m, v.oneCell' = true := by
  intro v hv
  rcases List.mem_cons.1 hv with rfl | h
  · rfl
  · exact cellsW_one _ _ v h
theorem dgw_le (p : W) : dgw p ≤ 63 := by unfold dgw deg; have := len_le p.toNat p.isLt; omega
theorem dgw_ge (p : W) : -1 ≤ dgw p := by unfold dgw deg; omega
theorem ne_of_deg {p : W} (h : 8 ≤ dgw p) : p ≠ 0 := fun e => by subst e; exact absurd h (by decide)
theorem dgw_log {m : W} (h : m ≠ 0) : dgw m = (m.toNat.log2 : Int) := deg_of_ne (ne_toNat h)

set_option maxHeartbeats 400000 in
set_option maxRecDepth 100000 in
theorem fits_any (m : W) (w : World) :
    Calls Tryd.prog 44 #[.int .u64 (U m)] w fun e w' => e = .returned (.bool (decide (8 ≤ dgw m))) ∧ w = w' := by
  have h1 := dgw_le m
  by_cases h : 8 ≤ dgw m
  · have t1 : decide (8 ≤ dgw m) = true := by simpa using h
    have t2 : decide (dgw m ≤ 63) = true := by simpa using h1
    clear h h1
    go_enter Tryd.func44, Tryd.ntmps44
    go_wp2_with ((with_reducible refine (deg_any _ _).mono ?_); rintro e w' ⟨rfl, rfl⟩)
    go_ret
    exact ⟨ret_bool t1.symm, rfl⟩
  · have t1 : decide (8 ≤ dgw m) = false := by simpa using h
    clear h h1
    go_enter Tryd.func44, Tryd.ntmps44
    go_wp2_with ((with_reducible refine (deg_any _ _).mono ?_); rintro e w' ⟨rfl, rfl⟩)
    go_ret
    exact ⟨ret_bool t1.symm, rfl⟩

attribute [local go_sem] U_shl1
set_option maxHeartbeats 1000000 in
set_option maxRecDepth 100000 in
theorem ready_any (m : W) (w : World) (hm : 8 ≤ dgw m) :
    Calls Tryd.prog 45 #[.int .u64 (U m)] w fun e w' => e = .returned (.agg (modCells m).toArray) ∧ Below w.heap.size w w' := by
  have hz := zero_mod
  have HM0 := Lib.hid (ne_of_deg hm)
  have d0 : 0 ≤ dgw m := by omega
  have d1 := dgw_le m
  have d2 : dgw m ≤ 64 := by omega
  clear hm
  go_enter Tryd.func45, Tryd.ntmps45
  go_wp2_with ((with_reducible refine (deg_any _ _).mono ?_); rintro e w' ⟨rfl, rfl⟩)
  refine (products_any _ _ _ HM0.out).mono ?_
  rintro e w1 ⟨rfl, hb⟩
  have hC : Value.int .i64 (dgw m) :: cellsW (tab (1#64 <<< (dgw m).toNat) m) 256 = modCells m := rfl
  have hbl := build_mod (dgw m) (tab (1#64 <<< (dgw m).toNat) m) w1
  rw [hC] at hbl
  have H0 := Lib.hid ((blockIs.new w noMod 108).below hb (by simp))
  have HB := Lib.hid (((Below.refl w.heap.size w).alloc (Nat.le_refl _) (.cells noMod.toArray 108 (0, 0))).trans (hb.mono (by simp)))
  have HBL := Lib.hid hbl
  clear hb hC hbl
  generalize cellsW (tab (1#64 <<< (dgw m).toNat) m) 256 = C at *
  have HL := Lib.hid (modCells_length m)
  have HO := Lib.hid (modCells_one m)
  generalize hD : modCells m = D at *
  have HD := Lib.hid hD
  clear hD
  have hne := noMod_ne
  go_wp2_with (first | (refine wpList_build_is rfl 108 _ rfl _ _ HBL.out rfl ?_) | (refine wpList_store_block rfl 108 _ _ rfl w.heap.size 0 D rfl rfl noMod 108 H0.out (by rw [info_mod, HL.out]) (by rw [HL.out, noMod_length]; decide) HO.out ?_))
  intro w5 h1 h2 h3
  have h1 := h1.out
  rw [splice_all _ _ (by rw [HL.out, noMod_length])] at h1
  have H1 := Lib.hid h1
  have H2 := Lib.hid (HB.out.trans (h2.out.below (Nat.le_refl _) HB.out.size))
  clear h1 h2 h3
  go_wp2_with fail
  refine bodyPost_ret (v := .agg D.toArray) (results_cell_row rfl _ _ w.heap.size 108 _ (0, 0) _ rfl H1.out Tryd.underlying108 rfl (by rw [info_mod]; simp [HL.out])) rfl ?_
  exact ⟨by rw [HD.out], H2.out⟩

/-- A byte as a word. -/
def wB (b : UInt8) : W := BitVec.ofNat 64 b.toNat
theorem U_wB (b : UInt8) : U (wB b) = V b := by
  unfold wB V
  rw [U_of _ (by have := b.toNat_lt; omega)]
theorem wB_toNat (b : UInt8) : (wB b).toNat = b.toNat := by
  unfold wB
  rw [BitVec.toNat_ofNat, Nat.mod_eq_of_lt (by have := b.toNat_lt; omega)]
/-- A sum goes on by a byte. -/
def lowN (m : W) : Nat := (dgw m - 8).toNat
def onW (m s : W) (b : UInt8) : W := ((s &&& ((1#64 <<< lowN m) - 1#64)) <<< 8) ^^^ wB b ^^^ tab (1#64 <<< (dgw m).toNat) m ((s >>> lowN m).toNat % 256)
theorem split_bits (s n : Nat) : s = (s % 2 ^ n) ^^^ (s / 2 ^ n) * 2 ^ n := by
  apply Nat.eq_of_testBit_eq
  intro i
  rw [Nat.testBit_xor, Nat.testBit_mod_two_pow, Nat.testBit_mul_two_pow, Nat.testBit_div_two_pow]
  by_cases h : i < n
  · simp [h, show ¬ n ≤ i by omega]
  · simp [h, show n ≤ i by omega, show i - n + n = i by omega]
theorem xor_mul_pow (x y n : Nat) : (x ^^^ y) * 2 ^ n = x * 2 ^ n ^^^ y * 2 ^ n := by
  rw [← Pm.pow_pm, ← Pm.pow_pm, ← Pm.pow_pm, Pm.pm_add_right]
theorem onW_toNat (m s : W) (b : UInt8) (hm : 8 ≤ dgw m) (hs : s.toNat < 2 ^ m.toNat.log2) : (onW m s b).toNat = Pm.pr (s.toNat * 2 ^ 8 ^^^ b.toNat) m.toNat := by
  have hm0 := ne_of_deg hm
  have hd := dgw_log hm0
  have hm' := ne_toNat hm0
  have hlog : m.toNat.log2 < 64 := (Nat.log2_lt hm').2 m.isLt
  obtain ⟨n, hn⟩ : ∃ n, m.toNat.log2 = n + 8 := ⟨m.toNat.log2 - 8, by omega⟩
  have hl : lowN m = n := by unfold lowN; omega
  have hpw : ∀ t, t < 64 → (1#64 <<< t).toNat = 2 ^ t := fun t ht => by
    rw [BitVec.toNat_shiftLeft, Nat.shiftLeft_eq]
    show 1 * 2 ^ t % 2 ^ 64 = 2 ^ t
    rw [Nat.one_mul, Nat.mod_eq_of_lt (Nat.pow_lt_pow_right (a := 2) (by decide) ht)]
  have e1 : (1#64 <<< n).toNat = 2 ^ n := hpw n (by omega)
  have e2 : (1#64 <<< (dgw m).toNat).toNat = 2 ^ (n + 8) := by
    rw [hd, Int.toNat_natCast, hn]
    exact hpw _ (by omega)
  have e3 : ((1#64 <<< n) - 1#64).toNat = 2 ^ n - 1 := by
    have hp := Nat.two_pow_pos n
    have hq : 2 ^ n < 2 ^ 64 := Nat.pow_lt_pow_right (a := 2) (by decide) (by omega)
    rw [BitVec.toNat_sub, e1]
    show (2 ^ 64 - 1 + 2 ^ n) % 2 ^ 64 = _
    omega
  rw [hn] at hs
  have hup : s.toNat / 2 ^ n < 256 := by
    rw [Nat.div_lt_iff_lt_mul (Nat.two_pow_pos n)]
    rw [Nat.pow_add] at hs
    omega
  have e4 : (s >>> n).toNat % 256 = s.toNat / 2 ^ n := by
    rw [BitVec.toNat_ushiftRight, Nat.shiftRight_eq_div_pow, Nat.mod_eq_of_lt hup]
  have hlo : s.toNat % 2 ^ n < 2 ^ n := Nat.mod_lt _ (Nat.two_pow_pos n)
  have hlo8 : (s.toNat % 2 ^ n) * 2 ^ 8 < 2 ^ (n + 8) := by
    rw [Nat.pow_add]; exact Nat.mul_lt_mul_of_pos_right hlo (by decide)
  have e5 : ((s &&& ((1#64 <<< n) - 1#64)) <<< 8).toNat = (s.toNat % 2 ^ n) * 2 ^ 8 := by
    rw [BitVec.toNat_shiftLeft, BitVec.toNat_and, e3, Nat.and_two_pow_sub_one_eq_mod, Nat.shiftLeft_eq]
    exact Nat.mod_eq_of_lt (Nat.lt_of_lt_of_le hlo8 (Nat.pow_le_pow_right (by decide) (by omega)))
  have hb8 : b.toNat < 2 ^ (n + 8) := Nat.lt_of_lt_of_le b.toNat_lt (Nat.pow_le_pow_right (by decide) (by omega))
  unfold onW
  rw [hl, BitVec.toNat_xor, BitVec.toNat_xor, e5, wB_toNat, tab_toNat _ _ hm0 _ (by rw [e4]; exact hup), e4, e2, Pm.pm_pow]
  conv => rhs; rw [split_bits s.toNat n, xor_mul_pow, Nat.mul_assoc, ← Nat.pow_add]
  have e6 : (s.toNat % 2 ^ n) * 2 ^ 8 ^^^ (s.toNat / 2 ^ n) * 2 ^ (n + 8) ^^^ b.toNat = ((s.toNat % 2 ^ n) * 2 ^ 8 ^^^ b.toNat) ^^^ (s.toNat / 2 ^ n) * 2 ^ (n + 8) := by
    rw [Nat.xor_assoc, Nat.xor_comm (_ * 2 ^ (n + 8)), ← Nat.xor_assoc]
  rw [e6, Pm.pr_add _ _ _ hm', Pm.pr_less ((s.toNat % 2 ^ n) * 2 ^ 8 ^^^ b.toNat) _ hm' (Pm.less_of_lt (by rw [hn]; exact Nat.xor_lt_two_pow hlo8 hb8))]
end Go.Proofs.YtaohbpmefcdipaaDoor.Ct
