/- The contract of on. -/
import Derived.Test.YtaohbpmefcdipaaDoorCtRdy
namespace Go.Proofs.YtaohbpmefcdipaaDoor.Ct
open Go.RowKit

theorem U_sub1 (n : Nat) (h : n < 64) : IntKind.u64.wrap (U (1#64 <<< n) - 1) = U ((1#64 <<< n) - 1#64) := by
  have e1 : (1#64 <<< n).toNat = 2 ^ n := by
    rw [BitVec.toNat_shiftLeft, Nat.shiftLeft_eq]
    show 1 * 2 ^ n % 2 ^ 64 = 2 ^ n
    rw [Nat.one_mul, Nat.mod_eq_of_lt (Nat.pow_lt_pow_right (a := 2) (by decide) h)]
  have hp := Nat.two_pow_pos n
  have hq : 2 ^ n < 2 ^ 64 := Nat.pow_lt_pow_right (a := 2) (by decide) h
  rw [IntKind.wrap_u64]
  unfold U
  rw [BitVec.toNat_sub, e1]
  have e2 : ((2 ^ 64 - (1#64).toNat + 2 ^ n) % 2 ^ 64 : Nat) = 2 ^ n - 1 := by
    show (2 ^ 64 - 1 + 2 ^ n) % 2 ^ 64 = _
    omega
  rw [e2]
  omega
theorem U_shl8 (x : W) : IntKind.u64.wrap (U x * 256) = U (x <<< 8) := U_shlw x 8
/-- A word's lowest byte. -/
def byteAt (x : W) : Nat := x.toNat % 256
theorem U_mod256 (x : W) : U x % 256 = (byteAt x : Int) := by unfold U byteAt; omega
theorem cells_of_range {w : World} {g o : Nat} {m : W} (h : w.rangeAt g o (modCells m)) : w.cell? ⟨g, o, none⟩ = some (.int .i64 (dgw m)) ∧ ∀ i, i < 256 → w.cell? ⟨g, o + 1 + i, none⟩ = some (.int .u64 (U (tab (1#64 <<< (dgw m).toNat) m i))) := by
  refine ⟨by have := h 0 _ (show (modCells m)[0]? = some (.int .i64 (dgw m)) from rfl); simpa using this, fun i hi => ?_⟩
  have := h (i + 1) _ (show (modCells m)[i + 1]? = some (.int .u64 (U (tab (1#64 <<< (dgw m).toNat) m i))) from by
    unfold modCells
    rw [List.getElem?_cons_succ, cellsW_get _ _ _ hi])
  rwa [show o + 1 + i = o + (i + 1) by omega]
/-- The sum of three that stand in a new block. -/
theorem add_three (x y z : W) (yv : Int) (t : TypeId) (w : World) (hy : yv = U y) :
    Calls Tryd.prog 57 #[.slice (some ⟨w.heap.size, 0, none⟩) 3 3] (w.alloc (.cells #[.int .u64 (U x), .int .u64 yv, .int .u64 (U z)] t (0, 0))) fun e w' => e = .returned (.int .u64 (U (x ^^^ y ^^^ z))) ∧ Below w.heap.size w w' := by
  subst hy
  have h : wordsIn (w.alloc (.cells #[.int .u64 (U x), .int .u64 (U y), .int .u64 (U z)] t (0, 0))) (some ⟨w.heap.size, 0, none⟩) [x, y, z] := by
    refine Or.inr ⟨_, _, rfl, fun j hj => ?_⟩
    match j, hj with
    | 0, _ => rw [World.cell?_alloc_at _ _ _ _ rfl]; rfl
    | 1, _ => rw [World.cell?_alloc_at _ _ _ _ rfl]; rfl
    | 2, _ => rw [World.cell?_alloc_at _ _ _ _ rfl]; rfl
  refine (add_any _ [x, y, z] 3 _ (Nat.le_refl 3) (by simp) h).mono ?_
  rintro e w' ⟨rfl, rfl⟩
  refine ⟨?_, (Below.refl _ _).alloc (Nat.le_refl _) _⟩
  simp [sumAll]
attribute [local go_sem] U_xor U_shr U_shl1 U_and U_shl8
set_option maxRecDepth 100000 in
set_option maxHeartbeats 1000000 in
theorem on_any (m s : W) (b : UInt8) (g o : Nat) (w : World) (hm : 8 ≤ dgw m) (hr : w.rangeAt g o (modCells m)) :
    Calls Tryd.prog 46 #[.pointer (some ⟨g, o, none⟩), .int .u64 (U s), .int .u8 (V b)] w fun e w' => e = .returned (.int .u64 (U (onW m s b))) ∧ Below w.heap.size w w' := by
  obtain ⟨c0, hc⟩ := cells_of_range hr
  have d1 := dgw_le m
  have d3 : dgw m - 8 ≤ 64 := by omega
  have d4 : 0 ≤ dgw m - 8 := by omega
  have hs1 := U_sub1 (dgw m - 8).toNat (by omega)
  have hby : byteAt (s >>> (dgw m - 8).toNat) < 256 := by unfold byteAt; omega
  have c1 := hc (byteAt (s >>> (dgw m - 8).toNat)) hby
  have i1 : 0 ≤ (byteAt (s >>> (dgw m - 8).toNat) : Int) := Int.natCast_nonneg _
  have i2 : (byteAt (s >>> (dgw m - 8).toNat) : Int) < 256 := by omega
  have HW : Hid (onW m s b = ((s &&& ((1#64 <<< (dgw m - 8).toNat) - 1#64)) <<< 8) ^^^ wB b ^^^ tab (1#64 <<< (dgw m).toNat) m (byteAt (s >>> (dgw m - 8).toNat))) := Lib.hid rfl
  have v0 := V_nonneg b
  have v1 := V_lt b
  clear hc hr
  have hu := U_mod256 (s >>> (dgw m - 8).toNat)
  generalize byteAt (s >>> (dgw m - 8).toNat) = I at *
  generalize tab (1#64 <<< (dgw m).toNat) m I = T at *
  go_enter Tryd.func46, Tryd.ntmps46
  go_wp2_with fail
  refine (add_three _ (wB b) T _ _ _ (U_wB b).symm).mono ?_
  rintro e w1 ⟨rfl, hb⟩
  have HB := Lib.hid hb
  clear hb
  go_wp2_with fail
  go_ret
  exact ⟨ret_u64 (by rw [HW.out]), HB.out⟩
end Go.Proofs.YtaohbpmefcdipaaDoor.Ct
