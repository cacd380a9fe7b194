/- What GlyphBack's first loop asks: a text cut, a row of things of one's own, the law's kind. -/
import Derived.Test.YtmdcdepoeolbhaaGbp
import Derived.Test.YtmdcdepoeolbhaaLwr
namespace Go.Proofs.Ytmdcdepoeolbhaa
open Go.RowKit

theorem str_extract (l : List UInt8) (n : Nat) : (str l).extract 0 n = str (l.take n) := by
  apply ByteArray.ext
  rw [ByteArray.data_extract]
  apply Array.toList_inj.1
  simp [str]
theorem str_cut (T : List UInt8) (m : Nat) (h : m ≤ T.length) (w : World) : (Instr.slice 9 (.string (str T)) none (some (.int .i64 (m : Int))) none).run Try.prog w = .ok (.string (str (T.take m))) w := by
  have := run_slice_string_h (P := Try.prog) w 9 (str T) Try.underlying9 .i64 (m : Int) (by omega) (by rw [str_size]; omega)
  rw [this, Int.toNat_natCast, str_extract]
/-- A thing's cells; a row of things of one's own. -/
def Itm.cells (p : Itm) : List Value := [.int .i64 p.what, .int .i64 p.n, .string (str p.t)]
def icells (I : List Itm) : List Value := I.flatMap Itm.cells
theorem icells_length (I : List Itm) : (icells I).length = I.length * 3 := by
  induction I with
  | nil => rfl
  | cons p I ih => rw [icells, List.flatMap_cons, List.length_append]; show 3 + (icells I).length = _; rw [ih, List.length_cons]; omega
def rowT (w : World) (base : Nat) (v : Value) (I : List Itm) : Prop := w.ownsRow base 33 3 v I.length (icells I)
theorem info_thg : (Try.prog.info? 33).map (fun i => (i.zero, i.size, i.bytes)) = some (some (.agg #[.int .i64 0, .int .i64 0, .string (str [])]), 3, 32) := by kernel_rfl
theorem kind_is (a n : Int) (s : ByteArray) (w : World) : Calls Try.prog 13 #[.agg #[.int .i64 a, .int .i64 n, .string s]] w fun e w' => e = .returned (.int .i64 (kindOf a : Nat)) ∧ Below w.heap.size w w' := by
  have hk : wrap64 ((IntKind.u64.wrap a).tmod 4) = ((kindOf a : Nat) : Int) := by
    have hw : 0 ≤ IntKind.u64.wrap a := by rw [IntKind.wrap_u64]; omega
    have h1 := Int.emod_lt_of_pos (IntKind.u64.wrap a) (show (0 : Int) < 4 by omega)
    have h0 := Int.emod_nonneg (IntKind.u64.wrap a) (show (4 : Int) ≠ 0 by omega)
    rw [Int.tmod_eq_emod_of_nonneg hw]
    unfold kindOf wrap64
    omega
  have HK := Lib.hid hk
  clear hk
  go_enter Try.func13, Try.ntmps13
  go_wp2_with fail
  go_ret
  exact ⟨by rw [← HK.out]; rfl, (Below.refl _ _).alloc (Nat.le_refl _) _⟩
theorem kind_lt (a : Int) : kindOf a < 4 := by
  have h1 := Int.emod_lt_of_pos (IntKind.u64.wrap a) (show (0 : Int) < 4 by omega)
  have h0 := Int.emod_nonneg (IntKind.u64.wrap a) (show (4 : Int) ≠ 0 by omega)
  unfold kindOf
  omega
theorem wrap62 (z : Int) : ∃ n : Nat, n < 4611686018427387904 ∧ wrap64 ((IntKind.u64.wrap z).tmod 4611686018427387904) = (n : Int) := by
  have hw : 0 ≤ IntKind.u64.wrap z := by rw [IntKind.wrap_u64]; omega
  have h1 := Int.emod_lt_of_pos (IntKind.u64.wrap z) (show (0 : Int) < 4611686018427387904 by omega)
  have h0 := Int.emod_nonneg (IntKind.u64.wrap z) (show (4611686018427387904 : Int) ≠ 0 by omega)
  rw [Int.tmod_eq_emod_of_nonneg hw]
  refine ⟨(IntKind.u64.wrap z % 4611686018427387904).toNat, by omega, ?_⟩
  unfold wrap64
  omega
end Go.Proofs.Ytmdcdepoeolbhaa
