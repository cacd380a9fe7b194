/- Add and Close, of the states that made goes through; literals. -/
import Derived.Test.YtfhlcondnaahiaaDoorPs
import Derived.Test.YtfhlcondnaahiaaDoorHc
namespace Go.Proofs.YtfhlcondnaahiaaDoor
open Go.RowKit Sha

theorem parts_one {X : World} {g : Nat} {a : Option Addr} {c : Nat} {l : List UInt8} (h : X.cell? ⟨g, 0, none⟩ = some (.slice a l.length c)) (hk : Pt.ok0 X ⟨a, c, l⟩) : partsW X (some ⟨g, 0, none⟩) [l] := by
  refine .inr ⟨g, 0, rfl, fun j hj => ?_⟩
  obtain rfl : j = 0 := by simp at hj; exact hj
  exact ⟨a, c, h, hk.1.1, hk.1.2.1, hk.2, hk.1.2.2⟩
/-- The first bytes of what came in. -/
theorem cut_to (a : Option Addr) (c : Nat) (l : List UInt8) (n g : Nat) (hg : g = min l.length n) (hc : l.length ≤ c) :
    ∃ sa sc, (∀ X, (Instr.slice 30 (.slice a l.length c) none (some (.int .i64 (g : Int))) none).run Tryd.prog X = .ok (.slice sa (l.take n).length sc) X) ∧ ∀ Y, Pt.ok0 Y ⟨a, c, l⟩ → Pt.ok0 Y ⟨sa, sc, l.take n⟩ := by
  have e : l.take n = (Pt.sub ⟨a, c, l⟩ 0 g).l := by unfold Pt.sub; rw [List.drop_zero, hg]; simp only [List.take_eq_take_iff]; omega
  refine ⟨(Pt.sub ⟨a, c, l⟩ 0 g).a, (Pt.sub ⟨a, c, l⟩ 0 g).c, fun X => ?_, fun Y h => ?_⟩
  · rw [e]; exact Pt.run_h ⟨a, c, l⟩ g (by show g ≤ l.length; omega) hc X
  · rw [e]; exact Pt.sub_ok0 h 0 g (by omega) (by show g ≤ l.length; omega)


theorem add_ms (n : UInt8) (base wb tb : Nat) (fa : Option Addr) (fc : Nat) (s : Ms) (k : Nat) (hg : s.Good k) (hk : k ≤ 20) (v1 v2 : Value) (gm : Option Nat) (k8 : UInt8) (b : List UInt8) (hk8 : V k8 = 1 ∨ V k8 = 2) (hb : b.length ≤ 150) (g : Nat) (X : World)
    (hW : WrAt X base wb tb fa fc [n] s.told (penCells (ringN n) tb) s.B s.L v1 v2 gm) (ht : tables X) (hP : ∀ Y, But tb X Y → partsW Y (some ⟨g, 0, none⟩) [b]) :
    Calls Tryd.prog 8 #[.pointer (some ⟨wb, 0, none⟩), .int .i64 (V k8), .slice (some ⟨g, 0, none⟩) 1 1] X fun e w' => ∃ ID yes u1 u2 gn, ID.length = 32 ∧ Hid (yes = decide (hmac (kN n 3) (k8 :: b) ∉ s.L.map En.id)) ∧ e = .returned (.tuple #[.agg (byteCells ID).toArray, .bool yes, .int .i64 0]) ∧
      WrAt w' base wb tb fa fc [n] (msStep n s k8 b).told (penCells (ringN n) tb) (msStep n s k8 b).B (msStep n s k8 b).L u1 u2 gn ∧ Kp (wF wb tb v1 v2 gm) X w' ∧ ∀ i, wF wb tb u1 u2 gn i → wF wb tb v1 v2 gm i ∨ X.heap.size ≤ i := by
  have := add_any base wb tb fa fc [n] s.told (kN n 1) (kN n 2) (kN n 3) s.B s.L v1 v2 gm k8 (some ⟨g, 0, none⟩) 1 [b] X (kN_length _ _) (kN_length _ _) (kN_length _ _) hk8 hW ht (by simp) (by simp) (fun h => by cases h) (by simp; omega) hP (by have := hg.told; omega) (by have := hg.len; omega) (by have := hg.b; omega)
  rw [show [b].flatten = b by simp, addR_ms n s k hg hk k8 b hb] at this
  refine this.mono ?_
  rintro e w' ⟨rfl, u1, u2, gn, h1, h2, h3⟩
  exact ⟨_, _, u1, u2, gn, hmac_length _ _, Lib.hid rfl, rfl, h1, h2, h3⟩
theorem close_ms (n : UInt8) (base wb tb : Nat) (fa : Option Addr) (fc : Nat) (s : Ms) (k : Nat) (hg : s.Good k) (hk : k ≤ 20) (hne : s.L ≠ []) (v1 v2 : Value) (gm : Option Nat) (X : World)
    (hW : WrAt X base wb tb fa fc [n] s.told (penCells (ringN n) tb) s.B s.L v1 v2 gm) (ht : tables X) :
    Calls Tryd.prog 9 #[.pointer (some ⟨wb, 0, none⟩)] X fun e w' => ∃ bv, e = .returned (.tuple #[.string (str (packName (closeB (kN n 1) (kN n 2) [n] s.told s.B s.L))), bv, v2, .int .i64 0]) ∧ Ci.ownB w' X.heap.size bv (closeB (kN n 1) (kN n 2) [n] s.told s.B s.L) ∧ w'.ownsRow base 66 35 v2 s.L.length (enCells s.L) ∧ Kp (fun k => k = wb ∨ k = tb) X w' := by
  refine (close_any base wb tb fa fc [n] s.told (kN n 1) (kN n 2) (kN n 3) s.B s.L v1 v2 gm X (kN_length _ _) (kN_length _ _) (kN_length _ _) hW ht (by have := hg.told; omega) (by have := hg.len; omega) (by have := hg.b; omega) (fun x hx => (hg.fine x hx).1) hne).mono ?_
  rintro e w' ⟨bv, rfl, h1, h2, -, h4⟩
  exact ⟨bv, rfl, h1, h2, h4⟩
theorem msStep_ne (n : UInt8) (s : Ms) (k8 : UInt8) (b : List UInt8) (h : s.L ≠ [] ∨ s.L = []) : (msStep n s k8 b).L ≠ [] := by
  unfold msStep
  by_cases hin : hmac (kN n 3) (k8 :: b) ∈ s.L.map En.id
  · rw [if_pos hin]
    intro e
    rw [e] at hin
    simp at hin
  · rw [if_neg hin]
    simp
theorem madeS_ne (n : UInt8) (R : List Lmp) (j : Nat) (h : j ≤ R.length) : (madeS n R j).L ≠ [] := by
  cases j with
  | zero => exact msStep_ne n ms0 2 firstL (Or.inr rfl)
  | succ j =>
    rw [madeS_step n R j h]
    exact msStep_ne n _ _ _ (by by_cases e : (madeS n R j).L = []; exact Or.inr e; exact Or.inl e)
theorem first_new (n : UInt8) : decide (hmac (kN n 3) (2 :: firstL) ∉ (ms0.L).map En.id) = true := by simp [ms0]
theorem firstB (X : World) : bytesIn (X.alloc (.cells #[.int .u8 102, .int .u8 105, .int .u8 114, .int .u8 115, .int .u8 116] 5 (5, 6))) (some ⟨X.heap.size, 0, none⟩) firstL :=
  salt_in _ _ firstL (5, 6) (heap_alloc_new X _)
theorem first_lit (X : World) : (convert 30 30 (.slice (some ⟨X.heap.size, 0, none⟩) 5 5)).run Tryd.prog (X.alloc (.cells #[.int .u8 102, .int .u8 105, .int .u8 114, .int .u8 115, .int .u8 116] 5 (0, 0))) = .ok (.slice (some ⟨X.heap.size, 0, none⟩) 5 5) (X.alloc (.cells #[.int .u8 102, .int .u8 105, .int .u8 114, .int .u8 115, .int .u8 116] 5 (5, 6))) :=
  Joins.run_convert_bytes_const_at X 30 5 _ 5 5 _ rfl Tryd.underlying30 Tryd.underlying5
theorem buildLo (k : Int) (a : Option Addr) (n c : Nat) (w : World) : (Instr.build 40 #[(0, .int .i64 k), (1, .slice a n c)]).run Tryd.prog w = .ok (.agg #[.int .i64 k, .slice a n c]) w := by kernel_rfl
end Go.Proofs.YtfhlcondnaahiaaDoor
