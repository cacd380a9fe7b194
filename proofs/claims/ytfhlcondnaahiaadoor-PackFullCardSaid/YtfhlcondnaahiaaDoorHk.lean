/- hypogeumlaw12.made. -/
import Derived.Test.YtfhlcondnaahiaaDoorPs
import Derived.Test.YtfhlcondnaahiaaDoorHc
section
namespace Go.Proofs.YtfhlcondnaahiaaDoor
open Go.RowKit Sha

def LoW (w : World) (lb : Nat) (Dl : List Lo) (D : List (Int × List UInt8)) : Prop := ∀ i (h : i < Dl.length) (h' : i < D.length), Pt.ok0 w ⟨Dl[i].a, Dl[i].c, D[i].2⟩ ∨ (Dl[i].a = some ⟨lb, 0, none⟩ ∧ Dl[i].c = 5 ∧ D[i].2 = firstL)
theorem LoW.more {w : World} {lb : Nat} {Dl : List Lo} {D : List (Int × List UInt8)} (h : LoW w lb Dl D) (he : Dl.length = D.length) (d : Lo) (x : Int × List UInt8) (hx : Pt.ok0 w ⟨d.a, d.c, x.2⟩) : LoW w lb (Dl ++ [d]) (D ++ [x]) := fun i h1 h2 => by
  by_cases hlt : i < Dl.length
  · simp only [List.getElem_append_left hlt, List.getElem_append_left (show i < D.length by omega)]
    exact h i hlt (by omega)
  · have e : i = Dl.length := by simp at h1; omega
    subst e
    refine Or.inl ?_
    simp [he]
    exact hx
def litC : Obj := .cells #[.int .u8 102, .int .u8 105, .int .u8 114, .int .u8 115, .int .u8 116] 5 (5, 6)
theorem litc_in {w : World} {lb : Nat} (h : w.heap[lb]? = some litC) : bytesIn w (some ⟨lb, 0, none⟩) firstL := salt_in _ _ firstL (5, 6) h
theorem LoW.at {w w' : World} {lb : Nat} {Dl : List Lo} {D : List (Int × List UInt8)} (h : LoW w lb Dl D) (hb : Below w.heap.size w w') (hl : w'.heap[lb]? = some litC) : ∀ i (h : i < Dl.length) (h' : i < D.length), Pt.ok0 w' ⟨Dl[i].a, Dl[i].c, D[i].2⟩ := fun i h1 h2 => by
  rcases h i h1 h2 with q | ⟨e1, e2, e3⟩
  · exact q.below hb
  · rw [e1, e2, e3]
    exact ⟨⟨Nat.le_refl _, (show (5 : Nat) ≤ 9223372036854775807 by decide), litc_in hl⟩, fun h => by cases h⟩
end Go.Proofs.YtfhlcondnaahiaaDoor
end
section
/- Names and entries compared; Add of two parts. -/
namespace Go.Proofs.YtfhlcondnaahiaaDoor
open Go.RowKit Sha

set_option maxRecDepth 100000 in
theorem eq_id_at (d : Nat) (l : List UInt8) (hl : l.length = 32) (w : World) : (Op.equalIn (d + 2) 24 (.agg (byteCells l).toArray) (.agg (byteCells l).toArray)).run Tryd.prog w = .ok true w := by
  obtain ⟨i0, hi, hz0, hz1, hz2⟩ := info_parts info_u8
  rw [show d + 2 = d + 1 + 1 from rfl, run_equalIn_array w (d + 1) _ _ Tryd.underlying24 hi, run_eqItems_at d l l w _ (fun i hi => by have := List.mem_range.1 hi; omega)]
  simp
set_option maxRecDepth 100000 in
theorem eql_id (l : List UInt8) (hl : l.length = 32) (w : World) : (binOp .eql 24 (.agg (byteCells l).toArray) (.agg (byteCells l).toArray)).run Tryd.prog w = .ok (.bool true) w := by
  rw [run_eql_struct, show (Op.equalIn 10000 24 (.agg (byteCells l).toArray) (.agg (byteCells l).toArray)).run Tryd.prog w = .ok true w from eq_id_at 9998 l hl w]
  rfl
set_option maxRecDepth 100000 in
theorem egtId : Tryd.prog.eqGuardType Tryd.prog.depth 24 = false := by kernel_rfl
theorem eql_idO (a : Act) (o : Oper) (x y : Operand) (l : List UInt8) (ho : o.op = .binOp .eql 24 x y 24) (hx : a.eval x = .agg (byteCells l).toArray) (hy : a.eval y = .agg (byteCells l).toArray) (hl : l.length = 32) (w : World) :
    (execOp a.eval o).run Tryd.prog w = .ok (.value (.bool true)) w := by
  unfold execOp
  simp only [ho, hx, hy, Sem.run_bind, eql_id l hl, run_eqGuard_agg _ _ _ _ _ _ _ egtId, Result.andThen_ok, Sem.run_pure]
/-- Add, of parts. -/
theorem add_msL (n : UInt8) (base wb tb : Nat) (fa : Option Addr) (fc : Nat) (s : Ms) (k : Nat) (hg : s.Good k) (hk : k ≤ 20) (v1 v2 : Value) (gm : Option Nat) (k8 : UInt8) (ls : List (List UInt8)) (b : List UInt8) (hls : ls.flatten = b) (hk8 : V k8 = 1 ∨ V k8 = 2) (hb : b.length ≤ 150) (m : Nat) (hm : m = ls.length) (hm2 : m ≤ 10) (g : Nat) (X : World)
    (hW : WrAt X base wb tb fa fc [n] s.told (penCells (ringN n) tb) s.B s.L v1 v2 gm) (ht : tables X) (hP : ∀ Y, But tb X Y → partsW Y (some ⟨g, 0, none⟩) ls) :
    Calls Tryd.prog 8 #[.pointer (some ⟨wb, 0, none⟩), .int .i64 (V k8), .slice (some ⟨g, 0, none⟩) m m] X fun e w' => ∃ yes u1 u2 gn, Hid (yes = decide (hmac (kN n 3) (k8 :: b) ∉ s.L.map En.id)) ∧ e = .returned (.tuple #[.agg (byteCells (hmac (kN n 3) (k8 :: b))).toArray, .bool yes, .int .i64 0]) ∧
      WrAt w' base wb tb fa fc [n] (msStep n s k8 b).told (penCells (ringN n) tb) (msStep n s k8 b).B (msStep n s k8 b).L u1 u2 gn ∧ Kp (wF wb tb v1 v2 gm) X w' ∧ ∀ i, wF wb tb u1 u2 gn i → wF wb tb v1 v2 gm i ∨ X.heap.size ≤ i := by
  subst hm hls
  have := add_any base wb tb fa fc [n] s.told (kN n 1) (kN n 2) (kN n 3) s.B s.L v1 v2 gm k8 (some ⟨g, 0, none⟩) ls.length ls X (kN_length _ _) (kN_length _ _) (kN_length _ _) hk8 hW ht (by omega) (Nat.le_refl _) (fun h => by cases h) (by omega) hP (by have := hg.told; omega) (by have := hg.len; omega) (by have := hg.b; omega)
  rw [addR_ms n s k hg hk k8 _ hb] at this
  refine this.mono ?_
  rintro e w' ⟨rfl, u1, u2, gn, h1, h2, h3⟩
  exact ⟨_, u1, u2, gn, Lib.hid rfl, rfl, h1, h2, h3⟩
theorem a_lit (X : World) : (convert 30 30 (.slice (some ⟨X.heap.size, 0, none⟩) 1 1)).run Tryd.prog (X.alloc (.cells #[.int .u8 97] 5 (0, 0))) = .ok (.slice (some ⟨X.heap.size, 0, none⟩) 1 1) (X.alloc (.cells #[.int .u8 97] 5 (1, 2))) :=
  Joins.run_convert_bytes_const_at X 30 5 _ 1 1 _ rfl Tryd.underlying30 Tryd.underlying5
theorem aB (X : World) : bytesIn (X.alloc (.cells #[.int .u8 97] 5 (1, 2))) (some ⟨X.heap.size, 0, none⟩) [97] :=
  salt_in _ _ [97] (1, 2) (heap_alloc_new X _)
theorem two_parts_but {X : World} {g q tb : Nat} {l : List UInt8} (hg0 : X.cell? ⟨g, 0, none⟩ = some (.slice none 0 0)) (hg1 : X.cell? ⟨g, 1, none⟩ = some (.slice (some ⟨q, 0, none⟩) l.length l.length)) (hc : l.length ≤ 9223372036854775807) (hb : bytesIn X (some ⟨q, 0, none⟩) l) (h1 : g ≠ tb) (h2 : q ≠ tb) (Y : World) (k : But tb X Y) : partsW Y (some ⟨g, 0, none⟩) [[], l] := by
  refine Or.inr ⟨g, 0, rfl, fun j hj => ?_⟩
  match j, hj with
  | 0, _ => exact ⟨none, 0, k.cell hg0 h1, Nat.le_refl _, by decide, fun _ => rfl, Or.inl rfl⟩
  | 1, _ =>
    refine ⟨some ⟨q, 0, none⟩, l.length, k.cell hg1 h1, Nat.le_refl _, hc, (fun h => by cases h), ?_⟩
    rcases hb with h | ⟨b, o, e, hcell⟩
    · exact Or.inl h
    · cases e
      exact Or.inr ⟨_, _, rfl, fun i hi => k.cell (hcell i hi) h2⟩
end Go.Proofs.YtfhlcondnaahiaaDoor
end
