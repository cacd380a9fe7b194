/- What CellTapes wants besides: stores into a row of one's own, rows of ints, sixteen noughts compared. -/
import Derived.Test.YtjkhokholcchfaaDoorGk
import Derived.Test.YtjkhokholcchfaaDoorGd
import Derived.Test.YtjkhokholcchfaaDoorZer
import Derived.Test.YtjkhokholcchfaaDoorRky
import Derived.Test.YtjkhokholcchfaaDoorKpw
import Derived.Test.YtjkhokholcchfaaDoorTdt
import Derived.Test.YtjkhokholcchfaaDoorBld
import Derived.Test.YtjkhokholcchfaaDoorKb2
import Derived.Test.YtjkhokholcchfaaDoorSfSn
namespace Go.Proofs.YtjkhokholcchfaaDoor
open Go.RowKit Sha

theorem run_storeVar_M {P : Program} (w : World) (g j : Nat) (ty : TypeId) (cur : Array Value) (v : Value) (t : TypeId) (fz : Nat × Nat) (hg : w.heap[g]? = some (.cells cur t fz)) (hz : fz = (0, 0) ∨ cur.size ≤ fz.1) (hi : (P.info? ty).map (·.size) = some 1) (hj : j < cur.size) (hc : v.cells = #[v]) (h1 : v.oneCell' = true) :
    (storeVar ty ⟨g, j, none⟩ v).run P w = .ok () (w.setRow g (cur.toList.set j v).toArray) := by
  have := run_storeCells_atM P g j t fz [v] 0 cur w hg hz (by simp; omega) (by simpa using h1)
  have e : cur.toList.set j v = cur.toList.take j ++ v :: cur.toList.drop (j + 1) := by rw [List.set_eq_take_append_cons_drop, if_pos (by simpa using hj)]
  cases hq : P.info? ty with
  | none => simp [hq] at hi
  | some i =>
    have hs : i.size = 1 := by simpa [hq] using hi
    simp only [Nat.add_zero, List.length_cons, List.length_nil, Nat.zero_add, List.append_assoc, List.singleton_append] at this
    simp [storeVar, sizeOf, typeInfo, hq, hc, hs, this, e]
theorem set_bytes (l : List UInt8) (j : Nat) (x : UInt8) : (byteCells l).set j (.int .u8 (V x)) = byteCells (l.set j x) := by
  unfold byteCells
  rw [List.map_set]
/-- A byte is stored into a row of one's own. -/
theorem wpList_store_M {ops : Array Oper} {rest : List Oper} {o : Oper} {a : Act} {w : World} {Q : Exit → Act → World → Prop} (hgd : o.guard = none) (x y : Operand) (ho : o.op = .store 5 x y)
    (base g j n cap : Nat) (b : UInt8) (l : List UInt8) (hx : a.eval x = .pointer (some ⟨g, j, none⟩)) (hy : a.eval y = .int .u8 (V b)) (hown : rowM w base (.slice (some ⟨g, 0, none⟩) n cap) l) (hj : j < l.length)
    (h : ∀ w', Hid (rowM w' base (.slice (some ⟨g, 0, none⟩) n cap) (l.set j b)) → Hid (But g w w') → Hid (w'.heap.size = w.heap.size) → wpList Tryd.prog ops Q rest (a.put o.dst undef) w') : wpList Tryd.prog ops Q (o :: rest) a w := by
  obtain ⟨h0, h1⟩ := hown
  rcases h1 with ⟨hn, -⟩ | ⟨g', cap', cur, fz, he, hb, hh, hf, hn, hc, hs, ht⟩
  · cases hn
  · cases he
    have hsz : j < cur.size := by omega
    have hr := run_storeVar_M (P := Tryd.prog) w g j 5 cur (.int .u8 (V b)) 5 fz hh hf (by kernel_rfl) hsz rfl rfl
    refine wpList_plain hgd fun K hK => ?_
    unfold Oper.wp execOp
    simp only [ho, hx, hy, Instr.storeAt, Instr.sureAddr, Sem.run_bind, Sem.run_pure, Result.andThen_ok, hr]
    refine hK _ _ (h _ (Lib.hid ?_) (Lib.hid ⟨rfl, rfl, rfl, by simp [World.setRow], fun k _ hk => setRow_other w g k _ hk⟩) (Lib.hid (by simp [World.setRow])))
    refine ⟨by rw [byteCells_length], Or.inr ⟨g, cap, (cur.toList.set j (.int .u8 (V b))).toArray, fz, by rw [List.length_set], hb, setRow_heap w g cur _ 5 fz hh, ?_, by rw [List.length_set]; exact hn, hc, by simpa using hs, ?_⟩⟩
    · rcases hf with h | h
      · exact .inl h
      · exact .inr (by simpa using h)
    · rw [List.length_set, ← set_bytes, ← ht]
      simp [List.take_set]
/-- A row of ints that came in. -/
def intsW (w : World) (a : Option Addr) (l : List Int) : Prop :=
  l = [] ∨ ∃ b o, a = some ⟨b, o, none⟩ ∧ ∀ j, j < l.length → w.cell? ⟨b, o + j, none⟩ = some (.int .i64 (l.getD j 0))
theorem intsW.below {w w' : World} {a : Option Addr} {l : List Int} (h : intsW w a l) (k : Below w.heap.size w w') : intsW w' a l := by
  rcases h with h | ⟨b, o, e, hc⟩
  · exact .inl h
  · exact .inr ⟨b, o, e, fun j hj => by rw [k.cell (block_lt_of_cell (hc j hj))]; exact hc j hj⟩
set_option maxRecDepth 100000 in
theorem egt16 : Tryd.prog.eqGuardType Tryd.prog.depth 28 = false := by kernel_rfl
set_option maxRecDepth 100000 in
theorem eq_same16 (l : List UInt8) (hl : l.length = 16) (w : World) : (Op.equalIn 10000 28 (.agg (byteCells l).toArray) (.agg (byteCells l).toArray)).run Tryd.prog w = .ok true w := by
  obtain ⟨i0, hi, hz0, hz1, hz2⟩ := info_parts Ci.info_u8
  rw [show (10000 : Nat) = 9998 + 1 + 1 from rfl, run_equalIn_array w (9998 + 1) _ _ Tryd.underlying28 hi, run_eqItems_at 9998 l l w _ (fun i hi => by have := List.mem_range.1 hi; omega)]
  simp
set_option maxRecDepth 100000 in
theorem neq_same16 (l : List UInt8) (hl : l.length = 16) (w : World) : (binOp .neq 28 (.agg (byteCells l).toArray) (.agg (byteCells l).toArray)).run Tryd.prog w = .ok (.bool false) w := by
  rw [run_neq_struct, eq_same16 l hl]
  rfl
theorem tail8 : str (List.replicate 8 0) = ⟨#[0, 0, 0, 0, 0, 0, 0, 0]⟩ := rfl
theorem tbytes_first (F : List UInt8) : tbytes F 0 32 = sha (F ++ List.replicate 8 0) := by
  have h := tbytes_row F 0 32 (by omega)
  have e : be8 0 = List.replicate 8 0 := by decide
  rw [show (0 : Nat) % 32 = 0 from rfl, show (0 : Nat) / 32 = 0 from rfl, List.drop_zero, List.take_of_length_le (by rw [trow_length]; exact Nat.le_refl _)] at h
  rw [← h]
  unfold trow
  rw [e]
set_option maxRecDepth 100000 in
theorem nothing_any (w : World) : Calls Tryd.prog 13 #[] w fun e w' => e = .returned (.pointer none) ∧ w = w' := by
  go_enter Tryd.func13, Tryd.ntmps13
  go_wp2_with fail
  go_ret
  exact ⟨rfl, rfl⟩
/-- A row of one's own: its block. -/
theorem own_block {w : World} {base g0 : Nat} {v : Value} {l : List UInt8} (h : rowM w base v l) (h0 : base ≤ g0) (h1 : g0 + 1 ≤ w.heap.size) :
    ∃ gg va vc, v = .slice va l.length vc ∧ base ≤ gg ∧ gg < w.heap.size ∧ (l ≠ [] → va = some ⟨gg, 0, none⟩ ∧ rowM w base (.slice (some ⟨gg, 0, none⟩) l.length vc) l) := by
  have hh := h
  rcases h.2 with ⟨rfl, hn⟩ | ⟨g, cap, cur, fz, rfl, hb, hq, hf, hn, hc, hs, ht⟩
  · exact ⟨g0, none, 0, by rw [hn], h0, by omega, fun e => absurd (List.eq_nil_of_length_eq_zero hn) e⟩
  · exact ⟨g, some ⟨g, 0, none⟩, cap, rfl, hb, (Array.getElem?_eq_some_iff.1 hq).1, fun _ => ⟨rfl, hh⟩⟩
set_option maxRecDepth 100000 in
theorem neq_lit16 (w : World) : (binOp .neq 28 (.agg (zeros 16).toArray) (.agg #[Value.int .u8 0, Value.int .u8 0, Value.int .u8 0, Value.int .u8 0, Value.int .u8 0, Value.int .u8 0, Value.int .u8 0, Value.int .u8 0, Value.int .u8 0, Value.int .u8 0, Value.int .u8 0, Value.int .u8 0, Value.int .u8 0, Value.int .u8 0, Value.int .u8 0, Value.int .u8 0])).run Tryd.prog w = .ok (.bool false) w :=
  neq_same16 (List.replicate 16 0) rfl w
theorem wpAnyH_stronger {P : Program} {md : Region.Mode} {ops : Array Oper} {Q : Exit → Act → World → Prop} {S S' : World → Prop} (hS : ∀ w, S' w → S w) : ∀ (fuel : Nat) (listed : Array Bool) (a : Act) (w : World), wpAnyH P md ops Q S' fuel listed a w → wpAnyH P md ops Q S fuel listed a w
  | 0, _, _, _, h => h
  | fuel + 1, _, _, _, h => ⟨h.1, fun i hi => wpOp_mono (fun a' w' q => ⟨hS _ q.1, wpAnyH_stronger hS fuel _ a' w' q.2⟩) (h.2 i hi)⟩
end Go.Proofs.YtjkhokholcchfaaDoor
