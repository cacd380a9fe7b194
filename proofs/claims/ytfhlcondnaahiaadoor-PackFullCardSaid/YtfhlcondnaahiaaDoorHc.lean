/- append of nothing, and of make([]byte, n), to a row of the call's own. -/
import Derived.Test.YtfhlcondnaahiaaDoorGg
import Derived.Lib.AppendZeros
import Derived.Test.YtfhlcondnaahiaaDoorHb
import Derived.Lib.SliceRun
import Derived.Lib.SmallJoins
import Derived.Great.FillDense
import Derived.Laws.StructEq
import Derived.Test.YtfhlcondnaahiaaDoorHa
import Derived.BigQuiet
import Derived.Test.YtfhlcondnaahiaaDoorGf
import Derived.Lib.AppendStr
section
namespace Go.Proofs.YtfhlcondnaahiaaDoor
open Go.RowKit Sha

theorem run_append_nought (w : World) (b : Option Addr) (m cap : Nat) (hm : m ≤ cap) (A : Option Addr) (c : Nat) (ty : TypeId) :
    (Builtin.append_ #[30, 30] ty #[.slice b m cap, .slice A 0 c]).run Tryd.prog w = .ok (.slice b m cap) w := by
  obtain ⟨i, hi, hz, hz1, hz2⟩ := info_parts info_u8
  cases A <;> cases b <;> simp [Builtin.append_, run_underlying Tryd.underlying30, sizeOf, typeInfo, hi, hz1, hz2, Builtin.lenOf, hm, Builtin.firstCells, loadCells, loadCellsFrom, storeCells]
/-- Bytes put behind such a row, some or none. -/
theorem append_M0 {w : World} {ops : Array Oper} {rest : List Oper} {o : Oper} {a : Act} {Q : Exit → Act → World → Prop} (hgd : o.guard = none) (s x : Operand)
    (ho : o.op = .call { callee := .builtin .append, args := #[s, x], argTypes := #[30, 30] })
    (base : Nat) (v : Value) (xs : List UInt8) (hs : a.eval s = v) (hown : rowM w base v xs) (A : Option Addr) (n c : Nat) (l : List UInt8) (hnl : n = l.length) (hx : a.eval x = .slice A n c)
    (hb : bytesIn w A l) (hn : xs.length + l.length ≤ 1000000) (hbase : base ≤ w.heap.size)
    (h : ∀ v' w', rowM w' base v' (xs ++ l) → w.grownBy w' v.ownBlock → wpList Tryd.prog ops Q rest (a.put o.dst v') w') : wpList Tryd.prog ops Q (o :: rest) a w := by
  by_cases h0 : l.length = 0
  · obtain rfl : l = [] := List.eq_nil_of_length_eq_zero h0
    subst hnl
    obtain ⟨b, cap, rfl, hcap, -⟩ := hown.bytes
    exact Lib.wpList_append_run w hgd s x _ _ ho _ _ hs hx _ _ (run_append_nought w b _ cap hcap A c o.type) (h _ w (by simpa using hown) ⟨rfl, rfl, rfl, Nat.le_refl _, fun _ _ _ => rfl⟩)
  · exact append_M hgd s x ho base v xs hs hown A n c l hnl hx (by omega) hb hn hbase h
end Go.Proofs.YtfhlcondnaahiaaDoor
end
section
/- bytes.Clone; cell.Wind. -/
namespace Go.Proofs.YtfhlcondnaahiaaDoor
open Go.RowKit Sha

set_option maxRecDepth 100000 in
set_option maxHeartbeats 1000000 in
theorem clone_any (a : Option Addr) (l : List UInt8) (c : Nat) (w : World) (h : bytesIn w a l) (hz : a = none → c = 0) (hl : l.length ≤ 900000) :
    Calls Tryd.prog 54 #[.slice a l.length c] w fun e w' => ∃ fa fc, e = .returned (.slice fa l.length fc) ∧ l.length ≤ fc ∧ fc ≤ 9223372036854775807 ∧ bytesIn w' fa l ∧ (∀ x, fa = some x → w.heap.size ≤ x.block ∧ x.block < w'.heap.size) ∧ Below w.heap.size w w' := by
  have q := fun (w : World) (a : Option Addr) (n c n' c' : Nat) => Go.Lib.run_eql_slice_nil (P := Tryd.prog) w 30 _ a n c n' c' Tryd.underlying30
  have H := Lib.hid h
  have LIT := Lib.hid (rowM.lit w w.heap.size [] #[] rfl 0 rfl (Nat.le_refl _) (by simp))
  cases a with
  | none =>
    obtain rfl : l = [] := by
      rcases h with h0 | ⟨b, o', h1, _⟩
      · exact h0
      · cases h1
    obtain rfl := hz rfl
    clear h hz
    go_enter Tryd.func54, Tryd.ntmps54
    go_wp2_with fail
    go_ret
    exact ⟨none, 0, rfl, Nat.le_refl _, by decide, Or.inl rfl, (fun x e => by cases e), Below.refl _ _⟩
  | some ad =>
    clear h hz
    have kl := alloc_below w (.cells #[] 5 (0, 0))
    have IL := Lib.hid (H.out.below kl)
    have KLL := Lib.hid kl
    have hl9 : ([] : List UInt8).length + l.length ≤ 1000000 := by show 0 + _ ≤ _; omega
    clear kl
    go_enter Tryd.func54, Tryd.ntmps54
    go_wp2_with (at_builtin; refine append_M0 rfl _ _ rfl w.heap.size _ [] rfl LIT.out (some ad) l.length c l rfl rfl IL.out hl9 KLL.out.size ?_; intro v' w' r1 r2)
    obtain ⟨fa, fc, hv, h1, h2, h3, h4, h5⟩ := r1.bytes
    rw [List.nil_append] at hv h1 h3
    subst hv
    have KB := Lib.hid (KLL.out.trans (LIT.out.grown r2 KLL.out.size))
    have H3 := Lib.hid h3
    have H5 : Hid (∀ x, fa = some x → w.heap.size ≤ x.block ∧ x.block < w'.heap.size) := Lib.hid (fun x e => by
      subst e
      exact h5 x.block rfl)
    have H2 : Hid (fc ≤ 9223372036854775807) := Lib.hid (by unfold maxLen at h2; exact h2)
    clear r1 r2 h2 h3 h4 h5
    go_wp2_with fail
    go_ret
    exact ⟨fa, fc, rfl, h1, H2.out, H3.out, H5.out, KB.out⟩
set_option maxRecDepth 100000 in
set_option maxHeartbeats 1000000 in
theorem wind_any (a : Option Addr) (F : List UInt8) (c : Nat) (w : World) (h : bytesIn w a F) (hz : a = none → c = 0) (hl : F.length ≤ 400) :
    Calls Tryd.prog 33 #[.slice a F.length c] w fun e w' => ∃ tb fa fc, e = .returned (.pointer (some ⟨tb, 0, none⟩)) ∧ w.heap.size ≤ tb ∧ tapeAt w' tb fa fc F 0 ∧ (∀ x, fa = some x → w.heap.size ≤ x.block) ∧ Below w.heap.size w w' := by
  have HC := Lib.hid (clone_any a F c w h hz (by omega))
  clear h hz
  go_enter Tryd.func33, Tryd.ntmps33
  go_wp2_with fail
  with_reducible refine HC.out.mono ?_
  rintro e w1 ⟨fa, fc, rfl, h1, h2, h3, h4, kk⟩
  have N1 := Lib.hid (blockIs.new w1 [.slice fa F.length fc, .int .i64 0] 118)
  have B1 := Lib.hid (kk.trans ((alloc_below w1 (.cells #[.slice fa F.length fc, .int .i64 0] 118 (0, 0))).mono kk.size))
  have I1 := Lib.hid (h3.below (alloc_below w1 (.cells #[.slice fa F.length fc, .int .i64 0] 118 (0, 0))))
  have H4 : Hid (∀ x, fa = some x → w.heap.size ≤ x.block) := Lib.hid (fun x e => (h4 x e).1)
  have AP : Hid (∀ x, fa = some x → x.block ≠ w1.heap.size) := Lib.hid (fun x e => Nat.ne_of_lt (h4 x e).2)
  have KS := Lib.hid kk.size
  clear h3 h4 kk HC
  go_wp2_with fail
  go_ret
  exact ⟨w1.heap.size, fa, fc, rfl, KS.out, ⟨N1.out, I1.out, AP.out, hl, h1, h2⟩, H4.out, B1.out⟩
end Go.Proofs.YtfhlcondnaahiaaDoor
end
section
/- key.Make: the ring of a word. -/
namespace Go.Proofs.YtfhlcondnaahiaaDoor
open Go.RowKit Sha

def hideW : List UInt8 := [104, 105, 100, 101]
def markW : List UInt8 := [109, 97, 114, 107]
def nameW : List UInt8 := [110, 97, 109, 101]
def ringL (s : List UInt8) : List UInt8 := hmac s hideW ++ (hmac s markW ++ hmac s nameW)
set_option maxRecDepth 100000 in
theorem splice_keep {x y : List Value} {o : Nat} (h : o + y.length ≤ x.length) : (splice x o y).length = x.length := by
  simp only [splice, List.length_append, List.length_take, List.length_drop]
  omega
end Go.Proofs.YtfhlcondnaahiaaDoor
end
section
/- Values of structs: built of their parts, taken apart, compared. -/
namespace Go.Proofs.YtfhlcondnaahiaaDoor
open Go.RowKit Sha

set_option maxRecDepth 100000 in
theorem splice_get (cells v : List Value) (off k : Nat) (hfit : off + v.length ≤ cells.length) : (splice cells off v)[k]? = if off ≤ k ∧ k < off + v.length then v[k - off]? else cells[k]? := by
  have h1 : (cells.take off).length = off := by rw [List.length_take]; omega
  unfold splice
  by_cases a : k < off
  · rw [if_neg (by omega), List.getElem?_append_left (by omega), List.getElem?_take, if_pos a]
  · rw [List.getElem?_append_right (by omega), h1]
    by_cases b : k - off < v.length
    · rw [if_pos (by omega), List.getElem?_append_left b]
    · rw [if_neg (by omega), List.getElem?_append_right (by omega), List.getElem?_drop]
      congr 1
      omega
set_option maxRecDepth 100000 in
theorem fill_splice (place : Nat → Option (Nat × Nat)) (cells : List Value) (i : Nat) (v : List Value) (rest : List (Nat × Value)) (off : Nat) (hp : place i = some (off, v.length)) (hfit : off + v.length ≤ cells.length) :
    Instr.fill place cells.toArray ((i, .agg v.toArray) :: rest) = Instr.fill place (splice cells off v).toArray rest := by
  rw [Instr.fill]
  simp only [hp]
  rw [if_neg (by simp [Value.cells]; omega)]
  congr 1
  obtain ⟨_, h2⟩ := Great.foldl_set off v 0 cells.toArray
  rw [← Array.foldl_toList, Array.toList_zipIdx]
  apply Array.ext_getElem?
  intro k
  refine (h2 k).trans ?_
  rw [List.getElem?_toArray, List.getElem?_toArray, splice_get _ _ _ _ hfit, List.size_toArray, Nat.add_zero]
  by_cases c : off ≤ k ∧ k < off + v.length
  · rw [if_pos c, if_pos ⟨c.1, c.2, by omega⟩]
  · rw [if_neg c, if_neg (fun h => c ⟨h.1, h.2.1⟩)]
set_option maxRecDepth 100000 in
theorem run_build_struct {P : Program} (w : World) (t : TypeId) (fields : Array Field) (places : Array (Nat × Nat)) (z : Value) (parts : Array (Nat × Value)) (r : Array Value)
    (hu : P.underlying t = some (.struct fields)) (hz : (zeroValue t).run P w = .ok z w) (hp : (fields.mapM fun f => (do pure (f.offset, ← sizeOf f.type) : Sem (Nat × Nat))).run P w = .ok places w) (hf : Instr.fill (places[·]?) z.cells parts.toList = some r) :
    (Instr.build t parts).run P w = .ok (.agg r) w := by
  simp only [Instr.build, Sem.run_bind, hz, Result.andThen_ok, run_underlying hu, hp, hf, Sem.run_pure]
set_option maxRecDepth 100000 in
theorem splice_two (A B : List Value) (a b : Nat) (hA : A.length = a) (hB : B.length = b) (z : List Value) (hz : z.length = a + b) : splice (splice z 0 A) a B = A ++ B := by
  have h1 : (splice z 0 A).length = a + b := by rw [splice_keep (by omega)]; exact hz
  apply List.ext_getElem?
  intro k
  rw [splice_get _ _ _ _ (by omega), splice_get _ _ _ _ (by omega)]
  by_cases c : k < a
  · rw [if_neg (by omega), if_pos (by omega), List.getElem?_append_left (by omega), Nat.sub_zero]
  · rw [List.getElem?_append_right (by omega), hA]
    by_cases d : k < a + b
    · rw [if_pos (by omega)]
    · rw [if_neg (by omega), if_neg (by omega), List.getElem?_eq_none (by omega), List.getElem?_eq_none (by omega)]

set_option maxRecDepth 100000 in
theorem buildKeys (A B : List Value) (hA : A.length = 32) (hB : B.length = 32) (w : World) :
    (Instr.build 48 #[(0, .agg A.toArray), (1, .agg B.toArray)]).run Tryd.prog w = .ok (.agg (A ++ B).toArray) w := by
  refine run_build_struct w _ (Tryd.prog.fieldsOf 48) #[(0, 32), (32, 32)] (.agg (zeros 64).toArray) _ _ (by kernel_rfl) (by kernel_rfl) (by kernel_rfl) ?_
  show Instr.fill _ (zeros 64).toArray [(0, .agg A.toArray), (1, .agg B.toArray)] = _
  rw [fill_splice _ _ 0 A _ 0 (by rw [hA]; rfl) (by rw [hA]; decide), fill_splice _ _ 1 B _ 32 (by rw [hB]; rfl) (by rw [splice_keep (by rw [hA]; decide), hB]; decide), splice_two A B 32 32 hA hB _ rfl]
  rfl
set_option maxRecDepth 100000 in
theorem buildRing2 (A B : List Value) (hA : A.length = 64) (hB : B.length = 32) (w : World) :
    (Instr.build 50 #[(0, .agg A.toArray), (1, .agg B.toArray)]).run Tryd.prog w = .ok (.agg (A ++ B).toArray) w := by
  refine run_build_struct w _ (Tryd.prog.fieldsOf 50) #[(0, 64), (64, 32)] (.agg (zeros 96).toArray) _ _ (by kernel_rfl) (by kernel_rfl) (by kernel_rfl) ?_
  show Instr.fill _ (zeros 96).toArray [(0, .agg A.toArray), (1, .agg B.toArray)] = _
  rw [fill_splice _ _ 0 A _ 0 (by rw [hA]; rfl) (by rw [hA]; decide), fill_splice _ _ 1 B _ 64 (by rw [hB]; rfl) (by rw [splice_keep (by rw [hA]; decide), hB]; decide), splice_two A B 64 32 hA hB _ rfl]
  rfl
set_option maxRecDepth 100000 in
theorem infoRing2 : (Tryd.prog.info? 50).map (·.size) = some 96 := by kernel_rfl
set_option maxRecDepth 100000 in
theorem zeroRing2 (w : World) : (zeroValue 50).run Tryd.prog w = .ok (.agg (zeros 96).toArray) w := by kernel_rfl
set_option maxRecDepth 100000 in
/-- Rows of bytes, compared at any depth. -/
theorem run_eqItems_at (d : Nat) (l m : List UInt8) (w : World) : ∀ (is : List Nat), (∀ i ∈ is, i < l.length ∧ i < m.length) →
    (Op.eqItems (d + 1) 5 (Tryd.prog.cellsOf 5) (byteCells l).toArray (byteCells m).toArray is).run Tryd.prog w = .ok (is.all fun i => V (l.getD i 0) == V (m.getD i 0)) w
  | [], _ => by simp [Op.eqItems]
  | i :: is, h => by
    obtain ⟨h1, h2⟩ := h i (by simp)
    have ih := run_eqItems_at d l m w is (fun j hj => h j (by simp [hj]))
    have hc : Tryd.prog.cellsOf 5 = 1 := by kernel_rfl
    rw [hc] at ih ⊢
    have p1 : (part 5 (byteCells l).toArray (i * 1)).run Tryd.prog w = .ok (.int .u8 (V (l.getD i 0))) w := run_part_plain w (by kernel_rfl) (by rw [Nat.mul_one, List.getElem?_toArray]; exact byteCells_get _ _ h1)
    have p2 : (part 5 (byteCells m).toArray (i * 1)).run Tryd.prog w = .ok (.int .u8 (V (m.getD i 0))) w := run_part_plain w (by kernel_rfl) (by rw [Nat.mul_one, List.getElem?_toArray]; exact byteCells_get _ _ h2)
    have p3 := run_equalIn_int (P := Tryd.prog) w d 5 .u8 .u8 (V (l.getD i 0)) (V (m.getD i 0)) Tryd.underlying5
    simp only [Op.eqItems, Sem.run_bind, p1, p2, p3, Result.andThen_ok, List.all_cons]
    cases (V (l.getD i 0) == V (m.getD i 0))
    · simp
    · simpa using ih
end Go.Proofs.YtfhlcondnaahiaaDoor
end
section
/- What each of the laws asks first: has a word keys, and none none. -/
namespace Go.Proofs.YtfhlcondnaahiaaDoor
open Go.RowKit Sha

def saltL : List UInt8 := [48, 49, 50, 51, 52, 53, 54, 55, 56, 57, 97, 98, 99, 100, 101, 102]
end Go.Proofs.YtfhlcondnaahiaaDoor
end
section
/- The document's own Stretch. -/
namespace Go.Proofs.YtfhlcondnaahiaaDoor
open Go.RowKit Sha

theorem rowM.free {w : World} {base : Nat} {g n c : Nat} {l : List UInt8} (h : rowM w base (.slice (some ⟨g, 0, none⟩) n c) l) (j : Nat) (hj : j < l.length) : w.frozen? ⟨g, j, none⟩ = false := by
  rcases h.2 with ⟨h0, _⟩ | ⟨g', cap, cur, fz, hv, _, hh, hf, hn, _, hs, _⟩
  · cases h0
  · cases hv
    obtain ⟨lo, hi⟩ := fz
    simp only [World.frozen?, hh, Bool.and_eq_false_iff, decide_eq_false_iff_not]
    rcases hf with h | h
    · cases h; right; omega
    · left; simp only at h; omega
attribute [local go_sem] V_xor

end Go.Proofs.YtfhlcondnaahiaaDoor
end
section
/- The laws' salt; a ring, taken apart and put together. -/
namespace Go.Proofs.YtfhlcondnaahiaaDoor
open Go.RowKit Sha

set_option maxRecDepth 100000 in
theorem salt_in (w : World) (g : Nat) (l : List UInt8) (fz : Nat × Nat) (h : w.heap[g]? = some (.cells (byteCells l).toArray 5 fz)) : bytesIn w (some ⟨g, 0, none⟩) l :=
  Or.inr ⟨_, _, rfl, fun i hi => by
    rw [Nat.zero_add, cell_of_row _ _ _ _ _ _ h, List.getElem?_toArray]
    exact byteCells_get l i hi⟩

end Go.Proofs.YtfhlcondnaahiaaDoor
end
section
/- The laws' first question: rings. -/
namespace Go.Proofs.YtfhlcondnaahiaaDoor
open Go.RowKit Sha

set_option maxRecDepth 100000 in
theorem wpList_load_mid_if {P : Program} {ops : Array Oper} {rest : List Oper} {op : Oper} {a : Act} {w : World} {Q : Exit → Act → World → Prop} (hw : Region.wanted op (yielded ops a.tmps) = true) (ty : TypeId) (x : Operand) (ho : op.op = .load ty x)
    (b o : Nat) (hx : a.eval x = .pointer (some ⟨b, o, none⟩)) (cs : List Value) (d : TypeDesc) (hc : w.rangeAt b o cs)
    (hu : P.underlying ty = some d) (hd : d.isRow = true) (hi : (P.info? ty).map (·.size) = some cs.length)
    (h : wpList P ops Q rest (a.put op.dst (.agg cs.toArray)) w) : wpList P ops Q (op :: rest) a w :=
  BigFrame.wpList_want hw fun _ hK => wp_load_mid ty x ho b o hx cs d hc hu hd hi (hK _ _ h)
set_option maxRecDepth 100000 in
theorem zeros_bytes (n : Nat) : zeros n = byteCells (List.replicate n 0) := by
  simp [zeros, byteCells]
  right
  rfl
end Go.Proofs.YtfhlcondnaahiaaDoor
end
section
/- The key laws' lines. -/
namespace Go.Proofs.YtfhlcondnaahiaaDoor
open Go.RowKit Sha

/-- What a Line holds. -/
structure Ln where
  wa : Option Addr
  wc : Nat
  W : List UInt8
  st : Int
  ba : Option Addr
  bc : Nat
  G : List UInt8
  ra : Option Addr
  rc : Nat
  R : List (List UInt8)
  kd : UInt8
  nm : List UInt8
def Ln.cells (L : Ln) : List Value := [.slice L.wa L.W.length L.wc, .int .i64 L.st, .slice L.ba L.G.length L.bc, .slice L.ra L.R.length L.rc, .int .u8 (V L.kd), .string (str L.nm)]
structure Ln.ok (X : World) (L : Ln) : Prop where
  word : Pt.ok0 X ⟨L.wa, L.wc, L.W⟩
  begins : Pt.ok0 X ⟨L.ba, L.bc, L.G⟩
  rows : partsW X L.ra L.R
theorem Ln.ok.below {X Y : World} {L : Ln} (h : L.ok X) (k : Below X.heap.size X Y) : L.ok Y := ⟨h.word.below k, h.begins.below k, h.rows.below k⟩
def Ln.z (L : Ln) : Nat := (wrap64 ((IntKind.u64.wrap L.st).tmod 5)).toNat
def Ln.word (L : Ln) : List UInt8 := 119 :: L.W.take 100
def Ln.ring (L : Ln) : List UInt8 := ringL (stretch L.word saltL L.z)
/-- A pen's cells. -/
def penCells (R : List UInt8) (tb : Nat) : List Value := byteCells R ++ [Value.pointer (some ⟨tb, 0, none⟩)]
theorem infoPen : (Tryd.prog.info? 77).map (·.size) = some 97 := by kernel_rfl
theorem buildPen (R : List UInt8) (tb : Nat) (hR : R.length = 96) (w : World) : (Instr.build 77 #[(0, .agg (byteCells R).toArray), (1, .pointer (some ⟨tb, 0, none⟩))]).run Tryd.prog w = .ok (.agg (penCells R tb).toArray) w := by
  refine Ci.run_build_struct w _ (Tryd.prog.fieldsOf 77) #[(0, 96), (96, 1)] (.agg (zeros 96 ++ [Value.pointer none]).toArray) _ _ (by kernel_rfl) (by kernel_rfl) (by kernel_rfl) ?_
  show Instr.fill _ (zeros 96 ++ [Value.pointer none]).toArray [(0, .agg (byteCells R).toArray), (1, .pointer (some ⟨tb, 0, none⟩))] = _
  have h1 : (byteCells R).length = 96 := by rw [byteCells_length, hR]
  have hz : (zeros 96 ++ [Value.pointer none]).length = 97 := by simp [zeros]
  rw [Ci.fill_cells _ (zeros 96 ++ [Value.pointer none]) 0 _ (byteCells R) rfl _ 0 (by rw [h1]; rfl) (by rw [h1, hz]; omega), Ci.fill_cells _ (splice (zeros 96 ++ [Value.pointer none]) 0 (byteCells R)) 1 _ [Value.pointer (some ⟨tb, 0, none⟩)] rfl _ 96 rfl (by rw [Ci.splice_keep (by rw [h1, hz]; omega), hz]; show 96 + 1 ≤ 97; omega), splice_twoW _ _ _ 96 1 h1 rfl hz]
  rfl
end Go.Proofs.YtfhlcondnaahiaaDoor
end
section
/- The laws' pens. -/
namespace Go.Proofs.YtfhlcondnaahiaaDoor
open Go.RowKit Sha

theorem penCells_length (R : List UInt8) (tb : Nat) (hR : R.length = 96) : (penCells R tb).length = 97 := by
  unfold penCells
  rw [List.length_append, byteCells_length, hR]
  rfl
theorem tapeAt.other {X Y : World} {tb g : Nat} {fa : Option Addr} {fc : Nat} {F : List UInt8} {told : Nat} (h : tapeAt X tb fa fc F told) (k : But g X Y) (h1 : tb ≠ g) (h2 : ∀ x, fa = some x → x.block ≠ g) : tapeAt Y tb fa fc F told := by
  refine ⟨k.is h.is h1, ?_, h.apart, h.len, h.cap, h.most⟩
  rcases h.row with e | ⟨b, o, rfl, hc⟩
  · exact .inl e
  · exact .inr ⟨b, o, rfl, fun j hj => k.cell (hc j hj) (show b ≠ g from h2 ⟨b, o, none⟩ rfl)⟩
theorem run_buildO {P : Program} {o : Oper} {w : World} (a : Act) (ty : TypeId) (ps : Array (Nat × Operand)) (ho : o.op = .build ty ps)
    (qs : Array (Nat × Value)) (v : Value) (hrun : (Instr.build ty qs).run P w = .ok v w) (hq : (ps.toList.map fun p => (p.1, a.eval p.2)) = qs.toList) : (execOp a.eval o).run P w = .ok (.value v) w := by
  have e : (ps.map fun (i, x) => (i, a.eval x)) = qs := by
    apply Array.toList_inj.1
    rw [Array.toList_map, ← hq]
  unfold execOp
  simp only [ho, Sem.run_bind, e, hrun, Result.andThen_ok, Sem.run_pure]
end Go.Proofs.YtfhlcondnaahiaaDoor
end
