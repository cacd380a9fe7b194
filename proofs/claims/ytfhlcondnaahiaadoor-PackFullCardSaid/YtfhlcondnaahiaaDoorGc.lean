/- A sum under way, in memory: the register, 64 bytes, and how many bytes came. And copies into the middle of a block. -/
import Derived.Test.YtfhlcondnaahiaaDoorGb
import Derived.Test.YtfhlcondnaahiaaDoorGa
import Derived.Laws.CopyOwn
import Derived.Deep.MidRow
section
namespace Go.Proofs.YtfhlcondnaahiaaDoor
open Go.RowKit Sha

/-- Bytes, as cells. -/
def byteCells (l : List UInt8) : List Value := l.map fun b => .int .u8 (V b)
theorem byteCells_length (l : List UInt8) : (byteCells l).length = l.length := by simp [byteCells]
theorem byteCells_get (l : List UInt8) (j : Nat) (h : j < l.length) : (byteCells l)[j]? = some (.int .u8 (V (l.getD j 0))) := by
  simp [byteCells, h]
theorem byteCells_one (l : List UInt8) : ∀ v ∈ byteCells l, v.oneCell' = true := by
  intro v hv
  obtain ⟨_, _, rfl⟩ := List.mem_map.1 hv
  rfl

/-- The cells of a sum under way. -/
def runCells (r : Reg) (s : List UInt8) (n : Nat) : List Value := regCells r ++ (byteCells s ++ [.int .i64 (n : Int)])
theorem regCells_length (r : Reg) : (regCells r).length = 8 := rfl
theorem runCells_length (r : Reg) (s : List UInt8) (n : Nat) (h : s.length = 64) : (runCells r s n).length = 73 := by
  simp [runCells, regCells_length, byteCells_length, h]

/-- Block b holds, from place pre.length on, a sum under way that took m. -/
def runIs (w : World) (b : Nat) (pre post : List Value) (T : TypeId) (m : List UInt8) : Prop :=
  ∃ s : List UInt8, s.length = 64 ∧ s.take (m.length % 64) = m.drop (m.length - m.length % 64) ∧ blockIs w b (pre ++ (runCells (regAfter m) s m.length ++ post)) T

theorem runIs.but {b g : Nat} {w w' : World} {pre post : List Value} {T : TypeId} {m : List UInt8} (h : runIs w b pre post T m) (hb : But g w w') (hg : b ≠ g) : runIs w' b pre post T m := by
  obtain ⟨s, h1, h2, h3⟩ := h
  exact ⟨s, h1, h2, hb.is h3 hg⟩
theorem runIs.alloc {b : Nat} {w : World} {pre post : List Value} {T : TypeId} {m : List UInt8} (h : runIs w b pre post T m) (o : Obj) : runIs (w.alloc o) b pre post T m := by
  obtain ⟨s, h1, h2, h3⟩ := h
  exact ⟨s, h1, h2, h3.alloc o⟩

/-- A slice's address: its bytes lie there, and not in block b. -/
def bytesAt (w : World) (b : Nat) (a : Option Addr) (l : List UInt8) : Prop :=
  l = [] ∨ ∃ bb bo, a = some ⟨bb, bo, none⟩ ∧ bb ≠ b ∧ ∀ j, j < l.length → w.cell? ⟨bb, bo + j, none⟩ = some (.int .u8 (V (l.getD j 0)))
theorem bytesAt.but {b : Nat} {w w' : World} {a : Option Addr} {l : List UInt8} (h : bytesAt w b a l) (hb : But b w w') : bytesAt w' b a l := by
  rcases h with h | ⟨bb, bo, h1, h2, h3⟩
  · exact Or.inl h
  · exact Or.inr ⟨bb, bo, h1, h2, fun j hj => hb.cell (h3 j hj) h2⟩

/-- The bytes of 's[k:]': the address as the walk writes it. -/
theorem bytesAt_rest {w : World} {b bb bo : Nat} {l : List UInt8} (hbb : bb ≠ b) (h : ∀ j, j < l.length → w.cell? ⟨bb, bo + j, none⟩ = some (.int .u8 (V (l.getD j 0)))) (c k : Nat) (hk : k ≤ l.length) (hc : l.length ≤ c) :
    bytesAt w b (if c = k then some ⟨bb, bo, none⟩ else some ⟨bb, bo + k, none⟩) (l.drop k) := by
  by_cases hl : k = l.length
  · left
    subst hl
    simp
  · right
    have hck : ¬ c = k := by omega
    refine ⟨bb, bo + k, if_neg hck, hbb, fun j hj => ?_⟩
    rw [List.length_drop] at hj
    rw [Nat.add_assoc, h (k + j) (by omega)]
    simp [List.getD]

/-- copy into the middle of a block that is known whole, from somewhere else. -/
theorem wpList_copy_but {P : Program} {w : World} {ops : Array Oper} {rest : List Oper} {o : Oper} {a : Act} {Q : Exit → Act → World → Prop} (hgd : o.guard = none) (d s : Operand) (dT sT : TypeId)
    (ho : o.op = .call { callee := .builtin .copy, args := #[d, s], argTypes := #[dT, sT] }) (elem : TypeId) (hu : P.underlying dT = some (.slice elem)) (hsz : (P.info? elem).map (·.size) = some 1)
    (dp sp : Option Addr) (dLen dCap sLen sCap : Nat) (hd : a.eval d = .slice dp dLen dCap) (hs : a.eval s = .slice sp sLen sCap)
    (g off : Nat) (cur : List Value) (t : TypeId) (hg : blockIs w g cur t) (cs : List Value) (hn : cs.length = Nat.min sLen dLen)
    (hpos : 0 < cs.length → dp = some ⟨g, off, none⟩ ∧ ∃ ad, sp = some ad ∧ ∀ j v, cs[j]? = some v → w.cell? (ad.add j) = some v)
    (hfit : off + cs.length ≤ cur.length) (h1 : ∀ v ∈ cs, v.oneCell' = true)
    (h : ∀ w', Hid (blockIs w' g (splice cur off cs) t) → Hid (But g w w') → Hid (w'.heap.size = w.heap.size) → wpList P ops Q rest (a.put o.dst (goInt cs.length)) w') :
    wpList P ops Q (o :: rest) a w := by
  by_cases h0 : cs.length = 0
  · obtain rfl : cs = [] := List.eq_nil_of_length_eq_zero h0
    refine wpList_copy_nothing hgd d s dT sT ho elem hu hsz dp sp dLen dCap sLen sCap hd hs (by simpa using hn.symm) ?_
    exact h w (by rw [show splice cur off [] = cur by simp [splice]]; exact hg) (But.refl _ _) rfl
  · obtain ⟨rfl, ad, rfl, hsrc⟩ := hpos (by omega)
    refine wpList_copy_own hgd d s dT sT ho elem hu hsz g off dLen dCap ad sLen sCap hd hs cur.toArray t hg cs hn hsrc (by simpa using hfit) h1 ?_
    refine h _ (show _ = _ by simpa [splice] using setRow_heap w g _ _ t _ hg) ⟨rfl, rfl, rfl, by simp [World.setRow], fun k _ hk => setRow_other w g k _ hk⟩ (by
      show (w.setRow g _).heap.size = _
      simp)

/-- A value of many cells, stored into a block that is known whole. -/
theorem run_storeVar_block {P : Program} (w : World) (g off : Nat) (ty : TypeId) (cur cs : List Value) (t : TypeId) (hg : blockIs w g cur t) (hi : (P.info? ty).map (·.size) = some cs.length) (hfit : off + cs.length ≤ cur.length) (h1 : ∀ v ∈ cs, v.oneCell' = true) :
    (storeVar ty ⟨g, off, none⟩ (.agg cs.toArray)).run P w = .ok () (w.setRow g (splice cur off cs).toArray) := by
  have := run_storeCells_at P g off t cs 0 cur.toArray w hg (by simpa using hfit) h1
  cases hq : P.info? ty with
  | none => simp [hq] at hi
  | some i =>
    have hs : cs.length = i.size := by simp [hq] at hi; omega
    simp [storeVar, sizeOf, typeInfo, hq, Value.cells, hs, this, splice]
theorem wpList_store_block {P : Program} {ops : Array Oper} {rest : List Oper} {o : Oper} {a : Act} {w : World} {Q : Exit → Act → World → Prop} (hgd : o.guard = none) (ty : TypeId) (x y : Operand) (ho : o.op = .store ty x y)
    (g off : Nat) (cs : List Value) (hx : a.eval x = .pointer (some ⟨g, off, none⟩)) (hy : a.eval y = .agg cs.toArray) (cur : List Value) (t : TypeId) (hg : blockIs w g cur t)
    (hi : (P.info? ty).map (·.size) = some cs.length) (hfit : off + cs.length ≤ cur.length) (h1 : ∀ v ∈ cs, v.oneCell' = true)
    (h : ∀ w', Hid (blockIs w' g (splice cur off cs) t) → Hid (But g w w') → Hid (w'.heap.size = w.heap.size) → wpList P ops Q rest (a.put o.dst undef) w') : wpList P ops Q (o :: rest) a w := by
  refine wpList_plain hgd fun K hK => ?_
  unfold Oper.wp execOp
  simp only [ho, hx, hy, Instr.storeAt, Instr.sureAddr, Sem.run_bind, Sem.run_pure, Result.andThen_ok, run_storeVar_block w g off ty cur cs t hg hi hfit h1]
  exact hK _ _ (h _ (show _ = _ by simpa using setRow_heap w g _ _ t _ hg) ⟨rfl, rfl, rfl, by simp [World.setRow], fun k _ hk => setRow_other w g k _ hk⟩ (by
      show (w.setRow g _).heap.size = _
      simp))
/-- A value of many cells, loaded out of a block that is known whole. -/
theorem rangeAt_block {w : World} {g : Nat} {p cs q : List Value} {t : TypeId} (hg : blockIs w g (p ++ (cs ++ q)) t) : w.rangeAt g p.length cs := by
  intro j v hj
  rw [hg.cell, get_mid _ _ _ _ (List.getElem?_eq_some_iff.1 hj).1]
  exact hj
theorem splice_all {α : Type} (x y : List α) (h : x.length = y.length) : splice x 0 y = y := by
  simp [splice, ← h]

/-- What is copied over the middle of a block. -/
theorem splice_mid {α : Type} (p x q : List α) (k : Nat) (cs : List α) (h : k + cs.length ≤ x.length) : splice (p ++ (x ++ q)) (p.length + k) cs = p ++ (splice x k cs ++ q) := by
  unfold splice
  rw [List.take_append, List.take_of_length_le (by omega), List.drop_append, List.drop_of_length_le (by omega)]
  rw [show p.length + k - p.length = k by omega, show p.length + k + cs.length - p.length = k + cs.length by omega]
  rw [List.take_append_of_le_length (by omega), List.drop_append_of_le_length (by omega)]
  simp
theorem splice_bytes (s cs : List UInt8) (k : Nat) : splice (byteCells s) k (byteCells cs) = byteCells (splice s k cs) := by
  simp [splice, byteCells]

/-- Bytes of a list, as the cells of a slice's memory. -/
theorem bytesAt.cells {w : World} {b : Nat} {a : Option Addr} {l : List UInt8} (h : bytesAt w b a l) (n : Nat) (hn : 0 < (byteCells (l.take n)).length) : ∃ ad, a = some ad ∧ ∀ j v, (byteCells (l.take n))[j]? = some v → w.cell? (ad.add j) = some v := by
  rcases h with rfl | ⟨bb, bo, rfl, h2, h3⟩
  · simp [byteCells] at hn
  · refine ⟨_, rfl, fun j v hj => ?_⟩
    have hlt := (List.getElem?_eq_some_iff.1 hj).1
    rw [byteCells_length, List.length_take] at hlt
    rw [byteCells_get _ _ (by rw [List.length_take]; omega)] at hj
    have e : (⟨bb, bo, none⟩ : Addr).add j = ⟨bb, bo + j, none⟩ := by unfold Addr.add; split <;> simp_all
    rw [e, h3 j (by omega), ← hj, getD_take _ _ _ _ (by omega)]

theorem bytesAt.all {w : World} {b : Nat} {a : Option Addr} {l : List UInt8} (h : bytesAt w b a l) (hn : 0 < (byteCells l).length) : ∃ ad, a = some ad ∧ ∀ j v, (byteCells l)[j]? = some v → w.cell? (ad.add j) = some v := by
  have := h.cells l.length
  rw [List.take_length] at this
  exact this hn

/-- A block with a run in it, whatever stands in the count's place. -/
def runRow (pre post : List Value) (r : Reg) (s : List UInt8) (v : Value) : List Value := pre ++ (regCells r ++ ((byteCells s ++ [v]) ++ post))
theorem runRow_length (pre post : List Value) (r : Reg) (s : List UInt8) (v : Value) (hs : s.length = 64) : (runRow pre post r s v).length = pre.length + 73 + post.length := by
  simp [runRow, regCells_length, byteCells_length, hs]; omega

/-- What a copy over a run's 64 bytes makes of the block. -/
theorem splice_run (pre post : List Value) (r : Reg) (s cs : List UInt8) (v : Value) (k : Nat) (hs : s.length = 64) (h : k + cs.length ≤ 64) :
    splice (runRow pre post r s v) (pre.length + 8 + k) (byteCells cs) = runRow pre post r (splice s k cs) v := by
  unfold runRow
  have e : pre ++ (regCells r ++ ((byteCells s ++ [v]) ++ post)) = (pre ++ regCells r) ++ (byteCells s ++ ([v] ++ post)) := by simp
  rw [e, show pre.length + 8 + k = (pre ++ regCells r).length + k by simp [regCells_length], splice_mid _ _ _ _ _ (by rw [byteCells_length, byteCells_length]; omega), splice_bytes]
  simp
theorem splice_len (s cs : List UInt8) (k : Nat) (hs : s.length = 64) (h : k + cs.length ≤ 64) : (splice s k cs).length = 64 := by
  rw [length_splice _ _ _ (by omega), hs]

/-- The run behind the last bytes, which don't fill a block. -/
theorem runIs_of {w : World} {b : Nat} {pre post : List Value} {T : TypeId} {m l y d s : List UInt8} (hyd : l = y ++ d) (hy : (m ++ y).length % 64 = 0) (hd : d.length < 64) (hs : s.length = 64) (hr : blockIs w b (runRow pre post (regAfter (m ++ y)) (splice s 0 d) (.int .i64 ((m.length : Int) + l.length))) T) :
    runIs w b pre post T (m ++ l) := by
  subst hyd
  have hlen : (m ++ (y ++ d)).length = (m ++ y).length + d.length := by simp only [List.length_append]; omega
  have hmod : (m ++ (y ++ d)).length % 64 = d.length := by omega
  refine ⟨splice s 0 d, splice_len _ _ _ hs (by omega), ?_, ?_⟩
  · rw [hmod, hlen, show (m ++ y).length + d.length - d.length = (m ++ y).length by omega, ← List.append_assoc m, List.drop_left]
    simp [splice]
  · rw [← List.append_assoc m, regAfter_short _ _ (by omega)]
    unfold runCells
    rw [List.append_assoc]
    have e : (((m ++ y ++ d).length : Nat) : Int) = (m.length : Int) + ((y ++ d).length : Nat) := by simp only [List.length_append]; omega
    rw [e]
    exact hr

end Go.Proofs.YtfhlcondnaahiaaDoor
end
section
/- (*run).take: bytes more. -/
namespace Go.Proofs.YtfhlcondnaahiaaDoor
open Go.RowKit Sha


theorem size5 : (Tryd.prog.info? 5).map (·.size) = some 1 := by kernel_rfl
def lenOf : Value → Nat | .slice _ n _ => n | _ => 0
theorem runCells_set72 (r : Reg) (s : List UInt8) (n : Nat) (h : s.length = 64) (v : Value) : (runCells r s n).set 72 v = regCells r ++ (byteCells s ++ [v]) := by
  unfold runCells
  rw [List.set_append_right _ _ (by rw [regCells_length]; omega), List.set_append_right _ _ (by rw [byteCells_length, regCells_length]; omega), byteCells_length, regCells_length, h]
  rfl

set_option maxRecDepth 100000 in
set_option maxHeartbeats 2000000 in
theorem take_zero (b c : Nat) (a : Option Addr) (pre post : List Value) (T : TypeId) (m l : List UInt8) (w : World) (h0 : m.length % 64 = 0) (hl : l.length ≤ c) (hc : c ≤ 9223372036854775807) (hm : m.length + l.length ≤ 140737488355328)
    (hr : runIs w b pre post T m) (hb : bytesAt w b a l)
    (hk : ∀ j, j < 64 → w.cell? ⟨1, j, none⟩ = some (.int .u32 (U (consts.getD j 0)))) (hbg : b ≠ 1) :
    Calls Tryd.prog 71 #[.pointer (some ⟨b, pre.length, none⟩), .slice a l.length c] w fun e w' => e = .returned (.tuple #[]) ∧ runIs w' b pre post T (m ++ l) ∧ But b w w' := by
  obtain ⟨s, hs, hsm, hr⟩ := hr
  have c1 : w.cell? ⟨b, pre.length + 72, none⟩ = some (.int .i64 (m.length : Int)) := by
    rw [hr.cell, get_mid _ _ _ _ (by rw [runCells_length _ _ _ hs]; omega)]
    unfold runCells
    rw [List.getElem?_append_right (by rw [regCells_length]; omega), List.getElem?_append_right (by rw [byteCells_length, regCells_length]; omega), byteCells_length, regCells_length, hs]
    rfl
  have c2 : w.frozen? ⟨b, pre.length + 72, none⟩ = false := hr.free _
  have e0 : (m.length : Int) % 64 = 0 := by omega
  have p1 : 0 ≤ (m.length : Int) := by omega
  have e1 : IntKind.i64.wrap ((m.length : Int) + l.length) = (m.length : Int) + l.length := IntWalk.i64_in _ (by omega)
  have HR := Lib.hid hr
  have HS := Lib.hid hsm
  have HB := Lib.hid hb
  have HK := Lib.hid hk
  have HS2 := Lib.hid hs
  clear hr hsm hb hk hs
  go_enter Tryd.func71, Tryd.ntmps71
  go_wp2_with fail
  have F1 : Hid (blockIs (w.setCell ⟨b, pre.length + 72, none⟩ (.int .i64 ((m.length : Int) + l.length))) b (runRow pre post (regAfter (m ++ [])) s (.int .i64 ((m.length : Int) + l.length))) T) := Lib.hid (by
    have := HR.out.set (pre.length + 72) (.int .i64 ((m.length : Int) + l.length))
    rw [set_mid _ _ _ _ (by rw [runCells_length _ _ _ HS2.out]; omega), runCells_set72 _ _ _ HS2.out, List.append_assoc] at this
    rwa [List.append_nil])
  have F2 : Hid (But b w (w.setCell ⟨b, pre.length + 72, none⟩ (.int .i64 ((m.length : Int) + l.length)))) := Lib.hid ((But.refl b w).setCell _ _ (Or.inl rfl))
  generalize w.setCell ⟨b, pre.length + 72, none⟩ (.int .i64 ((m.length : Int) + l.length)) = w1 at *
  clear HR HS c1 c2 e1 e0
  go_loopw [1] (fun v wr => ∃ (y d s : List UInt8) (a : Option Addr) (c : Nat), l = y ++ d ∧ (m ++ y).length % 64 = 0 ∧ v = .slice a d.length c ∧ d.length ≤ c ∧ c ≤ 9223372036854775807 ∧ bytesAt wr b a d ∧ s.length = 64 ∧ blockIs wr b (runRow pre post (regAfter (m ++ y)) s (.int .i64 ((m.length : Int) + l.length))) T ∧ But b w wr) (fun v _ => lenOf v)
  case atStart => exact ⟨[], l, s, a, c, rfl, by rw [List.append_nil]; exact h0, rfl, hl, hc, HB.out.but F2.out, HS2.out, F1.out, F2.out⟩
  case round =>
    clear HB F1 F2 HS2 hl hc
    obtain ⟨y, d, s, a, c, hyd, hy, rfl, hdc, hc, hb, hs, hr, hbut⟩ := hrel
    by_cases hlt : 64 ≤ d.length
    · rcases hb with rfl | ⟨bb, bo, rfl, hbb, hb⟩
      · simp at hlt
      have HYD := Lib.hid hyd
      have HY := Lib.hid hy
      have HB := Lib.hid hb
      have HS := Lib.hid hs
      have HR := Lib.hid hr
      have HBUT := Lib.hid hbut
      clear hyd hy hb hs hr hbut
      go_wp2_with fail
      refine (work_any b bb bo d.length c pre _ T _ d wr hlt (by omega) (fun j hj => HB.out j (by omega)) (block_lt_of_cell (HB.out 0 (by omega))) HR.out (fun j hj => HBUT.out.cell (HK.out j hj) (Ne.symm hbg)) (Nat.lt_of_lt_of_le (block_lt_of_cell (HK.out 0 (by omega))) HBUT.out.size) hbg).mono ?_
      rintro e w2 ⟨rfl, h1, h2⟩
      have H1 := Lib.hid h1
      have H2 := Lib.hid h2
      clear h1 h2
      go_wp2_with fail
      go_roundw
      case rel =>
        have hyl := HY.out
        refine ⟨y ++ d.take 64, d.drop 64, s, _, c - 64, ?_, ?_, ?_, ?_, ?_, (bytesAt_rest hbb HB.out c 64 hlt hdc).but H2.out, HS.out, ?_, HBUT.out.trans H2.out⟩
        · rw [HYD.out, List.append_assoc, List.take_append_drop]
        · have := HY.out; simp only [List.length_append, List.length_take] at this ⊢; omega
        · rw [List.length_drop]
        · rw [List.length_drop]; omega
        · omega
        · rw [← List.append_assoc m, regAfter_whole _ _ hyl hlt]
          exact H1.out
      case measure => simp [lenOf]; omega
    · have HYD := Lib.hid hyd
      have HY := Lib.hid hy
      have HB := Lib.hid hb
      have HS := Lib.hid hs
      have HR := Lib.hid hr
      have HBUT := Lib.hid hbut
      clear hyd hy hb hs hr hbut
      go_wp2_with (refine wpList_copy_but rfl _ _ 30 30 rfl 5 Tryd.underlying30 size5 _ _ _ _ _ _ rfl rfl b (pre.length + 8) _ T HR.out (byteCells d) ?c1 ?c2 ?c3 ?c4 ?_)
      case c1 => rw [byteCells_length]; simp [Nat.min_def]; omega
      case c2 => exact fun h => HB.out.all h
      case c3 => rw [byteCells_length, runRow_length _ _ _ _ _ HS.out]; omega
      case c4 => exact byteCells_one _
      intro w2 h1 h2 _
      go_wp2_with fail
      go_end0
      refine ⟨rfl, ?_, HBUT.out.trans h2.out⟩
      have h1 := h1.out
      rw [show pre.length + 8 = pre.length + 8 + 0 from rfl, splice_run _ _ _ _ _ _ _ HS.out (by omega)] at h1
      exact runIs_of HYD.out HY.out (by omega) HS.out h1

set_option maxRecDepth 100000 in
set_option maxHeartbeats 2000000 in
theorem take_short (b c h : Nat) (a : Option Addr) (pre post : List Value) (T : TypeId) (m l : List UInt8) (w : World) (h0 : m.length % 64 = h) (hpos : 0 < h) (hshort : h + l.length < 64) (hl : l.length ≤ c) (hc : c ≤ 9223372036854775807) (hm : m.length + l.length ≤ 140737488355328)
    (hr : runIs w b pre post T m) (hb : bytesAt w b a l) :
    Calls Tryd.prog 71 #[.pointer (some ⟨b, pre.length, none⟩), .slice a l.length c] w fun e w' => e = .returned (.tuple #[]) ∧ runIs w' b pre post T (m ++ l) ∧ But b w w' := by
  obtain ⟨s, hs, hsm, hr⟩ := hr
  have c1 : w.cell? ⟨b, pre.length + 72, none⟩ = some (.int .i64 (m.length : Int)) := by
    rw [hr.cell, get_mid _ _ _ _ (by rw [runCells_length _ _ _ hs]; omega)]
    unfold runCells
    rw [List.getElem?_append_right (by rw [regCells_length]; omega), List.getElem?_append_right (by rw [byteCells_length, regCells_length]; omega), byteCells_length, regCells_length, hs]
    rfl
  have c2 : w.frozen? ⟨b, pre.length + 72, none⟩ = false := hr.free _
  have e0 : (m.length : Int) % 64 = (h : Int) := by omega
  have p1 : 0 ≤ (m.length : Int) := by omega
  have p2 : 0 < (h : Int) := by omega
  have p3 : (h : Int) ≤ 64 := by omega
  have p4 : 0 ≤ (h : Int) := by omega
  have p5 : ¬ 64 = h := by omega
  have e1 : IntKind.i64.wrap ((m.length : Int) + l.length) = (m.length : Int) + l.length := IntWalk.i64_in _ (by omega)
  have hbl : (byteCells l).length = l.length := byteCells_length l
  have q1 : (h : Int) + (l.length : Int) < 64 := by omega
  have q2 : (m.length : Int) % 64 + (l.length : Int) < 64 := by omega
  have HR := Lib.hid hr
  have HS := Lib.hid hsm
  have HB := Lib.hid hb
  have HS2 := Lib.hid hs
  clear hr hsm hb hs
  have F1 : Hid (blockIs (w.setCell ⟨b, pre.length + 72, none⟩ (.int .i64 ((m.length : Int) + l.length))) b (runRow pre post (regAfter m) s (.int .i64 ((m.length : Int) + l.length))) T) := Lib.hid (by
    have := HR.out.set (pre.length + 72) (.int .i64 ((m.length : Int) + l.length))
    rw [set_mid _ _ _ _ (by rw [runCells_length _ _ _ HS2.out]; omega), runCells_set72 _ _ _ HS2.out, List.append_assoc] at this
    exact this)
  have F2 : Hid (But b w (w.setCell ⟨b, pre.length + 72, none⟩ (.int .i64 ((m.length : Int) + l.length)))) := Lib.hid ((But.refl b w).setCell _ _ (Or.inl rfl))
  have H0 := Lib.hid h0
  clear h0
  go_enter Tryd.func71, Tryd.ntmps71
  go_wp2_with (refine wpList_copy_but rfl _ _ 30 30 rfl 5 Tryd.underlying30 size5 _ _ _ _ _ _ rfl rfl b (pre.length + 8 + h) _ T F1.out (byteCells l) ?c1 ?c2 ?c3 ?c4 ?_)
  case c1 => rw [byteCells_length]; simp [Nat.min_def]; omega
  case c2 => exact fun h => (HB.out.but F2.out).all (by rw [hbl]; exact h)
  case c3 => rw [byteCells_length, runRow_length _ _ _ _ _ HS2.out]; omega
  case c4 => exact byteCells_one _
  intro w2 h1 h2 _
  have H1 := Lib.hid h1.out
  have H2 := Lib.hid h2.out
  clear h1 h2 c1 c2 e1 e0
  go_wp2_with fail
  refine bodyPost_ret (v := .tuple #[]) (results_none rfl _ _ _) rfl ?_
  refine ⟨rfl, ?_, F2.out.trans H2.out⟩
  have h1 := H1.out
  rw [splice_run _ _ _ _ _ _ _ HS2.out (by omega)] at h1
  have hlen : (m ++ l).length = m.length + l.length := by simp only [List.length_append]
  have hmod : (m ++ l).length % 64 = h + l.length := by have := H0.out; omega
  refine ⟨splice s h l, splice_len _ _ _ HS2.out (by omega), ?_, ?_⟩
  · have hs0 := HS.out
    rw [H0.out] at hs0
    rw [hmod, hlen, show m.length + l.length - (h + l.length) = m.length - h by omega, List.drop_append_of_le_length (by omega), ← hs0]
    unfold splice
    rw [← List.append_assoc, List.take_append_of_le_length (by simp [HS2.out]; omega)]
    apply List.take_of_length_le
    simp [HS2.out]
    omega
  · rw [regAfter_short _ _ (by have := H0.out; omega)]
    unfold runCells
    rw [List.append_assoc, hlen, Int.natCast_add]
    exact h1

set_option maxRecDepth 100000 in
set_option maxHeartbeats 2000000 in
theorem take_long (b c h g : Nat) (hcg : ¬ c = g) (a : Option Addr) (pre post : List Value) (T : TypeId) (m l : List UInt8) (w : World) (h0 : m.length % 64 = h) (hpos : 0 < h) (hg : h + g = 64) (hlong : g ≤ l.length) (hl : l.length ≤ c) (hc : c ≤ 9223372036854775807) (hm : m.length + l.length ≤ 140737488355328)
    (hr : runIs w b pre post T m) (hb : bytesAt w b a l)
    (hk : ∀ j, j < 64 → w.cell? ⟨1, j, none⟩ = some (.int .u32 (U (consts.getD j 0)))) (hbg : b ≠ 1) :
    Calls Tryd.prog 71 #[.pointer (some ⟨b, pre.length, none⟩), .slice a l.length c] w fun e w' => e = .returned (.tuple #[]) ∧ runIs w' b pre post T (m ++ l) ∧ But b w w' := by
  rcases hb with rfl | ⟨bb, bo, rfl, hbb, hb⟩
  · simp at hlong; omega
  obtain ⟨s, hs, hsm, hr⟩ := hr
  have c1 : w.cell? ⟨b, pre.length + 72, none⟩ = some (.int .i64 (m.length : Int)) := by
    rw [hr.cell, get_mid _ _ _ _ (by rw [runCells_length _ _ _ hs]; omega)]
    unfold runCells
    rw [List.getElem?_append_right (by rw [regCells_length]; omega), List.getElem?_append_right (by rw [byteCells_length, regCells_length]; omega), byteCells_length, regCells_length, hs]
    rfl
  have c2 : w.frozen? ⟨b, pre.length + 72, none⟩ = false := hr.free _
  have e0 : (m.length : Int) % 64 = (h : Int) := by omega
  have p1 : 0 ≤ (m.length : Int) := by omega
  have p2 : 0 < (h : Int) := by omega
  have p3 : (h : Int) ≤ 64 := by omega
  have p4 : 0 ≤ (h : Int) := by omega
  have p5 : ¬ 64 = h := by omega
  have p6 : 0 ≤ (g : Int) := by omega
  have p7 : (g : Int) ≤ (l.length : Int) := by omega
  have e1 : IntKind.i64.wrap ((m.length : Int) + l.length) = (m.length : Int) + l.length := IntWalk.i64_in _ (by omega)
  have hbl : (byteCells (l.take g)).length = g := by rw [byteCells_length, List.length_take]; omega
  have q1 : ¬ (h : Int) + (g : Int) < 64 := by omega
  have q2 : ¬ (m.length : Int) % 64 + (g : Int) < 64 := by omega
  have HR := Lib.hid hr
  have HS := Lib.hid hsm
  have HB := Lib.hid hb
  have HK := Lib.hid hk
  have HS2 := Lib.hid hs
  clear hr hsm hb hk hs
  have F1 : Hid (blockIs (w.setCell ⟨b, pre.length + 72, none⟩ (.int .i64 ((m.length : Int) + l.length))) b (runRow pre post (regAfter m) s (.int .i64 ((m.length : Int) + l.length))) T) := Lib.hid (by
    have := HR.out.set (pre.length + 72) (.int .i64 ((m.length : Int) + l.length))
    rw [set_mid _ _ _ _ (by rw [runCells_length _ _ _ HS2.out]; omega), runCells_set72 _ _ _ HS2.out, List.append_assoc] at this
    exact this)
  have F2 : Hid (But b w (w.setCell ⟨b, pre.length + 72, none⟩ (.int .i64 ((m.length : Int) + l.length)))) := Lib.hid ((But.refl b w).setCell _ _ (Or.inl rfl))
  have H0 := Lib.hid h0
  have hbA : bytesAt w b (some ⟨bb, bo, none⟩) l := Or.inr ⟨bb, bo, rfl, hbb, HB.out⟩
  have HBA := Lib.hid hbA
  clear hbA
  have HG := Lib.hid hg
  clear h0 hg
  go_enter Tryd.func71, Tryd.ntmps71
  go_wp2_with (refine wpList_copy_but rfl _ _ 30 30 rfl 5 Tryd.underlying30 size5 _ _ _ _ _ _ rfl rfl b (pre.length + 8 + h) _ T F1.out (byteCells (l.take g)) ?c1 ?c2 ?c3 ?c4 ?_)
  case c1 => show g = min l.length (64 - h); have := HG.out; omega
  case c2 => exact fun h => by simpa [Addr.add_lit] using HBA.out.cells g (by rw [hbl]; exact h)
  case c3 => rw [runRow_length _ _ _ _ _ HS2.out]; have := HG.out; omega
  case c4 => exact byteCells_one _
  intro w2 h1 h2 h3
  have h1 := h1.out
  rw [splice_run _ _ _ _ _ _ _ HS2.out (by rw [List.length_take]; have := HG.out; omega)] at h1
  have HS3 : Hid ((splice s h (l.take g)).length = 64) := Lib.hid (splice_len _ _ _ HS2.out (by rw [List.length_take]; have := HG.out; omega))
  have HS4 : Hid (splice s h (l.take g) = m.drop (m.length - m.length % 64) ++ l.take g) := Lib.hid (by
    have hs0 := HS.out
    have := HG.out
    rw [← hs0, H0.out]
    unfold splice
    rw [List.drop_of_length_le (by rw [List.length_take, HS2.out]; omega), List.append_nil])
  generalize splice s h (l.take g) = s2 at *
  have H1 := Lib.hid h1
  have H2 := Lib.hid (F2.out.trans h2.out)
  clear h1 h2 h3 F1 HR c1 c2 e1 e0
  go_wp2_with fail
  have hc2 : ∀ j, j < 64 → w2.cell? ⟨b, pre.length + 8 + j, none⟩ = some (.int .u8 (V (s2.getD j 0))) := by
    intro j hj
    have := H1.out.cell (pre.length + 8 + j)
    rw [this]
    unfold runRow
    rw [List.getElem?_append_right (by omega), List.getElem?_append_right (by rw [regCells_length]; omega), List.append_assoc, List.getElem?_append_left (by rw [byteCells_length, HS3.out, regCells_length]; omega), regCells_length, show pre.length + 8 + j - pre.length - 8 = j by omega]
    exact byteCells_get _ _ (by rw [HS3.out]; omega)
  refine (work_any b b (pre.length + 8) 64 64 pre _ T _ s2 w2 (by omega) (by omega) hc2 H1.out.lt H1.out (fun j hj => H2.out.cell (HK.out j hj) (Ne.symm hbg)) (Nat.lt_of_lt_of_le (block_lt_of_cell (HK.out 0 (by omega))) H2.out.size) hbg).mono ?_
  clear hc2
  rintro e w3 ⟨rfl, h1, h2⟩
  have G1 : Hid (blockIs w3 b (runRow pre post (regAfter (m ++ l.take g)) s2 (.int .i64 ((m.length : Int) + l.length))) T) := Lib.hid (by
    rw [regAfter_block m (l.take g) s2 (by rw [List.length_take, H0.out]; have := HG.out; omega) (by rw [List.take_of_length_le (by rw [HS3.out]; omega)]; exact HS4.out)]
    exact h1)
  have G2 := Lib.hid (H2.out.trans h2)
  clear h1 h2 H1 H2 HS4 HS HS2
  go_wp2_with fail
  go_loopw [1] (fun v wr => ∃ (y d s : List UInt8) (a : Option Addr) (c : Nat), l = y ++ d ∧ (m ++ y).length % 64 = 0 ∧ v = .slice a d.length c ∧ d.length ≤ c ∧ c ≤ 9223372036854775807 ∧ bytesAt wr b a d ∧ s.length = 64 ∧ blockIs wr b (runRow pre post (regAfter (m ++ y)) s (.int .i64 ((m.length : Int) + l.length))) T ∧ But b w wr) (fun v _ => lenOf v)
  case atStart =>
    refine ⟨l.take g, l.drop g, s2, some ⟨bb, bo + g, none⟩, c - g, by rw [List.take_append_drop], ?_, by rw [List.length_drop], by rw [List.length_drop]; omega, by omega, by have hx := (bytesAt_rest hbb HB.out c g hlong hl).but G2.out; rwa [if_neg hcg] at hx, HS3.out, G1.out, G2.out⟩
    rw [List.length_append, List.length_take]
    have := H0.out
    have := HG.out
    omega
  case round =>
    clear HB G1 G2 HS3 hl hc
    obtain ⟨y, d, s, a, c, hyd, hy, rfl, hdc, hc, hb, hs, hr, hbut⟩ := hrel
    by_cases hlt : 64 ≤ d.length
    · rcases hb with rfl | ⟨bb, bo, rfl, hbb, hb⟩
      · simp at hlt
      have HYD := Lib.hid hyd
      have HY := Lib.hid hy
      have HB := Lib.hid hb
      have HS := Lib.hid hs
      have HR := Lib.hid hr
      have HBUT := Lib.hid hbut
      clear hyd hy hb hs hr hbut
      go_wp2_with fail
      refine (work_any b bb bo d.length c pre _ T _ d wr hlt (by omega) (fun j hj => HB.out j (by omega)) (block_lt_of_cell (HB.out 0 (by omega))) HR.out (fun j hj => HBUT.out.cell (HK.out j hj) (Ne.symm hbg)) (Nat.lt_of_lt_of_le (block_lt_of_cell (HK.out 0 (by omega))) HBUT.out.size) hbg).mono ?_
      rintro e w2 ⟨rfl, h1, h2⟩
      have H1 := Lib.hid h1
      have H2 := Lib.hid h2
      clear h1 h2
      go_wp2_with fail
      go_roundw
      case rel =>
        have hyl := HY.out
        refine ⟨y ++ d.take 64, d.drop 64, s, _, c - 64, ?_, ?_, ?_, ?_, ?_, (bytesAt_rest hbb HB.out c 64 hlt hdc).but H2.out, HS.out, ?_, HBUT.out.trans H2.out⟩
        · rw [HYD.out, List.append_assoc, List.take_append_drop]
        · have := HY.out; simp only [List.length_append, List.length_take] at this ⊢; omega
        · rw [List.length_drop]
        · rw [List.length_drop]; omega
        · omega
        · rw [← List.append_assoc m, regAfter_whole _ _ hyl hlt]
          exact H1.out
      case measure => simp [lenOf]; omega
    · have HYD := Lib.hid hyd
      have HY := Lib.hid hy
      have HB := Lib.hid hb
      have HS := Lib.hid hs
      have HR := Lib.hid hr
      have HBUT := Lib.hid hbut
      clear hyd hy hb hs hr hbut
      go_wp2_with (refine wpList_copy_but rfl _ _ 30 30 rfl 5 Tryd.underlying30 size5 _ _ _ _ _ _ rfl rfl b (pre.length + 8) _ T HR.out (byteCells d) ?c1 ?c2 ?c3 ?c4 ?_)
      case c1 => rw [byteCells_length]; simp [Nat.min_def]; omega
      case c2 => exact fun h => HB.out.all h
      case c3 => rw [byteCells_length, runRow_length _ _ _ _ _ HS.out]; omega
      case c4 => exact byteCells_one _
      intro w2 h1 h2 _
      go_wp2_with fail
      go_end0
      refine ⟨rfl, ?_, HBUT.out.trans h2.out⟩
      have h1 := h1.out
      rw [show pre.length + 8 = pre.length + 8 + 0 from rfl, splice_run _ _ _ _ _ _ _ HS.out (by omega)] at h1
      exact runIs_of HYD.out HY.out (by omega) HS.out h1

set_option maxRecDepth 100000 in
set_option maxHeartbeats 2000000 in
theorem take_exact (b h : Nat) (a : Option Addr) (pre post : List Value) (T : TypeId) (m l : List UInt8) (w : World) (h0 : m.length % 64 = h) (hpos : 0 < h) (hg : h + l.length = 64) (hm : m.length + l.length ≤ 140737488355328)
    (hr : runIs w b pre post T m) (hb : bytesAt w b a l)
    (hk : ∀ j, j < 64 → w.cell? ⟨1, j, none⟩ = some (.int .u32 (U (consts.getD j 0)))) (hbg : b ≠ 1) :
    Calls Tryd.prog 71 #[.pointer (some ⟨b, pre.length, none⟩), .slice a l.length l.length] w fun e w' => e = .returned (.tuple #[]) ∧ runIs w' b pre post T (m ++ l) ∧ But b w w' := by
  rcases hb with rfl | ⟨bb, bo, rfl, hbb, hb⟩
  · simp at hg; omega
  obtain ⟨s, hs, hsm, hr⟩ := hr
  have c1 : w.cell? ⟨b, pre.length + 72, none⟩ = some (.int .i64 (m.length : Int)) := by
    rw [hr.cell, get_mid _ _ _ _ (by rw [runCells_length _ _ _ hs]; omega)]
    unfold runCells
    rw [List.getElem?_append_right (by rw [regCells_length]; omega), List.getElem?_append_right (by rw [byteCells_length, regCells_length]; omega), byteCells_length, regCells_length, hs]
    rfl
  have c2 : w.frozen? ⟨b, pre.length + 72, none⟩ = false := hr.free _
  have e0 : (m.length : Int) % 64 = (h : Int) := by omega
  have p1 : 0 ≤ (m.length : Int) := by omega
  have p2 : 0 < (h : Int) := by omega
  have p3 : (h : Int) ≤ 64 := by omega
  have p4 : 0 ≤ (h : Int) := by omega
  have p5 : ¬ 64 = h := by omega
  have p8 : (l.length : Int) ≤ 64 := by omega
  have p6 : 0 ≤ (l.length : Int) := by omega
  have e1 : IntKind.i64.wrap ((m.length : Int) + l.length) = (m.length : Int) + l.length := IntWalk.i64_in _ (by omega)
  have hbl : (byteCells l).length = l.length := byteCells_length l
  have q1 : ¬ (h : Int) + (l.length : Int) < 64 := by omega
  have q2 : ¬ (m.length : Int) % 64 + (l.length : Int) < 64 := by omega
  have HR := Lib.hid hr
  have HS := Lib.hid hsm
  have HB := Lib.hid hb
  have HK := Lib.hid hk
  have HS2 := Lib.hid hs
  clear hr hsm hb hk hs
  have F1 : Hid (blockIs (w.setCell ⟨b, pre.length + 72, none⟩ (.int .i64 ((m.length : Int) + l.length))) b (runRow pre post (regAfter m) s (.int .i64 ((m.length : Int) + l.length))) T) := Lib.hid (by
    have := HR.out.set (pre.length + 72) (.int .i64 ((m.length : Int) + l.length))
    rw [set_mid _ _ _ _ (by rw [runCells_length _ _ _ HS2.out]; omega), runCells_set72 _ _ _ HS2.out, List.append_assoc] at this
    exact this)
  have F2 : Hid (But b w (w.setCell ⟨b, pre.length + 72, none⟩ (.int .i64 ((m.length : Int) + l.length)))) := Lib.hid ((But.refl b w).setCell _ _ (Or.inl rfl))
  have H0 := Lib.hid h0
  have hbA : bytesAt w b (some ⟨bb, bo, none⟩) l := Or.inr ⟨bb, bo, rfl, hbb, HB.out⟩
  have HBA := Lib.hid hbA
  clear hbA
  have HG := Lib.hid hg
  clear h0 hg
  go_enter Tryd.func71, Tryd.ntmps71
  go_wp2_with (refine wpList_copy_but rfl _ _ 30 30 rfl 5 Tryd.underlying30 size5 _ _ _ _ _ _ rfl rfl b (pre.length + 8 + h) _ T F1.out (byteCells l) ?c1 ?c2 ?c3 ?c4 ?_)
  case c1 => show l.length = min l.length (64 - h); have := HG.out; omega
  case c2 => exact fun h => by simpa [Addr.add_lit] using HBA.out.all (by rw [hbl]; exact h)
  case c3 => rw [runRow_length _ _ _ _ _ HS2.out]; have := HG.out; omega
  case c4 => exact byteCells_one _
  intro w2 h1 h2 h3
  have h1 := h1.out
  rw [splice_run _ _ _ _ _ _ _ HS2.out (by have := HG.out; omega)] at h1
  have HS3 : Hid ((splice s h l).length = 64) := Lib.hid (splice_len _ _ _ HS2.out (by have := HG.out; omega))
  have HS4 : Hid (splice s h l = m.drop (m.length - m.length % 64) ++ l) := Lib.hid (by
    have hs0 := HS.out
    have := HG.out
    rw [← hs0, H0.out]
    unfold splice
    rw [List.drop_of_length_le (by rw [HS2.out]; omega), List.append_nil])
  generalize splice s h l = s2 at *
  have H1 := Lib.hid h1
  have H2 := Lib.hid (F2.out.trans h2.out)
  clear h1 h2 h3 F1 HR c1 c2 e1 e0
  go_wp2_with fail
  have hc2 : ∀ j, j < 64 → w2.cell? ⟨b, pre.length + 8 + j, none⟩ = some (.int .u8 (V (s2.getD j 0))) := by
    intro j hj
    have := H1.out.cell (pre.length + 8 + j)
    rw [this]
    unfold runRow
    rw [List.getElem?_append_right (by omega), List.getElem?_append_right (by rw [regCells_length]; omega), List.append_assoc, List.getElem?_append_left (by rw [byteCells_length, HS3.out, regCells_length]; omega), regCells_length, show pre.length + 8 + j - pre.length - 8 = j by omega]
    exact byteCells_get _ _ (by rw [HS3.out]; omega)
  refine (work_any b b (pre.length + 8) 64 64 pre _ T _ s2 w2 (by omega) (by omega) hc2 H1.out.lt H1.out (fun j hj => H2.out.cell (HK.out j hj) (Ne.symm hbg)) (Nat.lt_of_lt_of_le (block_lt_of_cell (HK.out 0 (by omega))) H2.out.size) hbg).mono ?_
  clear hc2
  rintro e w3 ⟨rfl, h1, h2⟩
  have G1 : Hid (blockIs w3 b (runRow pre post (regAfter (m ++ l)) s2 (.int .i64 ((m.length : Int) + l.length))) T) := Lib.hid (by
    rw [regAfter_block m (l) s2 (by rw [H0.out]; have := HG.out; omega) (by rw [List.take_of_length_le (by rw [HS3.out]; omega)]; exact HS4.out)]
    exact h1)
  have G2 := Lib.hid (H2.out.trans h2)
  clear h1 h2 H1 H2 HS4 HS HS2
  go_wp2_with fail
  go_loopw [1] (fun v wr => ∃ (y d s : List UInt8) (a : Option Addr) (c : Nat), l = y ++ d ∧ (m ++ y).length % 64 = 0 ∧ v = .slice a d.length c ∧ d.length ≤ c ∧ c ≤ 9223372036854775807 ∧ bytesAt wr b a d ∧ s.length = 64 ∧ blockIs wr b (runRow pre post (regAfter (m ++ y)) s (.int .i64 ((m.length : Int) + l.length))) T ∧ But b w wr) (fun v _ => lenOf v)
  case atStart =>
    refine ⟨l, [], s2, some ⟨bb, bo, none⟩, 0, by simp, ?_, rfl, by simp, by omega, Or.inl rfl, HS3.out, G1.out, G2.out⟩
    rw [List.length_append]
    have := H0.out
    have := HG.out
    omega
  case round =>
    clear HB G1 G2 HS3
    obtain ⟨y, d, s, a, c, hyd, hy, rfl, hdc, hc, hb, hs, hr, hbut⟩ := hrel
    by_cases hlt : 64 ≤ d.length
    · rcases hb with rfl | ⟨bb, bo, rfl, hbb, hb⟩
      · simp at hlt
      have HYD := Lib.hid hyd
      have HY := Lib.hid hy
      have HB := Lib.hid hb
      have HS := Lib.hid hs
      have HR := Lib.hid hr
      have HBUT := Lib.hid hbut
      clear hyd hy hb hs hr hbut
      go_wp2_with fail
      refine (work_any b bb bo d.length c pre _ T _ d wr hlt (by omega) (fun j hj => HB.out j (by omega)) (block_lt_of_cell (HB.out 0 (by omega))) HR.out (fun j hj => HBUT.out.cell (HK.out j hj) (Ne.symm hbg)) (Nat.lt_of_lt_of_le (block_lt_of_cell (HK.out 0 (by omega))) HBUT.out.size) hbg).mono ?_
      rintro e w2 ⟨rfl, h1, h2⟩
      have H1 := Lib.hid h1
      have H2 := Lib.hid h2
      clear h1 h2
      go_wp2_with fail
      go_roundw
      case rel =>
        have hyl := HY.out
        refine ⟨y ++ d.take 64, d.drop 64, s, _, c - 64, ?_, ?_, ?_, ?_, ?_, (bytesAt_rest hbb HB.out c 64 hlt hdc).but H2.out, HS.out, ?_, HBUT.out.trans H2.out⟩
        · rw [HYD.out, List.append_assoc, List.take_append_drop]
        · have := HY.out; simp only [List.length_append, List.length_take] at this ⊢; omega
        · rw [List.length_drop]
        · rw [List.length_drop]; omega
        · omega
        · rw [← List.append_assoc m, regAfter_whole _ _ hyl hlt]
          exact H1.out
      case measure => simp [lenOf]; omega
    · have HYD := Lib.hid hyd
      have HY := Lib.hid hy
      have HB := Lib.hid hb
      have HS := Lib.hid hs
      have HR := Lib.hid hr
      have HBUT := Lib.hid hbut
      clear hyd hy hb hs hr hbut
      go_wp2_with (refine wpList_copy_but rfl _ _ 30 30 rfl 5 Tryd.underlying30 size5 _ _ _ _ _ _ rfl rfl b (pre.length + 8) _ T HR.out (byteCells d) ?c1 ?c2 ?c3 ?c4 ?_)
      case c1 => rw [byteCells_length]; simp [Nat.min_def]; omega
      case c2 => exact fun h => HB.out.all h
      case c3 => rw [byteCells_length, runRow_length _ _ _ _ _ HS.out]; omega
      case c4 => exact byteCells_one _
      intro w2 h1 h2 _
      go_wp2_with fail
      go_end0
      refine ⟨rfl, ?_, HBUT.out.trans h2.out⟩
      have h1 := h1.out
      rw [show pre.length + 8 = pre.length + 8 + 0 from rfl, splice_run _ _ _ _ _ _ _ HS.out (by omega)] at h1
      exact runIs_of HYD.out HY.out (by omega) HS.out h1

/-- take: bytes more, whatever they are. -/
theorem take_any (b c : Nat) (a : Option Addr) (pre post : List Value) (T : TypeId) (m l : List UInt8) (w : World) (hl : l.length ≤ c) (hc : c ≤ 9223372036854775807) (hm : m.length + l.length ≤ 140737488355328)
    (hr : runIs w b pre post T m) (hb : bytesAt w b a l)
    (hk : ∀ j, j < 64 → w.cell? ⟨1, j, none⟩ = some (.int .u32 (U (consts.getD j 0)))) (hbg : b ≠ 1) :
    Calls Tryd.prog 71 #[.pointer (some ⟨b, pre.length, none⟩), .slice a l.length c] w fun e w' => e = .returned (.tuple #[]) ∧ runIs w' b pre post T (m ++ l) ∧ But b w w' := by
  by_cases h0 : m.length % 64 = 0
  · exact take_zero b c a pre post T m l w h0 hl hc hm hr hb hk hbg
  · by_cases h1 : m.length % 64 + l.length < 64
    · exact take_short b c _ a pre post T m l w rfl (by omega) h1 hl hc hm hr hb
    · by_cases h2 : c = 64 - m.length % 64
      · obtain rfl : c = l.length := by omega
        exact take_exact b _ a pre post T m l w rfl (by omega) (by omega) hm hr hb hk hbg
      · exact take_long b c _ (64 - m.length % 64) h2 a pre post T m l w rfl (by omega) (by omega) (by omega) hl hc hm hr hb hk hbg

end Go.Proofs.YtfhlcondnaahiaaDoor
end
section
/- (run).end: the sum of what was taken. -/
namespace Go.Proofs.YtfhlcondnaahiaaDoor
open Go.RowKit Sha

attribute [local go_sem] U_wrap8 V_toB U_shr8 U_shr16 U_shr24

def zeros (n : Nat) : List Value := List.replicate n (.int .u8 0)
theorem zero60 (w : World) : (zeroValue 167).run Tryd.prog w = .ok (.agg (zeros 72).toArray) w := by kernel_rfl
theorem zero28 (w : World) : (zeroValue 23).run Tryd.prog w = .ok (.agg (zeros 32).toArray) w := by kernel_rfl
theorem zeros_set_one : ∀ v ∈ (zeros 72).set 0 (.int .u8 128), v.oneCell' = true := by
  intro v hv
  rcases List.mem_or_eq_of_mem_set hv with h | rfl
  · obtain ⟨_, rfl⟩ := List.mem_replicate.1 h
    rfl
  · rfl
/-- The sum's bytes of the first k words, and noughts. -/
def outF (R : Reg) (k j : Nat) : UInt8 := if j < 4 * k then (out R).getD j 0 else 0
theorem out_length (R : Reg) : (out R).length = 32 := rfl
theorem out_get (R : Reg) (k : Nat) (h : k < 8) : (out R).getD (4 * k) 0 = toB (R.list.getD k 0 >>> 24) ∧ (out R).getD (4 * k + 1) 0 = toB (R.list.getD k 0 >>> 16) ∧ (out R).getD (4 * k + 2) 0 = toB (R.list.getD k 0 >>> 8) ∧ (out R).getD (4 * k + 3) 0 = toB (R.list.getD k 0) := by
  match k, h with
  | 0, _ => exact ⟨rfl, rfl, rfl, rfl⟩
  | 1, _ => exact ⟨rfl, rfl, rfl, rfl⟩
  | 2, _ => exact ⟨rfl, rfl, rfl, rfl⟩
  | 3, _ => exact ⟨rfl, rfl, rfl, rfl⟩
  | 4, _ => exact ⟨rfl, rfl, rfl, rfl⟩
  | 5, _ => exact ⟨rfl, rfl, rfl, rfl⟩
  | 6, _ => exact ⟨rfl, rfl, rfl, rfl⟩
  | 7, _ => exact ⟨rfl, rfl, rfl, rfl⟩
theorem outF_succ (R : Reg) (k : Nat) (h : k < 8) :
    ((((cells8 (outF R k) 32).set (4 * k) (.int .u8 (V (toB (R.list.getD k 0 >>> 24))))).set (4 * k + 1) (.int .u8 (V (toB (R.list.getD k 0 >>> 16))))).set (4 * k + 2) (.int .u8 (V (toB (R.list.getD k 0 >>> 8))))).set (4 * k + 3) (.int .u8 (V (toB (R.list.getD k 0)))) = cells8 (outF R (k + 1)) 32 := by
  obtain ⟨e0, e1, e2, e3⟩ := out_get R k h
  rw [← e0, ← e1, ← e2, ← e3, cells8_set _ _ _ (by omega), cells8_set _ _ _ (by omega), cells8_set _ _ _ (by omega), cells8_set _ _ _ (by omega)]
  congr 1
  funext j
  unfold outF
  by_cases h3 : j = 4 * k + 3
  · rw [if_pos h3, if_pos (by omega), h3]
  · rw [if_neg h3]
    by_cases h2 : j = 4 * k + 2
    · rw [if_pos h2, if_pos (by omega), h2]
    · rw [if_neg h2]
      by_cases h1 : j = 4 * k + 1
      · rw [if_pos h1, if_pos (by omega), h1]
      · rw [if_neg h1]
        by_cases h0 : j = 4 * k
        · rw [if_pos h0, if_pos (by omega), h0]
        · rw [if_neg h0]
          by_cases hl : j < 4 * k
          · rw [if_pos hl, if_pos (by omega)]
          · rw [if_neg hl, if_neg (by omega)]
theorem outF_all (R : Reg) : cells8 (outF R 8) 32 = byteCells (out R) := rfl
theorem info28 : (Tryd.prog.info? 23).map (·.size) = some 32 := by kernel_rfl
theorem info47 : (Tryd.prog.info? 132).map (·.size) = some 8 := by kernel_rfl
theorem rangeAt_alloc' {w : World} {b o : Nat} {cs : List Value} (h : w.rangeAt b o cs) (ob : Obj) : (w.alloc ob).rangeAt b o cs := World.rangeAt_alloc h ob
theorem info60 : (Tryd.prog.info? 167).map (·.size) = some 72 := by kernel_rfl
theorem zeros_ne : (zeros 72 = []) = False := by simp [zeros]
/-- The tail's 72 bytes, k of its eight laid. -/
def tl (n k j : Nat) : UInt8 := if j = 0 then 0x80 else if 1 + noughts n ≤ j ∧ j < 1 + noughts n + k then (eight (8 * n % 2 ^ 64)).getD (j - 1 - noughts n) 0 else 0
theorem tl_zero (n : Nat) : (zeros 72).set 0 (.int .u8 128) = cells8 (tl n 0) 72 := by
  have e : tl n 0 = fun j => if j = 0 then 0x80 else 0 := by
    funext j
    unfold tl
    by_cases h : j = 0
    · simp [h]
    · rw [if_neg h, if_neg h, if_neg (by omega)]
  rw [e]
  rfl

theorem eight_get (n k : Nat) (hk : k < 8) : (eight n).getD k 0 = UInt8.ofNat (n / 2 ^ (56 - 8 * k)) := by
  simp [eight, hk]
theorem eight_val (n k : Nat) (hk : k < 8) (hn : n ≤ 1000000) : (n : Int) * 8 / 2 ^ (56 - 8 * k) % 256 = V ((eight (8 * n % 2 ^ 64)).getD k 0) := by
  rw [eight_get _ _ hk, Nat.mod_eq_of_lt (by omega)]
  unfold V
  rw [UInt8.toNat_ofNat']
  have e : ((8 * n / 2 ^ (56 - 8 * k) % 2 ^ 8 : Nat) : Int) = ((8 * n / 2 ^ (56 - 8 * k) : Nat) : Int) % 256 := by omega
  rw [e, Int.natCast_ediv, Int.natCast_pow, Int.mul_comm]
  rfl
theorem tl_succ (n k : Nat) (hk : k < 8) : (cells8 (tl n k) 72).set (1 + noughts n + k) (.int .u8 (V ((eight (8 * n % 2 ^ 64)).getD k 0))) = cells8 (tl n (k + 1)) 72 := by
  have hN : noughts n < 64 := by unfold noughts; omega
  rw [cells8_set _ _ _ (by omega)]
  congr 1
  funext j
  unfold tl
  by_cases h : j = 1 + noughts n + k
  · rw [if_pos h, if_neg (by omega), if_pos (by omega)]
    congr 1
    omega
  · rw [if_neg h]
    by_cases h0 : j = 0
    · rw [if_pos h0, if_pos h0]
    · rw [if_neg h0, if_neg h0]
      by_cases h1 : 1 + noughts n ≤ j ∧ j < 1 + noughts n + k
      · rw [if_pos h1, if_pos (by omega)]
      · rw [if_neg h1, if_neg (by omega)]
theorem tl_tail (n : Nat) : (List.range (9 + noughts n)).map (tl n 8) = tail n := by
  apply List.ext_getElem?
  intro i
  by_cases hi : i < 9 + noughts n
  · rw [List.getElem?_map, List.getElem?_range hi]
    unfold tail tl
    simp only [Option.map_some]
    by_cases h0 : i = 0
    · subst h0; simp
    · rw [if_neg h0]
      obtain ⟨i', rfl⟩ : ∃ i', i = i' + 1 := ⟨i - 1, by omega⟩
      rw [List.getElem?_cons_succ]
      by_cases h1 : 1 + noughts n ≤ i' + 1 ∧ i' + 1 < 1 + noughts n + 8
      · rw [if_pos h1, List.getElem?_append_right (by simp; omega), List.length_replicate, List.getElem?_eq_getElem (by rw [eight_length]; omega)]
        congr 1
        simp only [List.getD_eq_getElem?_getD]
        rw [List.getElem?_eq_getElem (by rw [eight_length]; omega), Option.getD_some]
        congr 1
      · rw [if_neg h1, List.getElem?_append_left (by simp; omega), List.getElem?_replicate, if_pos (by omega)]
  · rw [List.getElem?_eq_none (by simp; omega), List.getElem?_eq_none (by rw [tail_length]; omega)]
set_option maxRecDepth 100000 in
set_option maxHeartbeats 2000000 in
theorem end_any (m s : List UInt8) (w : World) (hm : m.length ≤ 1000000) (hs : s.length = 64) (hsm : s.take (m.length % 64) = m.drop (m.length - m.length % 64))
    (hk : ∀ j, j < 64 → w.cell? ⟨1, j, none⟩ = some (.int .u32 (U (consts.getD j 0)))) (hg : 1 < w.heap.size) :
    Calls Tryd.prog 72 #[.agg (runCells (regAfter m) s m.length).toArray] w fun e w' => e = .returned (.agg (byteCells (sha m)).toArray) ∧ Below w.heap.size w w' := by
  have c1 : (runCells (regAfter m) s m.length)[72]? = some (.int .i64 (m.length : Int)) := by
    unfold runCells
    rw [List.getElem?_append_right (by rw [regCells_length]; omega), List.getElem?_append_right (by rw [byteCells_length, regCells_length]; omega), byteCells_length, regCells_length, hs]
    rfl
  have F0 : Hid (runIs (w.alloc (.cells (runCells (regAfter m) s m.length).toArray 134 (0, 0))) w.heap.size [] [] 134 m) := Lib.hid ⟨s, hs, hsm, by simpa using blockIs.new w (runCells (regAfter m) s m.length) 134⟩
  have p1 : 0 ≤ (m.length : Int) := by omega
  have p2 : (m.length : Int) ≤ 1000000 := by omega
  have HS := Lib.hid hs
  have HSM := Lib.hid hsm
  have HK := Lib.hid hk
  clear hs hsm hk
  have hz := zero60
  have hz2 := zeros_ne
  go_enter Tryd.func72, Tryd.ntmps72
  have hz3 := zero28
  go_wp2_with (refine wpList_store_block rfl 167 _ _ rfl (w.heap.size + 1 + 1) 0 ((zeros 72).set 0 (.int .u8 128)) rfl rfl (zeros 72) 167 (blockIs.last _ _ _ _ (by simp)) (by rw [info60]; rfl) (by simp [zeros]) zeros_set_one ?_)
  intro w1 h1 h2 h3
  have h1 := h1.out
  rw [splice_all _ _ (by simp), tl_zero m.length] at h1
  have G1 := Lib.hid (F0.out.alloc (.cells (zeros 32).toArray 23 (0, 0)))
  have G1 := Lib.hid ((G1.out.alloc (.cells (zeros 72).toArray 167 (0, 0))).but h2.out (by omega))
  have G2 : Hid (blockIs w1 (w.heap.size + 1) (zeros 32) 23) := Lib.hid (h2.out.is ((blockIs.last (w.alloc (.cells (runCells (regAfter m) s m.length).toArray 134 (0, 0))) (zeros 32) 23 (w.heap.size + 1) (by simp)).alloc _) (by omega))
  have G3 : Hid (Below w.heap.size w w1) := Lib.hid (((((Below.refl _ w).alloc (Nat.le_refl _) _).alloc (by simp) _).alloc (by simp <;> omega) _).trans (h2.out.below (by omega) (by simp <;> omega)))
  have G4 : Hid (w1.heap.size = w.heap.size + 3) := Lib.hid (by rw [h3.out])
  have H1 := Lib.hid h1
  clear h1 h2 h3 F0 c1 hz hz2 hz3
  go_wp2_with fail
  have hN : (119 - (m.length : Int)) % 64 = (noughts m.length : Int) := by unfold noughts; omega
  have pN : (noughts m.length : Int) < 64 := by unfold noughts; omega
  have pN0 : 0 ≤ (noughts m.length : Int) := by omega
  have pN1 : (noughts m.length : Int) ≤ 63 := by omega
  have pN2 : 1 + (noughts m.length : Int) + 8 ≤ 72 := by omega
  have pN3 : 0 ≤ 1 + (noughts m.length : Int) + 8 := by omega
  rw [hN]
  clear hN
  generalize hNN : noughts m.length = N at *
  have HN := Lib.hid hNN
  clear hNN
  go_loopw [20, 6] (fun i _ wr => ∃ k : Nat, k ≤ 8 ∧ i = .int .i64 k ∧ blockIs wr (w.heap.size + 1 + 1) (cells8 (tl m.length k) 72) 167 ∧ But (w.heap.size + 1 + 1) w1 wr) (fun i _ _ => 8 - (intOf i).toNat)
  case atStart => exact ⟨0, by omega, rfl, H1.out, But.refl _ _⟩
  case round =>
    obtain ⟨k, hk, rfl, h1, h2⟩ := hrel
    by_cases hlt : k < 8
    · have c1 : wr.cell? ⟨w.heap.size + 1 + 1, 1 + N + k, none⟩ = some (.int .u8 (V (tl m.length k (1 + N + k)))) := by rw [h1.cell]; exact cells8_get _ _ _ (by omega)
      have c2 : wr.frozen? ⟨w.heap.size + 1 + 1, 1 + N + k, none⟩ = false := h1.free _
      have p : 0 ≤ (k : Int) := by omega
      have q4 : (k : Int) < 8 := by omega
      have h1s := h1.set (1 + N + k) (.int .u8 (V ((eight (8 * m.length % 2 ^ 64)).getD k 0)))
      have HH := Lib.hid h1s
      have HB := Lib.hid h2
      clear h1 h1s h2
      go_wp2_with fail
      go_roundw
      case rel =>
        rw [eight_val m.length k hlt (by omega)]
        have hh := HH.out
        rw [← HN.out, tl_succ _ _ hlt, HN.out] at hh
        exact ⟨k + 1, by omega, by go_num, hh, HB.out.setCell _ _ (Or.inl rfl)⟩
      case measure => simp [intOf]; omega
    · obtain rfl : k = 8 := by omega
      rw [show ((8 : Nat) : Int) = 8 from rfl]
      have hl : 1 + N + 8 = (tail m.length).length := by rw [tail_length, HN.out]; omega
      have G5 : Hid (runIs wr w.heap.size [] [] 134 m) := Lib.hid (G1.out.but h2 (by omega))
      have G6 : Hid (blockIs wr (w.heap.size + 1) (zeros 32) 23) := Lib.hid (h2.is G2.out (by omega))
      have G7 : Hid (Below w.heap.size w wr) := Lib.hid (G3.out.trans (h2.below (by omega) (by have := G4.out; omega)))
      have G8 : Hid (bytesAt wr w.heap.size (some ⟨w.heap.size + 1 + 1, 0, none⟩) (tail m.length)) := Lib.hid (Or.inr ⟨_, _, rfl, by omega, fun j hj => by
        rw [tail_length] at hj
        rw [Nat.zero_add, h1.cell, cells8_get _ _ _ (by have := HN.out; unfold noughts at this; unfold noughts at hj; omega), ← tl_tail]
        simp [hj]⟩)
      clear h1 h2 G1 G2 G3 H1
      go_wp2_with fail
      have hkr : ∀ j, j < 64 → wr.cell? ⟨1, j, none⟩ = some (.int .u32 (U (consts.getD j 0))) := fun j hj => by
        rw [G7.out.cell hg]
        exact HK.out j hj
      refine (take_any w.heap.size 72 (some ⟨w.heap.size + 1 + 1, 0, none⟩) [] [] 134 m (tail m.length) wr (by rw [← hl]; omega) (by omega) (by rw [← hl]; omega) G5.out G8.out hkr (by omega)).mono ?_
      rintro e w3 ⟨rfl, h1, h2⟩
      obtain ⟨s3, hs3, -, hr3⟩ := h1
      have R1 : Hid (w3.rangeAt w.heap.size 0 (regCells (regAfter (pad m)))) := Lib.hid (by
        have hr3 : blockIs w3 w.heap.size ([] ++ (regCells (regAfter (pad m)) ++ (byteCells s3 ++ [.int .i64 ((pad m).length : Int)]))) 134 := by
          have : runCells (regAfter (pad m)) s3 (pad m).length ++ [] = regCells (regAfter (pad m)) ++ (byteCells s3 ++ [.int .i64 ((pad m).length : Int)]) := by simp [runCells]
          rw [← this]
          exact hr3
        exact rangeAt_block hr3)
      have R2 : Hid (blockIs w3 (w.heap.size + 1) (zeros 32) 23) := Lib.hid (h2.is G6.out (by omega))
      have R3 : Hid (Below w.heap.size w w3) := Lib.hid (G7.out.trans (h2.below (Nat.le_refl _) G7.out.size))
      clear h2 hr3 hkr hs3 G5 G6 G7 G8 hl pN pN0 pN1 pN2 pN3
      have hz3 := zero28
      go_wp2_with (refine wpList_load_mid rfl 132 _ rfl w.heap.size 0 rfl (regCells (regAfter (pad m))) _ (rangeAt_alloc' R1.out _) Tryd.underlying132 rfl (by rw [info47]; rfl) ?_)
      have L1 : Hid (blockIs (w3.alloc (.cells (zeros 32).toArray 23 (0, 0))) w3.heap.size (cells8 (outF (regAfter (pad m)) 0) 32) 23) := Lib.hid (blockIs.new w3 (zeros 32) 23)
      have L2 : Hid (blockIs (w3.alloc (.cells (zeros 32).toArray 23 (0, 0))) (w.heap.size + 1) (zeros 32) 23) := Lib.hid (R2.out.alloc _)
      have L3 : Hid (Below w.heap.size w (w3.alloc (.cells (zeros 32).toArray 23 (0, 0)))) := Lib.hid (R3.out.alloc R3.out.size _)
      have L4 := Lib.hid R2.out.lt
      have L5 : Hid ((w3.alloc (.cells (zeros 32).toArray 23 (0, 0))).heap.size = w3.heap.size + 1) := Lib.hid (by simp)
      generalize w3.alloc (.cells (zeros 32).toArray 23 (0, 0)) = w4 at *
      generalize hRR : regAfter (pad m) = R at *
      have HRR := Lib.hid hRR
      clear hRR R1 R2 R3 hz3
      go_loopw [42, 8, 9] (fun i _ _ wr => ∃ k : Nat, k ≤ 8 ∧ i = .int .i64 k ∧ blockIs wr w3.heap.size (cells8 (outF R k) 32) 23 ∧ But w3.heap.size w4 wr) (fun i _ _ _ => 8 - (intOf i).toNat)
      case atStart => exact ⟨0, by omega, rfl, L1.out, But.refl _ _⟩
      case round =>
        obtain ⟨k, hk, rfl, h1, h2⟩ := hrel
        by_cases hlt : k < 8
        · have c0 : wr.cell? ⟨w3.heap.size, 4 * k, none⟩ = some (.int .u8 (V (outF R k (4 * k)))) := by rw [h1.cell]; exact cells8_get _ _ _ (by omega)
          have c1 : wr.cell? ⟨w3.heap.size, 4 * k + 1, none⟩ = some (.int .u8 (V (outF R k (4 * k + 1)))) := by rw [h1.cell]; exact cells8_get _ _ _ (by omega)
          have c2 : wr.cell? ⟨w3.heap.size, 4 * k + 2, none⟩ = some (.int .u8 (V (outF R k (4 * k + 2)))) := by rw [h1.cell]; exact cells8_get _ _ _ (by omega)
          have c3 : wr.cell? ⟨w3.heap.size, 4 * k + 3, none⟩ = some (.int .u8 (V (outF R k (4 * k + 3)))) := by rw [h1.cell]; exact cells8_get _ _ _ (by omega)
          have f0 : wr.frozen? ⟨w3.heap.size, 4 * k, none⟩ = false := h1.free _
          have f1 : wr.frozen? ⟨w3.heap.size, 4 * k + 1, none⟩ = false := h1.free _
          have f2 : wr.frozen? ⟨w3.heap.size, 4 * k + 2, none⟩ = false := h1.free _
          have f3 : wr.frozen? ⟨w3.heap.size, 4 * k + 3, none⟩ = false := h1.free _
          have p : 0 ≤ (k : Int) := by omega
          have q4 : (k : Int) < 8 := by omega
          have ix : ∀ wx, (Instr.index 132 (.agg (regCells R).toArray) (.int .i64 (k : Int))).run Tryd.prog wx = .ok (.int .u32 (U (R.list.getD k 0))) wx :=
            fun wx => run_index_agg Tryd.underlying132 (by kernel_rfl) (by kernel_rfl) (by kernel_rfl) hlt (regs_get R k hlt) wx
          have h1s := (((h1.set (4 * k) (.int .u8 (V (toB (R.list.getD k 0 >>> 24))))).set (4 * k + 1) (.int .u8 (V (toB (R.list.getD k 0 >>> 16))))).set (4 * k + 2) (.int .u8 (V (toB (R.list.getD k 0 >>> 8))))).set (4 * k + 3) (.int .u8 (V (toB (R.list.getD k 0))))
          have HH := Lib.hid h1s
          have HB := Lib.hid h2
          clear h1 h1s h2
          go_wp2_with fail
          go_roundw
          case rel =>
            have hh := HH.out
            rw [outF_succ _ _ hlt] at hh
            exact ⟨k + 1, by omega, by go_num, hh, (((HB.out.setCell _ _ (Or.inl rfl)).setCell _ _ (Or.inl rfl)).setCell _ _ (Or.inl rfl)).setCell _ _ (Or.inl rfl)⟩
          case measure => simp [intOf]; omega
        · obtain rfl : k = 8 := by omega
          rw [show ((8 : Nat) : Int) = 8 from rfl]
          have h1 : blockIs wr w3.heap.size ([] ++ (byteCells (out R) ++ [])) 23 := by
            rw [outF_all] at h1
            simpa using h1
          have M1 : Hid (wr.rangeAt w3.heap.size 0 (byteCells (out R))) := Lib.hid (rangeAt_block h1)
          have M2 : Hid (blockIs wr (w.heap.size + 1) (zeros 32) 23) := Lib.hid (h2.is L2.out (by have := L4.out; omega))
          have M3 : Hid (Below w.heap.size w wr) := Lib.hid (L3.out.trans (h2.below (by have := L4.out; omega) (by have := L5.out; have := L4.out; omega)))
          clear h1 h2 L1 L2 L3
          go_wp2_with (first | (refine wpList_load_mid rfl 23 _ rfl w3.heap.size 0 rfl (byteCells (out R)) _ M1.out Tryd.underlying23 rfl (by rw [info28]; rfl) ?_) | (refine wpList_store_block rfl 23 _ _ rfl (w.heap.size + 1) 0 (byteCells (out R)) rfl rfl (zeros 32) 23 M2.out (by rw [info28]; rfl) (by simp [zeros, byteCells_length, out_length]) (byteCells_one _) ?_))
          intro w5 h1 h2 h3
          have h1 := h1.out
          rw [splice_all _ _ (by simp [zeros, byteCells_length, out_length])] at h1
          have h2 := h2.out
          have hN := M3.out.trans (h2.below (by omega) M3.out.size)
          have H1 := Lib.hid h1
          have H2 := Lib.hid hN
          clear h1 h2 h3 hN
          go_wp2_with fail
          refine bodyPost_ret (v := .agg (byteCells (out R)).toArray) (results_cell_row rfl _ _ (w.heap.size + 1) 23 _ (0, 0) _ rfl H1.out Tryd.underlying23 rfl (by rw [info28]; simp [byteCells_length, out_length])) rfl ?_
          refine ⟨?_, H2.out⟩
          rw [sha_eq, HRR.out]
end Go.Proofs.YtfhlcondnaahiaaDoor
end
section
/- sum.Of: the sum of parts. -/
namespace Go.Proofs.YtfhlcondnaahiaaDoor
open Go.RowKit Sha

/-- Bytes that lie somewhere. -/
def bytesIn (w : World) (a : Option Addr) (l : List UInt8) : Prop :=
  l = [] ∨ ∃ bb bo, a = some ⟨bb, bo, none⟩ ∧ ∀ j, j < l.length → w.cell? ⟨bb, bo + j, none⟩ = some (.int .u8 (V (l.getD j 0)))
theorem bytesIn.at {w w' : World} {B b : Nat} {a : Option Addr} {l : List UInt8} (h : bytesIn w a l) (hw : Below B w w') (hB : w.heap.size ≤ B) (hb : B ≤ b) : bytesAt w' b a l := by
  rcases h with h | ⟨bb, bo, h1, h3⟩
  · exact Or.inl h
  · by_cases h0 : l = []
    · exact Or.inl h0
    · have hlt : bb < w.heap.size := block_lt_of_cell (h3 0 (List.length_pos_iff.2 h0))
      exact Or.inr ⟨bb, bo, h1, by omega, fun j hj => (hw.cell (p := ⟨bb, bo + j, none⟩) (by show bb < B; omega)).trans (h3 j hj)⟩

/-- A slice of parts. -/
def partsIn (w : World) (a : Option Addr) (ls : List (List UInt8)) : Prop :=
  ls = [] ∨ ∃ pb po, a = some ⟨pb, po, none⟩ ∧ ∀ j, j < ls.length → ∃ aj cj, w.cell? ⟨pb, po + j, none⟩ = some (.slice aj (ls.getD j []).length cj) ∧ (ls.getD j []).length ≤ cj ∧ cj ≤ 9223372036854775807 ∧ bytesIn w aj (ls.getD j [])

/-- What the two tables hold. -/
def tables (w : World) : Prop :=
  (∀ j, j < 64 → w.cell? ⟨1, j, none⟩ = some (.int .u32 (U (consts.getD j 0)))) ∧ (∀ j x, init.list[j]? = some x → w.cell? ⟨0, j, none⟩ = some (.int .u32 (U x))) ∧ 1 < w.heap.size ∧ 0 < w.heap.size
theorem tables.below {w w' : World} {B : Nat} (h : tables w) (hb : Below B w w') (h1 : 1 < B) (h2 : 0 < B) : tables w' :=
  ⟨fun j hj => (hb.cell h1).trans (h.1 j hj), fun j x hj => (hb.cell h2).trans (h.2.1 j x hj), Nat.lt_of_lt_of_le h.2.2.1 hb.size, Nat.lt_of_lt_of_le h.2.2.2 hb.size⟩

def zero73 : List Value := runCells ⟨0, 0, 0, 0, 0, 0, 0, 0⟩ (List.replicate 64 0) 0
theorem zero50 (w : World) : (zeroValue 134).run Tryd.prog w = .ok (.agg zero73.toArray) w := by kernel_rfl
theorem zero73_ne : (zero73 = []) = False := by simp [zero73, runCells]
theorem zero73_one : ∀ v ∈ zero73, v.oneCell' = true := by decide
theorem set_one {l : List Value} (h : ∀ v ∈ l, v.oneCell' = true) (i : Nat) (k : IntKind) (n : Int) : ∀ v ∈ l.set i (.int k n), v.oneCell' = true := by
  intro v hv
  rcases List.mem_or_eq_of_mem_set hv with h1 | rfl
  · exact h v h1
  · rfl
theorem flatten_take (ls : List (List UInt8)) (k : Nat) (h : k < ls.length) : (ls.take (k + 1)).flatten = (ls.take k).flatten ++ ls.getD k [] := by
  rw [List.take_succ_eq_append_getElem h, List.flatten_append]
  simp [h]
theorem flatten_le (ls : List (List UInt8)) (k : Nat) : (ls.take k).flatten.length ≤ ls.flatten.length := by
  conv => rhs; rw [← List.take_append_drop k ls, List.flatten_append, List.length_append]
  omega
theorem flatten_le2 (ls : List (List UInt8)) (k : Nat) (h : k < ls.length) : (ls.take k).flatten.length + (ls.getD k []).length ≤ ls.flatten.length := by
  have h1 := flatten_le ls (k + 1)
  rw [flatten_take ls k h, List.length_append] at h1
  exact h1
theorem sha_length (l : List UInt8) : (sha l).length = 32 := rfl
theorem info50 : (Tryd.prog.info? 134).map (·.size) = some 73 := by kernel_rfl

set_option maxRecDepth 100000 in
set_option maxHeartbeats 2000000 in
theorem of_any (c : Nat) (a : Option Addr) (ls : List (List UInt8)) (w : World) (hl : ls.length ≤ 1000000) (_ : ls.length ≤ c) (hm : ls.flatten.length ≤ 1000000) (ht : tables w) (hp : partsIn w a ls) :
    Calls Tryd.prog 46 #[.slice a ls.length c] w fun e w' => e = .returned (.agg (byteCells (sha ls.flatten)).toArray) ∧ Below w.heap.size w w' := by
  have s0 : w.cell? ⟨0, 0, none⟩ = some (.int .u32 (U init.a)) := ht.2.1 0 _ rfl
  have s1 : w.cell? ⟨0, 1, none⟩ = some (.int .u32 (U init.b)) := ht.2.1 1 _ rfl
  have s2 : w.cell? ⟨0, 2, none⟩ = some (.int .u32 (U init.c)) := ht.2.1 2 _ rfl
  have s3 : w.cell? ⟨0, 3, none⟩ = some (.int .u32 (U init.d)) := ht.2.1 3 _ rfl
  have s4 : w.cell? ⟨0, 4, none⟩ = some (.int .u32 (U init.e)) := ht.2.1 4 _ rfl
  have s5 : w.cell? ⟨0, 5, none⟩ = some (.int .u32 (U init.f)) := ht.2.1 5 _ rfl
  have s6 : w.cell? ⟨0, 6, none⟩ = some (.int .u32 (U init.g)) := ht.2.1 6 _ rfl
  have s7 : w.cell? ⟨0, 7, none⟩ = some (.int .u32 (U init.h)) := ht.2.1 7 _ rfl
  have hz := zero50
  have hz2 := zero73_ne
  have hz3 := zero28
  have hl0 : 0 < w.heap.size := ht.2.2.2
  have HT := Lib.hid ht
  have HP := Lib.hid hp
  have HM := Lib.hid hm
  clear ht hp hm
  go_enter Tryd.func46, Tryd.ntmps46
  go_wp2_with (refine wpList_store_block rfl 134 _ _ rfl (w.heap.size + 1) 0 _ rfl rfl zero73 134 (blockIs.last _ _ _ _ (by simp)) (by rw [info50]; rfl) (by simp) ?ones ?_)
  case ones => exact set_one (set_one (set_one (set_one (set_one (set_one (set_one (set_one zero73_one _ _ _) _ _ _) _ _ _) _ _ _) _ _ _) _ _ _) _ _ _) _ _ _
  intro w1 h1 h2 h3
  have h1 := h1.out
  rw [splice_all _ _ (by simp)] at h1
  have G1 : Hid (runIs w1 (w.heap.size + 1) [] [] 134 []) := Lib.hid ⟨List.replicate 64 0, rfl, rfl, h1⟩
  have G2 : Hid (blockIs w1 w.heap.size (zeros 32) 23) := Lib.hid (h2.out.is ((blockIs.new w (zeros 32) 23).alloc _) (by omega))
  have G3 : Hid (Below w.heap.size w w1) := Lib.hid ((((Below.refl _ w).alloc (Nat.le_refl _) _).alloc (by simp) _).trans (h2.out.below (by omega) (by simp <;> omega)))
  clear h1 h2 h3 s0 s1 s2 s3 s4 s5 s6 s7 hz hz2 hz3
  go_wp2_with fail
  go_loopw [10, 5] (fun i _ wr => ∃ k : Nat, k ≤ ls.length ∧ i = .int .i64 k ∧ runIs wr (w.heap.size + 1) [] [] 134 (ls.take k).flatten ∧ But (w.heap.size + 1) w1 wr) (fun i _ _ => ls.length - (intOf i).toNat)
  case atStart => exact ⟨0, by omega, rfl, G1.out, But.refl _ _⟩
  case round =>
    obtain ⟨k, hk, rfl, h1, h2⟩ := hrel
    by_cases hlt : k < ls.length
    · have hB : Below w.heap.size w wr := G3.out.trans (h2.below (by omega) G3.out.size)
      rcases HP.out with h0 | ⟨pb, po, rfl, hpp⟩
      · simp [h0] at hlt
      obtain ⟨aj, cj, hcell, hlc, hcc, hin⟩ := hpp k hlt
      have cc : wr.cell? ⟨pb, po + k, none⟩ = some (.slice aj (ls.getD k []).length cj) := (hB.cell (p := ⟨pb, po + k, none⟩) (block_lt_of_cell hcell)).trans hcell
      have hmk := flatten_le2 ls k hlt
      have hin2 : bytesAt wr (w.heap.size + 1) aj (ls.getD k []) := hin.at hB (Nat.le_refl _) (by omega)
      have HB := Lib.hid hB
      have H1 := Lib.hid h1
      have H2 := Lib.hid h2
      have HI := Lib.hid hin2
      have HMK := Lib.hid hmk
      clear hB h1 h2 hin hin2 hmk hpp hcell
      have p : 0 ≤ (k : Int) := by omega
      have q : (k : Int) < (ls.length : Int) := by omega
      generalize hL : ls.getD k [] = L at *
      have HL := Lib.hid hL
      clear hL
      go_wp2_with fail
      refine (take_any (w.heap.size + 1) cj aj [] [] 134 (ls.take k).flatten L wr hlc hcc (by have := HMK.out; have := HM.out; omega) H1.out HI.out (fun j hj => (HB.out.cell HT.out.2.2.1).trans (HT.out.1 j hj)) (by have := HT.out.2.2.1; omega)).mono ?_
      rintro e w3 ⟨rfl, g1, g2⟩
      have K1 := Lib.hid g1
      have K2 := Lib.hid (H2.out.trans g2)
      clear g1 g2
      go_wp2_with fail
      go_roundw
      case rel => exact ⟨k + 1, by omega, by go_num, by rw [flatten_take _ _ hlt, HL.out]; exact K1.out, K2.out⟩
      case measure => simp [intOf]; omega
    · have hB : Below w.heap.size w wr := G3.out.trans (h2.below (by omega) G3.out.size)
      have hke : (ls.take k).flatten = ls.flatten := by rw [List.take_of_length_le (by omega)]
      rw [hke] at h1
      clear hke
      generalize hMM : ls.flatten = M at *
      have HMM := Lib.hid hMM
      clear hMM
      obtain ⟨s, hs, hsm, hr⟩ := h1
      have hw1 : w.heap.size + 1 < wr.heap.size := hr.lt
      have R1 : Hid (wr.rangeAt (w.heap.size + 1) 0 (runCells (regAfter M) s M.length)) := Lib.hid (rangeAt_block (p := []) hr)
      have R2 : Hid (blockIs wr w.heap.size (zeros 32) 23) := Lib.hid (h2.is G2.out (by omega))
      have HB := Lib.hid hB
      have HS := Lib.hid hs
      have HSM := Lib.hid hsm
      clear h2 hB hs hsm hr
      go_wp2_with (refine wpList_load_mid rfl 134 _ rfl (w.heap.size + 1) 0 rfl (runCells (regAfter M) s M.length) _ R1.out Tryd.underlying134 rfl (by rw [info50, runCells_length _ _ _ HS.out]) ?_)
      refine (end_any M s wr HM.out HS.out HSM.out (fun j hj => (HB.out.cell HT.out.2.2.1).trans (HT.out.1 j hj)) (Nat.lt_of_lt_of_le HT.out.2.2.1 HB.out.size)).mono ?_
      rintro e w5 ⟨rfl, g1⟩
      have K1 : Hid (blockIs w5 w.heap.size (zeros 32) 23) := Lib.hid (R2.out.below g1 (by omega))
      have K2 := Lib.hid (HB.out.trans (g1.mono HB.out.size))
      clear g1 R1 R2 HB
      go_wp2_with (refine wpList_store_block rfl 23 _ _ rfl w.heap.size 0 (byteCells (sha M)) rfl rfl (zeros 32) 23 K1.out (by rw [info28, byteCells_length, sha_length]) (by simp [zeros, byteCells_length, sha_length]) (byteCells_one _) ?_)
      intro w6 h1 h2 h3
      have h1 := h1.out
      rw [splice_all _ _ (by simp [zeros, byteCells_length, sha_length])] at h1
      have H1 := Lib.hid h1
      have H2 := Lib.hid (K2.out.trans (h2.out.below (Nat.le_refl _) K2.out.size))
      clear h1 h2 h3
      go_wp2_with fail
      refine bodyPost_ret (v := .agg (byteCells (sha M)).toArray) (results_cell_row rfl _ _ w.heap.size 23 _ (0, 0) _ rfl H1.out Tryd.underlying23 rfl (by rw [info28]; simp [byteCells_length, sha_length])) rfl ?_
      exact ⟨by rw [HMM.out], H2.out⟩
end Go.Proofs.YtfhlcondnaahiaaDoor
end
