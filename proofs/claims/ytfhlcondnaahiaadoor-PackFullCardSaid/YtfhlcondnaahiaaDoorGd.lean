/- Bytes as a string; rows of bytes and of such rows behind a world that has grown, cut short. -/
import Derived.Test.YtfhlcondnaahiaaDoorGc
import Derived.Deep.RegionLaw
import Derived.Deep.RegionHeld3
import Derived.Lib.SmallJoins
import Derived.Lib.FrozenHead
import Derived.Lib.ConvBytes
import Derived.Laws.AppendOwnNone
import Derived.OwnWalk
section
namespace Go.Proofs.YtfhlcondnaahiaaDoor
open Go.RowKit Sha

/-- Bytes as a string. -/
def str (l : List UInt8) : ByteArray := ⟨l.toArray⟩
theorem bytesIn.below {w w' : World} {a : Option Addr} {l : List UInt8} (h : bytesIn w a l) (hb : Below w.heap.size w w') : bytesIn w' a l := by
  rcases h with h | ⟨bb, bo, h1, h3⟩
  · exact Or.inl h
  · exact Or.inr ⟨bb, bo, h1, fun j hj => (hb.cell (p := ⟨bb, bo + j, none⟩) (block_lt_of_cell (h3 j hj))).trans (h3 j hj)⟩
theorem partsIn.below {w w' : World} {a : Option Addr} {ls : List (List UInt8)} (h : partsIn w a ls) (hb : Below w.heap.size w w') : partsIn w' a ls := by
  rcases h with h | ⟨pb, po, h1, h3⟩
  · exact Or.inl h
  · refine Or.inr ⟨pb, po, h1, fun j hj => ?_⟩
    obtain ⟨aj, cj, g1, g2, g3, g4⟩ := h3 j hj
    exact ⟨aj, cj, (hb.cell (p := ⟨pb, po + j, none⟩) (block_lt_of_cell g1)).trans g1, g2, g3, g4.below hb⟩
theorem conv_string (w : World) (a : Option Addr) (l : List UInt8) (c : Nat) (h : bytesIn w a l) : (convert 30 9 (.slice a l.length c)).run Tryd.prog w = .ok (.string (str l)) w := by
  cases a with
  | none =>
    rcases h with rfl | ⟨_, _, h, _⟩
    · rw [run_convert_bytes_nil w 30 5 Tryd.underlying30 Tryd.underlying5 _ _ 9 Tryd.underlying9]
      rfl
    · cases h
  | some ad =>
    rw [run_convert_bytes_string w 30 9 5 _ _ _ Tryd.underlying30 Tryd.underlying5 Tryd.underlying9]
    have hl : (loadCells ad l.length).run Tryd.prog w = .ok ((l.map fun b => (V b)).map (Value.int .u8)).toArray w := by
      have := run_loadCells_list (P := Tryd.prog) w ad ((l.map fun b => (V b)).map (Value.int .u8)) (fun j v hj => by
        rcases h with rfl | ⟨bb, bo, h1, h2⟩
        · simp at hj
        · cases h1
          have hjl : j < l.length := by
            have := (List.getElem?_eq_some_iff.1 hj).1
            simpa using this
          rw [Addr.add_lit, h2 j hjl, ← hj]
          simp [hjl])
      simpa using this
    rw [run_bytesToString w ad l.length c (l.map fun b => (V b)) hl, foldl_push_bytes]
    congr 2
    unfold str
    simp only [V, ByteArray.empty, ByteArray.emptyWithCapacity, List.map_map]
    have e : ((fun n : Int => UInt8.ofNat n.toNat) ∘ fun b : UInt8 => (b.toNat : Int)) = id := by funext b; simp
    rw [e]
    simp
    rfl

theorem partsIn.take {w : World} {a : Option Addr} {ls : List (List UInt8)} (h : partsIn w a ls) (n : Nat) : partsIn w a (ls.take n) := by
  rcases h with rfl | ⟨pb, po, h1, h2⟩
  · left; simp
  · right
    refine ⟨pb, po, h1, fun j hj => ?_⟩
    rw [List.length_take] at hj
    have := h2 j (by omega)
    rwa [show (ls.take n).getD j [] = ls.getD j [] from getD_take _ _ _ _ (by omega)]
theorem bytesIn.take {w : World} {a : Option Addr} {l : List UInt8} (h : bytesIn w a l) (n : Nat) : bytesIn w a (l.take n) := by
  rcases h with rfl | ⟨pb, po, h1, h2⟩
  · left; simp
  · right
    refine ⟨pb, po, h1, fun j hj => ?_⟩
    rw [List.length_take] at hj
    rw [h2 j (by omega), getD_take _ _ _ _ (by omega)]
end Go.Proofs.YtfhlcondnaahiaaDoor
end
section
/- The law's helpers: sums() is true; bytes cuts; text turns a sum into a text. And sum.Same. -/
namespace Go.Proofs.YtfhlcondnaahiaaDoor
open Go.RowKit Sha

end Go.Proofs.YtfhlcondnaahiaaDoor
end
section
/- sum.Same and the law's bytes. -/
namespace Go.Proofs.YtfhlcondnaahiaaDoor
open Go.RowKit Sha

attribute [local go_sem] V_xor V_or
end Go.Proofs.YtfhlcondnaahiaaDoor
end
section
/- The law SumSame: its walk. -/
namespace Go.Proofs.YtfhlcondnaahiaaDoor
open Go.RowKit Sha

end Go.Proofs.YtfhlcondnaahiaaDoor
end
section
/- A row of the call's own with a mark behind its room (what a conversion of a text to bytes lays), and append to it. Nothing of it speaks of one program. -/
namespace Go.Proofs.YtfhlcondnaahiaaDoor
open Go.RowKit Sha

/-- A row of the call's own; what is frozen of it lies behind its room. -/
def ownsRowM (w : World) (base : Nat) (e : TypeId) (v : Value) (n : Nat) (xs : List Value) : Prop :=
  xs.length = n ∧
  ((v = .slice none 0 0 ∧ n = 0) ∨
   ∃ g cap cur fz, v = .slice (some ⟨g, 0, none⟩) n cap ∧ base ≤ g ∧ w.heap[g]? = some (.cells cur e fz) ∧ (fz = (0, 0) ∨ cur.size ≤ fz.1) ∧ n ≤ cap ∧ cap ≤ maxLen ∧ cur.size = cap ∧ cur.toList.take n = xs)

theorem run_storeCells_atM (P : Program) (g o : Nat) (t : TypeId) (fz : Nat × Nat) : ∀ (vs : List Value) (i : Nat) (cur : Array Value) (w : World), w.heap[g]? = some (.cells cur t fz) → (fz = (0, 0) ∨ cur.size ≤ fz.1) → o + i + vs.length ≤ cur.size → (∀ v ∈ vs, v.oneCell' = true) →
    (storeCells ⟨g, o, none⟩ vs i).run P w = .ok () (w.setRow g (cur.toList.take (o + i) ++ vs ++ cur.toList.drop (o + i + vs.length)).toArray)
  | [], i, cur, w, hg, _, _, _ => by
    simp only [storeCells, List.append_nil, List.length_nil, Nat.add_zero, List.take_append_drop, Array.toArray_toList]
    rw [setRow_self w g cur t fz hg]
    rfl
  | v :: rest, i, cur, w, hg, hfz, hl, h1 => by
    have hi : o + i < cur.size := by simp at hl; omega
    have hadd : (⟨g, o, none⟩ : Addr).add i = ⟨g, o + i, none⟩ := by unfold Addr.add; split <;> simp_all
    have hcell : w.cell? ⟨g, o + i, none⟩ = some cur[o + i] := by simp [World.cell?, hg, hi]
    have hfro : w.frozen? ⟨g, o + i, none⟩ = false := by
      obtain ⟨lo, hi'⟩ := fz
      simp only [World.frozen?, hg, Bool.and_eq_false_iff, decide_eq_false_iff_not]
      rcases hfz with h | h
      · cases h; right; omega
      · left; simp only at h; omega
    have hst : (store ((⟨g, o, none⟩ : Addr).add i) v).run P w = .ok () (w.setRow g (cur.setIfInBounds (o + i) v)) := by
      rw [hadd, run_store P w _ v _ (h1 v (by simp)), hcell]
      simp [hfro, setCell_eq_setRow w g (o + i) cur t fz v hg]
    have ih := run_storeCells_atM P g o t fz rest (i + 1) (cur.setIfInBounds (o + i) v) (w.setRow g (cur.setIfInBounds (o + i) v)) (setRow_heap w g cur _ t _ hg) (by simpa using hfz) (by simp at hl ⊢; omega) (fun x hx => h1 x (by simp [hx]))
    simp only [storeCells, Sem.run_bind, hst, Result.andThen_ok, ih, setRow_setRow]
    congr 3
    have e := list_seg_step cur.toList (o + i) v rest (by simp at hl ⊢; omega)
    simpa [Array.toList_setIfInBounds, Nat.add_assoc] using e

theorem ownsRowM.lt {w : World} {base : Nat} {e : TypeId} {v : Value} {n : Nat} {xs : List Value} (h : ownsRowM w base e v n xs) : ∀ k, v.ownBlock = some k → base ≤ k ∧ k < w.heap.size := by
  intro k hk
  rcases h.2 with ⟨rfl, _⟩ | ⟨g, cap, cur, fz, rfl, hb, hg, _⟩
  · simp [Value.ownBlock] at hk
  · simp [Value.ownBlock] at hk
    subst hk
    exact ⟨hb, (Array.getElem?_eq_some_iff.1 hg).1⟩
theorem ownsRowM.cells {w : World} {base : Nat} {e : TypeId} {v : Value} {n : Nat} {xs : List Value} (h : ownsRowM w base e v n xs) {g : Nat} (hg : v.ownBlock = some g) : ∀ j u, xs[j]? = some u → w.cell? ((⟨g, 0, none⟩ : Addr).add j) = some u := by
  intro j u hu
  rcases h.2 with ⟨rfl, _⟩ | ⟨g', cap, cur, fz, rfl, _, hgg, _, _, _, _, htake⟩
  · simp [Value.ownBlock] at hg
  · simp [Value.ownBlock] at hg
    subst hg
    have hadd : (⟨g', 0, none⟩ : Addr).add j = ⟨g', j, none⟩ := by unfold Addr.add; split <;> simp_all
    rw [hadd, cell_of_row w g' j cur e fz hgg]
    rw [← htake, List.getElem?_take] at hu
    split at hu
    · simpa using hu
    · cases hu

theorem run_append_ownM {P : Program} (w : World) (base : Nat) (t ty e : TypeId) (i : TypeInfo) (z : Value) (bytes : Nat) (ht : P.underlying t = some (.slice e)) (hi : P.info? e = some i) (hz : i.zero = some z)
    (hsize : i.size = 1) (hby : i.bytes = bytes) (hzs : z.cells.size = 1)
    (v : Value) (n : Nat) (xs : List Value) (hown : ownsRowM w base e v n xs)
    (a : Addr) (m c : Nat) (news : List Value) (hl : news.length = m) (hnews : ∀ j u, news[j]? = some u → w.cell? (a.add j) = some u) (h1 : ∀ u ∈ news, u.oneCell' = true)
    (h63 : n + m ≤ maxLen) (hbytes : (n + m) * bytes ≤ 140737488355328) (hbase : base ≤ w.heap.size) :
    ∃ v' w', (Builtin.append_ #[t, t] ty #[v, .slice (some a) m c]).run P w = .ok v' w' ∧ ownsRowM w' base e v' (n + m) (xs ++ news) ∧ w.grownBy w' v.ownBlock := by
  subst hby
  have up : ∀ {w' : World} {v' : Value} {k : Nat} {ys : List Value}, w'.ownsRow base e 1 v' k ys → ownsRowM w' base e v' k ys := by
    intro w' v' k ys h
    refine ⟨by simpa using h.1, ?_⟩
    rcases h.2 with hn | ⟨g, cap, cur, hv, hb, hg, h1, h2, h3, h4⟩
    · exact .inl hn
    · exact .inr ⟨g, cap, cur, (0, 0), hv, hb, hg, .inl rfl, h1, h2, by simpa using h3, by simpa using h4⟩
  rcases hown.2 with ⟨rfl, rfl⟩ | ⟨g, cap, cur, fz, rfl, hbg, hg, hfz, hnc, hcm, hcs, htake⟩
  · obtain ⟨v', w', h1, h2, h3, _⟩ := run_append_own (P := P) w base t ty e i z 1 i.bytes ht hi hz hsize rfl hzs (by decide) (.slice none 0 0) 0 xs ⟨by simpa using hown.1, .inl ⟨rfl, rfl⟩⟩ a m c news (by simpa using hl) hnews h1 h63 hbytes hbase
    exact ⟨v', w', h1, up h2, h3⟩
  · have hxl : xs.length = n := hown.1
    have hlen : (xs ++ news).length = n + m := by rw [List.length_append, hxl, hl]
    by_cases hroom : n + m ≤ cap
    · have hf := run_firstCells_some (P := P) w i.size m a m c news (by rw [hsize, hl, Nat.mul_one]) hnews
      have hst := run_storeCells_atM P g (n * i.size) e fz news 0 cur w hg hfz (by rw [hsize, hcs]; omega) h1
      rw [hsize] at hf hst
      simp only [Nat.add_zero, Nat.mul_one] at hst hf
      refine ⟨.slice (some ⟨g, 0, none⟩) (n + m) cap, w.setRow g (cur.toList.take n ++ news ++ cur.toList.drop (n + news.length)).toArray, ?_, ?_, ?_⟩
      · simp [Builtin.append_, run_underlying ht, sizeOf, typeInfo, hi, hsize, Builtin.lenOf, hroom, hf, Addr.add_lit, hst]
      · have hsz : (cur.toList.take n ++ news ++ cur.toList.drop (n + news.length)).length = cur.size := by
          simp only [List.length_append, List.length_take, List.length_drop, Array.length_toList]
          omega
        refine ⟨hlen, .inr ⟨g, cap, _, fz, rfl, hbg, setRow_heap w g cur _ e _ hg, ?_, hroom, hcm, ?_, ?_⟩⟩
        · rw [List.size_toArray, hsz]; exact hfz
        · rw [List.size_toArray, hsz]; exact hcs
        · rw [htake, ← hlen]
          exact List.take_left
      · exact ⟨rfl, rfl, rfl, by simp, fun k _ hk => setRow_other w g k _ (fun e => hk (by simp [Value.ownBlock, e]))⟩
    · have holds : ∀ j u, xs[j]? = some u → w.cell? ((⟨g, 0, none⟩ : Addr).add j) = some u := hown.cells (g := g) rfl
      have hr := run_append_grow (P := P) w t ty e i z ht hi hz ⟨g, 0, none⟩ n cap xs (by rw [hsize, hxl, Nat.mul_one]) holds a m c news (by rw [hsize, hl, Nat.mul_one]) hnews (by omega) (by simp only [maxLen] at h63; omega) (growslice_fits (by omega) hbytes)
      have hge := grownCap_ge w (n + m) cap e
      have hcm2 : grownCap w (n + m) cap e ≤ maxLen := grownCap_le_maxLen w (n + m) cap e h63
      refine ⟨_, _, hr, ⟨hlen, .inr ⟨w.heap.size, _, _, (0, 0), rfl, hbase, heap_alloc_new w.drew _, .inl rfl, hge, hcm2, ?_, ?_⟩⟩, ⟨rfl, rfl, rfl, by simp, fun k hk _ => Below.heap_alloc w.drew _ k hk⟩⟩
      · simp only [Array.size_append, List.size_toArray, size_zeroCells, hzs, hxl, hl]
        omega
      · simp only [Array.toList_append, List.append_assoc]
        rw [← List.append_assoc, ← hlen]
        exact List.take_left

/-- A row of bytes of the call's own, marked behind or not. -/
def rowM (w : World) (base : Nat) (v : Value) (l : List UInt8) : Prop := ownsRowM w base 5 v l.length (byteCells l)
theorem rowM.bytes {w : World} {base : Nat} {v : Value} {l : List UInt8} (h : rowM w base v l) : ∃ a c, v = .slice a l.length c ∧ l.length ≤ c ∧ c ≤ maxLen ∧ bytesIn w a l ∧ (a = none → c = 0) ∧ (∀ k, v.ownBlock = some k → base ≤ k ∧ k < w.heap.size) := by
  have hlt := h.lt
  rcases h.2 with ⟨rfl, h0⟩ | ⟨g, cap, cur, fz, rfl, hb, hh, hf, hn, hc, hs, ht⟩
  · have : l = [] := List.eq_nil_of_length_eq_zero h0
    subst this
    exact ⟨none, 0, rfl, Nat.le_refl _, by unfold maxLen; omega, Or.inl rfl, fun _ => rfl, hlt⟩
  · refine ⟨some ⟨g, 0, none⟩, cap, rfl, hn, hc, Or.inr ⟨g, 0, rfl, fun j hj => ?_⟩, (fun h => by cases h), hlt⟩
    have := h.cells (g := g) rfl j (.int .u8 (V (l.getD j 0))) (byteCells_get _ _ hj)
    rwa [Addr.add_lit] at this
theorem rowM.below {w w' : World} {base : Nat} {v : Value} {l : List UInt8} (h : rowM w base v l) {B : Nat} (hb : Below B w w') (hB : w.heap.size ≤ B) : rowM w' base v l := by
  refine ⟨h.1, ?_⟩
  rcases h.2 with hn | ⟨g, cap, cur, fz, rfl, hbg, hgg, rest⟩
  · exact .inl hn
  · refine .inr ⟨g, cap, cur, fz, rfl, hbg, ?_, rest⟩
    rw [hb.block g (by have := (Array.getElem?_eq_some_iff.1 hgg).1; omega)]
    exact hgg
theorem info_u8 : (Tryd.prog.info? 5).map (fun i => (i.zero, i.size, i.bytes)) = some (some (.int .u8 0), 1, 1) := by kernel_rfl
theorem rowM.lit (w : World) (base : Nat) (l : List UInt8) (cs : Array Value) (hcs : cs = (byteCells l).toArray) (n : Nat) (hn : n = l.length) (hb : base ≤ w.heap.size) (hl : l.length ≤ 1000000) : rowM (w.alloc (.cells cs 5 (0, 0))) base (.slice (some ⟨w.heap.size, 0, none⟩) n n) l := by
  subst hcs hn
  exact ⟨byteCells_length _, .inr ⟨w.heap.size, l.length, _, (0, 0), rfl, hb, heap_alloc_new w _, .inl rfl, Nat.le_refl _, by unfold maxLen; omega, by simp [byteCells_length], by rw [List.take_of_length_le (by simp [byteCells_length])]⟩⟩
/-- What '[]byte(s)' lays. -/
theorem rowM.conv (w : World) (base : Nat) (l : List UInt8) (hb : base ≤ w.heap.size) (hl : l.length ≤ 1000000) : rowM (Lib.bytesWorld w 5 (str l)) base (.slice (some ⟨w.heap.size, 0, none⟩) l.length (grownCap w (str l).size 0 5)) l := by
  have hs : (str l).size = l.length := by simp [str, ByteArray.size]
  have hge := grownCap_ge w (str l).size 0 5
  have hcm : grownCap w (str l).size 0 5 ≤ maxLen := grownCap_le_maxLen w (str l).size 0 5 (by unfold maxLen; omega)
  refine ⟨byteCells_length _, .inr ⟨w.heap.size, _, _, _, rfl, hb, Lib.bytesWorld_at_new w 5 (str l), .inr (Nat.le_refl _), by omega, hcm, ?_, ?_⟩⟩
  · simp only [Lib.bytesCells, Array.size_append, Array.size_map, Array.size_replicate]
    have : (str l).data.size = l.length := by simp [str]
    omega
  · simp only [Lib.bytesCells, str, Array.toList_append, Array.toList_map]
    rw [List.take_append_of_le_length (by simp), List.take_of_length_le (by simp)]
    simp [byteCells, V]
theorem rowM.grown {w w' : World} {base : Nat} {v : Value} {l : List UInt8} (h : rowM w base v l) (hg : w.grownBy w' v.ownBlock) (hB : base ≤ w.heap.size) : Below base w w' :=
  (Below.refl base w).grown hg hB fun k hk => (h.lt k hk).1

theorem step_appendM {w : World} {o : Oper} {a : Act} {K : Act → World → Prop} {Q : Exit → Act → World → Prop} (s x : Operand)
    (ho : o.op = .call { callee := .builtin .append, args := #[s, x], argTypes := #[30, 30] })
    (base : Nat) (v : Value) (xs : List UInt8) (hs : a.eval s = v) (hown : rowM w base v xs) (A : Option Addr) (n c : Nat) (l : List UInt8) (hnl : n = l.length) (hx : a.eval x = .slice A n c)
    (hz : 0 < l.length) (hb : bytesIn w A l) (hn : xs.length + l.length ≤ 1000000) (hbase : base ≤ w.heap.size)
    (h : ∀ v' w', rowM w' base v' (xs ++ l) → w.grownBy w' v.ownBlock → K (a.put o.dst v') w') : o.wp Tryd.prog a w K Q := by
  subst hnl
  obtain ⟨i0, hi, hz0, hz1, hz2⟩ := info_parts info_u8
  rcases hb with rfl | ⟨bb, bo, rfl, hc⟩
  · simp at hz
  · obtain ⟨v', w', hr, h2, h3⟩ := run_append_ownM (P := Tryd.prog) w base 30 o.type 5 i0 (.int .u8 0) 1 Tryd.underlying30 hi hz0 hz1 hz2 rfl v _ _ hown ⟨bb, bo, none⟩ l.length c (byteCells l) (byteCells_length l) (fun j u hj => by
      have hjn : j < l.length := by rw [← byteCells_length l]; exact (List.getElem?_eq_some_iff.1 hj).1
      rw [Addr.add_lit, hc j hjn, ← hj, byteCells_get _ _ hjn]) (byteCells_one _) (by unfold maxLen; omega) (by omega) hbase
    unfold Oper.wp execOp
    simp only [ho, resolve, invoke, builtin, Sem.run_bind, Sem.run_pure, Result.andThen_ok, List.map_toArray, List.map_cons, List.map_nil, hs, hx, hr]
    refine h v' w' ?_ h3
    unfold rowM byteCells
    rw [List.length_append, List.map_append]
    exact h2
/-- Bytes put behind such a row. -/
theorem append_M {w : World} {ops : Array Oper} {rest : List Oper} {o : Oper} {a : Act} {Q : Exit → Act → World → Prop} (hgd : o.guard = none) (s x : Operand)
    (ho : o.op = .call { callee := .builtin .append, args := #[s, x], argTypes := #[30, 30] })
    (base : Nat) (v : Value) (xs : List UInt8) (hs : a.eval s = v) (hown : rowM w base v xs) (A : Option Addr) (n c : Nat) (l : List UInt8) (hnl : n = l.length) (hx : a.eval x = .slice A n c)
    (hz : 0 < l.length) (hb : bytesIn w A l) (hn : xs.length + l.length ≤ 1000000) (hbase : base ≤ w.heap.size)
    (h : ∀ v' w', rowM w' base v' (xs ++ l) → w.grownBy w' v.ownBlock → wpList Tryd.prog ops Q rest (a.put o.dst v') w') : wpList Tryd.prog ops Q (o :: rest) a w :=
  wpList_plain hgd fun _ hK => step_appendM s x ho base v xs hs hown A n c l hnl hx hz hb hn hbase fun v' w' h2 h3 => hK _ _ (h v' w' h2 h3)
end Go.Proofs.YtfhlcondnaahiaaDoor
end
