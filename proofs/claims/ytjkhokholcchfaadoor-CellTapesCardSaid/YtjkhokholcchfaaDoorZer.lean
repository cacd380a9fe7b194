/- append of nothing, and of make([]byte, n), to a row of the call's own. -/
import Derived.Test.YtjkhokholcchfaaDoorGg
import Derived.Lib.AppendZeros
namespace Go.Proofs.YtjkhokholcchfaaDoor
open Go.RowKit Sha

theorem run_append_nought (w : World) (b : Option Addr) (m cap : Nat) (hm : m ≤ cap) (A : Option Addr) (c : Nat) (ty : TypeId) :
    (Builtin.append_ #[22, 22] ty #[.slice b m cap, .slice A 0 c]).run Tryd.prog w = .ok (.slice b m cap) w := by
  obtain ⟨i, hi, hz, hz1, hz2⟩ := info_parts info_u8
  cases A <;> cases b <;> simp [Builtin.append_, run_underlying Tryd.underlying22, sizeOf, typeInfo, hi, hz1, hz2, Builtin.lenOf, hm, Builtin.firstCells, loadCells, loadCellsFrom, storeCells]
/-- Bytes put behind such a row, some or none. -/
theorem append_M0 {w : World} {ops : Array Oper} {rest : List Oper} {o : Oper} {a : Act} {Q : Exit → Act → World → Prop} (hgd : o.guard = none) (s x : Operand)
    (ho : o.op = .call { callee := .builtin .append, args := #[s, x], argTypes := #[22, 22] })
    (base : Nat) (v : Value) (xs : List UInt8) (hs : a.eval s = v) (hown : rowM w base v xs) (A : Option Addr) (n c : Nat) (l : List UInt8) (hnl : n = l.length) (hx : a.eval x = .slice A n c)
    (hb : bytesIn w A l) (hn : xs.length + l.length ≤ 1000000) (hbase : base ≤ w.heap.size)
    (h : ∀ v' w', rowM w' base v' (xs ++ l) → w.grownBy w' v.ownBlock → wpList Tryd.prog ops Q rest (a.put o.dst v') w') : wpList Tryd.prog ops Q (o :: rest) a w := by
  by_cases h0 : l.length = 0
  · obtain rfl : l = [] := List.eq_nil_of_length_eq_zero h0
    subst hnl
    obtain ⟨b, cap, rfl, hcap, -⟩ := hown.bytes
    exact Lib.wpList_append_run w hgd s x _ _ ho _ _ hs hx _ _ (run_append_nought w b _ cap hcap A c o.type) (h _ w (by simpa using hown) ⟨rfl, rfl, rfl, Nat.le_refl _, fun _ _ _ => rfl⟩)
  · exact append_M hgd s x ho base v xs hs hown A n c l hnl hx (by omega) hb hn hbase h
theorem zeroCells_u8 (n : Nat) : Builtin.zeroCells (Value.int .u8 0).cells n = (byteCells (List.replicate n 0)).toArray := by
  apply Array.toList_inj.1
  unfold Builtin.zeroCells byteCells
  apply List.ext_getElem
  · simp [Value.cells]
  · intro j h1 h2
    simp [Value.cells, Nat.mod_one]
    rfl
theorem run_zeros_room (w : World) (g m cap n : Nat) (cur : Array Value) (fz : Nat × Nat) (ty : TypeId) (hg : w.heap[g]? = some (.cells cur 5 fz)) (hfz : fz = (0, 0) ∨ cur.size ≤ fz.1) (hcur : cur.size = cap) (h0 : 0 < n) (hn : n ≤ 1000) (hroom : m + n ≤ cap) :
    (Builtin.append_ #[22, 3] ty #[.slice (some ⟨g, 0, none⟩) m cap, .int .i64 (n : Int)]).run Tryd.prog w =
      .ok (.slice (some ⟨g, 0, none⟩) (m + n) cap) (w.setRow g (cur.toList.take m ++ byteCells (List.replicate n 0) ++ cur.toList.drop (m + n)).toArray) := by
  obtain ⟨i, hi, hz, hz1, hz2⟩ := info_parts info_u8
  have hn' : n ≠ 0 := by omega
  have hw : IntKind.i64.wrap (n : Int) = n := by rw [IntKind.wrap_i64]; omega
  have hneg : ¬ ((n : Int) < 0) := by omega
  have h48i : ¬ (281474976710656 < (n : Int)) := by omega
  have hst := run_storeCells_atM Tryd.prog g m 5 fz (byteCells (List.replicate n 0)) 0 cur w hg hfz (by rw [byteCells_length, List.length_replicate, hcur]; omega) (byteCells_one _)
  simp only [Nat.add_zero, byteCells_length, List.length_replicate] at hst
  simp [Builtin.append_, run_underlying Tryd.underlying22, run_underlying Tryd.underlying3, sizeOf, typeInfo, zeroValue, hi, hz, hz1, hz2, asInt, asIntOf, hw, hn', hneg, h48i, hroom, Addr.add_lit, zeroCells_u8, hst]
theorem run_zeros_grow (w : World) (g m cap n : Nat) (xs : List UInt8) (ty : TypeId) (hxs : xs.length = m) (hm : m ≤ 1000) (hcells : ∀ j u, (byteCells xs)[j]? = some u → w.cell? ((⟨g, 0, none⟩ : Addr).add j) = some u) (h0 : 0 < n) (hn : n ≤ 1000) (hcap : cap < m + n) :
    (Builtin.append_ #[22, 3] ty #[.slice (some ⟨g, 0, none⟩) m cap, .int .i64 (n : Int)]).run Tryd.prog w =
      .ok (.slice (some ⟨w.heap.size, 0, none⟩) (m + n) (grownCap w (m + n) cap 5)) (w.drew.alloc (.cells ((byteCells xs).toArray ++ (byteCells (List.replicate n 0)).toArray ++ (byteCells (List.replicate (grownCap w (m + n) cap 5 - (m + n)) 0)).toArray) 5)) := by
  obtain ⟨i, hi, hz, hz1, hz2⟩ := info_parts info_u8
  have hn' : n ≠ 0 := by omega
  have hw : IntKind.i64.wrap (n : Int) = n := by rw [IntKind.wrap_i64]; omega
  have hneg : ¬ ((n : Int) < 0) := by omega
  have h48i : ¬ (281474976710656 < (n : Int)) := by omega
  have hl : (loadCells ⟨g, 0, none⟩ m).run Tryd.prog w.drew = .ok (byteCells xs).toArray w.drew := by
    have := run_loadCells_list (P := Tryd.prog) w.drew ⟨g, 0, none⟩ (byteCells xs) (fun j v hj => by simpa using hcells j v hj)
    rw [byteCells_length, hxs] at this
    exact this
  have hfit := growslice_fits (need := m + n) (old := cap) (bytes := 1) (by omega) (by omega)
  have h48 : ¬ (281474976710656 < Builtin.nextslicecap (m + n) cap) := by simpa using hfit
  have h63 : ¬ (9223372036854775807 < (m : Int) + (n : Int)) := by omega
  have hr : ¬ (m + n ≤ cap) := by omega
  simp [Builtin.append_, run_underlying Tryd.underlying22, run_underlying Tryd.underlying3, sizeOf, typeInfo, zeroValue, hi, hz, hz1, hz2, asInt, asIntOf, hw, hn', hneg, h48, h63, h48i, hr, Question.forced, newRow, grownCap, Builtin.firstCells, hl, zeroCells_u8]
/-- Noughts put behind such a row. -/
theorem append_zerosM {w : World} {ops : Array Oper} {rest : List Oper} {o : Oper} {a : Act} {Q : Exit → Act → World → Prop} (hgd : o.guard = none) (s x : Operand)
    (ho : o.op = .call { callee := .builtin .append, args := #[s, x], argTypes := #[22, 3] })
    (base : Nat) (v : Value) (xs : List UInt8) (hs : a.eval s = v) (hown : rowM w base v xs) (n : Nat) (hx : a.eval x = .int .i64 (n : Int)) (h0 : 0 < n) (hn : n ≤ 1000) (hm : xs.length ≤ 1000) (hbase : base ≤ w.heap.size)
    (h : ∀ v' w', rowM w' base v' (xs ++ List.replicate n 0) → w.grownBy w' v.ownBlock → wpList Tryd.prog ops Q rest (a.put o.dst v') w') : wpList Tryd.prog ops Q (o :: rest) a w := by
  have hcells := fun (g : Nat) (hg : v.ownBlock = some g) => hown.cells hg
  rcases hown.2 with ⟨h1, h2⟩ | ⟨g, cap, cur, fz, rfl, hbg, hg, hfz, hnc, hcm, hcs, htake⟩
  · have hxs : xs = [] := by
      have := hown.1
      rw [byteCells_length] at this
      exact List.eq_nil_of_length_eq_zero h2
    subst hxs h1
    obtain ⟨i, hi, hz, hz1, hz2⟩ := info_parts info_u8
    have hr := Lib.run_append_nil_zeros (P := Tryd.prog) w 22 3 o.type 5 i (.int .u8 0) .i64 .i64 Tryd.underlying22 Tryd.underlying3 hi hz n h0 (by rw [hz1]; omega) (by omega) (by rw [hz2]; omega)
    rw [zeroCells_u8, zeroCells_u8] at hr
    have hge := grownCap_ge w n 0 5
    have hcm2 : grownCap w n 0 5 ≤ maxLen := grownCap_le_maxLen w n 0 5 (by unfold maxLen; omega)
    refine Lib.wpList_append_run w hgd s x _ _ ho _ _ hs hx _ _ hr (h _ _ ?_ ?_)
    · unfold rowM
      rw [List.nil_append, List.length_replicate]
      refine ⟨by rw [byteCells_length, List.length_replicate], .inr ⟨w.heap.size, _, _, (0, 0), rfl, hbase, heap_alloc_new w.drew _, .inl rfl, hge, hcm2, ?_, ?_⟩⟩
      · simp only [Array.size_append, List.size_toArray, byteCells_length, List.length_replicate]
        omega
      · rw [Array.toList_append]
        exact List.take_left' (by rw [byteCells_length, List.length_replicate])
    · exact ⟨rfl, rfl, rfl, by simp, fun k hk _ => Below.heap_alloc w.drew _ k hk⟩
  · have hlen : (byteCells (xs ++ List.replicate n 0)).length = xs.length + n := by simp [byteCells_length]
    have happ : byteCells (xs ++ List.replicate n 0) = byteCells xs ++ byteCells (List.replicate n 0) := by simp [byteCells]
    by_cases hroom : xs.length + n ≤ cap
    · refine Lib.wpList_append_run w hgd s x _ _ ho _ _ hs hx _ _ (run_zeros_room w g _ cap n cur fz o.type hg hfz hcs h0 hn hroom) (h _ _ ?_ ?_)
      · have hsz : (cur.toList.take xs.length ++ byteCells (List.replicate n 0) ++ cur.toList.drop (xs.length + n)).length = cur.size := by
          simp only [List.length_append, List.length_take, List.length_drop, Array.length_toList, byteCells_length, List.length_replicate]
          omega
        unfold rowM
        rw [List.length_append, List.length_replicate]
        refine ⟨by rw [hlen], .inr ⟨g, cap, _, fz, rfl, hbg, setRow_heap w g cur _ 5 _ hg, ?_, hroom, hcm, ?_, ?_⟩⟩
        · rw [List.size_toArray, hsz]; exact hfz
        · rw [List.size_toArray, hsz]; exact hcs
        · rw [htake, ← happ, ← hlen]
          exact List.take_left
      · exact ⟨rfl, rfl, rfl, by simp, fun k _ hk => setRow_other w g k _ (fun e => hk (by simp [Value.ownBlock, e]))⟩
    · refine Lib.wpList_append_run w hgd s x _ _ ho _ _ hs hx _ _ (run_zeros_grow w g _ cap n xs o.type rfl hm (hcells g rfl) h0 hn (by omega)) (h _ _ ?_ ?_)
      · have hge := grownCap_ge w (xs.length + n) cap 5
        have hcm2 : grownCap w (xs.length + n) cap 5 ≤ maxLen := grownCap_le_maxLen w (xs.length + n) cap 5 (by unfold maxLen; omega)
        unfold rowM
        rw [List.length_append, List.length_replicate]
        refine ⟨by rw [hlen], .inr ⟨w.heap.size, _, _, (0, 0), rfl, hbase, heap_alloc_new w.drew _, .inl rfl, hge, hcm2, ?_, ?_⟩⟩
        · simp only [Array.size_append, List.size_toArray, byteCells_length, List.length_replicate]
          omega
        · simp only [Array.toList_append, List.append_assoc]
          rw [← List.append_assoc, ← happ, ← hlen]
          exact List.take_left
      · exact ⟨rfl, rfl, rfl, by simp, fun k hk _ => Below.heap_alloc w.drew _ k hk⟩
end Go.Proofs.YtjkhokholcchfaaDoor
