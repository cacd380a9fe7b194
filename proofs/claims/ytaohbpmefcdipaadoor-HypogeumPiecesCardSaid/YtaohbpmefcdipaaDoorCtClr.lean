/- The contract of Clear. -/
import Derived.Test.YtaohbpmefcdipaaDoorCtPush
import Derived.Lib.AppendZeros
namespace Go.Proofs.YtaohbpmefcdipaaDoor.Ct
open Go.RowKit

theorem zeroCells_b (n : Nat) : (Builtin.zeroCells (Value.int .u8 0).cells n).toList = bvals (List.replicate n 0) := by
  unfold Builtin.zeroCells bvals
  apply List.ext_getElem
  · simp [Value.cells]
  · intro j h1 h2
    simp [Value.cells, Nat.mod_one]
    rfl
/-- A row of bytes, cleared. -/
theorem run_clear (w : World) (b n c : Nat) (ty : TypeId) (ring : List UInt8) (hb : blockIs w b (bvals ring) 5) (hn : ring.length = n) (h0 : 0 < n) :
    (Builtin.clear_ #[22] ty #[.slice (some ⟨b, 0, none⟩) n c]).run Tryd.prog w = .ok (.tuple #[]) (w.setRow b (bvals (List.replicate n 0)).toArray) := by
  obtain ⟨i, hi, hz, hz1, hz2⟩ := info_parts info_u8
  have hs : (storeCells ⟨b, 0, none⟩ (bvals (List.replicate n 0)) 0).run Tryd.prog w = .ok () (w.setRow b (bvals (List.replicate n 0)).toArray) := by
    have := run_storeCells_at (P := Tryd.prog) b 0 5 (bvals (List.replicate n 0)) 0 (bvals ring).toArray w hb (by simp [bvals, hn]) (by
      intro v hv
      obtain ⟨q, _, rfl⟩ := List.mem_map.1 hv
      rfl)
    rw [this]
    have e : (bvals ring).toArray.toList.drop (0 + 0 + (bvals (List.replicate n 0)).length) = [] := List.drop_of_length_le (by simp [bvals, hn])
    rw [e]
    simp
  obtain ⟨k, rfl⟩ : ∃ k, n = k + 1 := ⟨n - 1, by omega⟩
  simp [Builtin.clear_, run_underlying Tryd.underlying22, zeroValue, typeInfo, hi, hz, zeroCells_b, hs]
theorem noughts_ring (n p : Nat) (h : p < n) : List.replicate n (0 : UInt8) = (List.replicate n 0).drop p ++ (List.replicate n 0).take p := by
  rw [List.drop_replicate, List.take_replicate, List.replicate_append_replicate]
  congr 1
  omega
set_option maxRecDepth 100000 in
theorem clear_any (g b : Nat) (m : W) (L : List UInt8) (w : World) (h : rollIs w g b m L) :
    Calls Tryd.prog 48 #[.pointer (some ⟨g, 0, none⟩)] w fun e w' => e = .returned (.tuple #[]) ∧ rollIs w' g b m (List.replicate L.length 0) ∧ But2 g b w w' := by
  obtain ⟨ld, p, rg, hr⟩ := h
  have s0 := hr.cwin
  have HR := Lib.hid hr
  have HN : Hid (0 < L.length) := Lib.hid (by have := hr.lt; have := hr.len; omega)
  clear hr
  go_enter Tryd.func48, Tryd.ntmps48
  go_wp2_with fail
  rw [run_clear w b L.length L.length _ rg HR.out.bytes HR.out.len HN.out]
  have D1 : Hid (blockIs (w.setRow b (bvals (List.replicate L.length 0)).toArray) b (bvals (List.replicate L.length 0)) 5) := Lib.hid (setRow_heap w b _ _ _ _ HR.out.bytes)
  have C1 : Hid (blockIs (w.setRow b (bvals (List.replicate L.length 0)).toArray) g (rollCells m ld b L.length p (ofW m L)) 111) := Lib.hid ((setRow_other w b g _ (Ne.symm HR.out.ne)).trans HR.out.cells)
  have B1 : Hid (But2 g b w (w.setRow b (bvals (List.replicate L.length 0)).toArray)) := Lib.hid ⟨rfl, rfl, rfl, by simp [World.setRow], fun k _ _ hk => setRow_other w b k _ hk⟩
  generalize w.setRow b (bvals (List.replicate L.length 0)).toArray = w1 at *
  obtain ⟨-, -, s5⟩ := roll_cell C1.out
  have f5 := C1.out.free 515
  have E1 : Hid (RollAt (w1.setCell ⟨g, 515, none⟩ (.int .u64 0)) g b m (List.replicate L.length 0) ld p (List.replicate L.length 0)) := Lib.hid (by
    have hln : (List.replicate L.length (0 : UInt8)).length = L.length := List.length_replicate
    refine ⟨HR.out.hm, HR.out.ne, ?_, ?_, rfl, ?_, ?_, ?_, ?_⟩
    · rw [hln, of_noughts m HR.out.hm]
      exact roll_set_sum C1.out 0
    · exact D1.out.other ⟨g, 515, none⟩ (.int .u64 0) HR.out.ne
    · rw [hln, ← HR.out.len]; exact HR.out.lt
    · exact noughts_ring _ _ (by rw [← HR.out.len]; exact HR.out.lt)
    · rw [hln]; exact HR.out.lead_
    · rw [hln]; exact HR.out.short)
  have E2 : Hid (But2 g b w (w1.setCell ⟨g, 515, none⟩ (.int .u64 0))) := Lib.hid (B1.out.setCell ⟨g, 515, none⟩ (.int .u64 0) (Or.inl rfl))
  go_wp2_with fail
  go_end0
  exact ⟨rfl, ⟨ld, p, _, E1.out⟩, E2.out⟩
end Go.Proofs.YtaohbpmefcdipaaDoor.Ct
