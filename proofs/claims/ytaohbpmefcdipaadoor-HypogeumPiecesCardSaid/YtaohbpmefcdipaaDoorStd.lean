/- stands: "abc" has its sum. -/
import Derived.Test.YtaohbpmefcdipaaDoorOf
import Derived.Lib.SmallJoins
namespace Go.Proofs.YtaohbpmefcdipaaDoor
open Go.RowKit Sha

theorem abc0 : sha [97, 98, 99] = 0xba :: 0x78 :: (sha [97, 98, 99]).drop 2 := by rw [abc]; rfl
theorem ret_bool {a b : Bool} (h : a = b) : Ending.returned (.bool a) = .returned (.bool b) := by rw [h]

set_option maxRecDepth 100000 in
set_option maxHeartbeats 1000000 in
theorem stands_any (w : World) (ht : tables w) :
    Calls Tryd.prog 15 #[] w fun e w' => e = .returned (.bool true) ∧ Below w.heap.size w w' := by
  have HT := Lib.hid ht
  clear ht
  have hcv1 : (convert 22 22 (.slice (some ⟨w.heap.size, 0, none⟩) 3 3)).run Tryd.prog (w.alloc (.cells #[.int .u8 97, .int .u8 98, .int .u8 99] 5)) = .ok (.slice (some ⟨w.heap.size, 0, none⟩) 3 3) (w.alloc (.cells #[.int .u8 97, .int .u8 98, .int .u8 99] 5 (3, 4))) := Joins.run_convert_bytes_const_at w 22 5 _ 3 3 _ rfl Tryd.underlying22 Tryd.underlying5
  go_enter Tryd.func15, Tryd.ntmps15
  go_wp2_with fail
  obtain ⟨W, hW⟩ : ∃ W, W = (w.alloc (.cells #[.int .u8 97, .int .u8 98, .int .u8 99] 5 (3, 4))).alloc (.cells #[.slice (some ⟨w.heap.size, 0, none⟩) 3 3] 22 (0, 0)) := ⟨_, rfl⟩
  have b0 : W.heap[w.heap.size]? = some (.cells #[.int .u8 97, .int .u8 98, .int .u8 99] 5 (3, 4)) := by
    rw [hW, Below.heap_alloc _ _ _ (by simp), heap_alloc_new]
  have b2 : W.heap[w.heap.size + 1]? = some (.cells #[.slice (some ⟨w.heap.size, 0, none⟩) 3 3] 22 (0, 0)) := by
    rw [hW]
    have := heap_alloc_new (w.alloc (.cells #[.int .u8 97, .int .u8 98, .int .u8 99] 5 (3, 4))) (.cells #[.slice (some ⟨w.heap.size, 0, none⟩) 3 3] 22 (0, 0))
    simpa using this
  have hbel : Below w.heap.size w W := by
    rw [hW]
    exact ((Below.refl _ w).alloc (Nat.le_refl _) _).alloc (by simp) _
  have hparts : partsIn W (some ⟨w.heap.size + 1, 0, none⟩) [[97, 98, 99]] := by
    refine Or.inr ⟨_, _, rfl, fun j hj => ?_⟩
    match j, hj with
    | 0, _ => exact ⟨_, _, by rw [cell_of_row _ _ _ _ _ _ b2]; rfl, by decide, by omega, Or.inr ⟨_, _, rfl, fun i hi => by
        match i, hi with
        | 0, _ => rw [cell_of_row _ _ _ _ _ _ b0]; rfl
        | 1, _ => rw [cell_of_row _ _ _ _ _ _ b0]; rfl
        | 2, _ => rw [cell_of_row _ _ _ _ _ _ b0]; rfl⟩⟩
  have htab : tables W := HT.out.below hbel HT.out.2.2.1 HT.out.2.2.2
  have hof := of_any 1 (some ⟨w.heap.size + 1, 0, none⟩) [[97, 98, 99]] W (by decide) (by decide) (by decide) htab hparts
  have HBEL := Lib.hid hbel
  rw [← hW]
  clear hcv1 b0 b2 hparts htab hbel hW
  refine hof.mono ?_
  clear hof
  rintro e w2 ⟨rfl, h1⟩
  have H1 := Lib.hid (HBEL.out.trans (h1.mono HBEL.out.size))
  clear h1
  have hz3 := zero28
  go_wp2_with (refine wpList_store_block rfl 43 _ _ rfl w2.heap.size 0 (byteCells (sha [97, 98, 99])) rfl rfl (zeros 32) 43 (blockIs.new w2 _ _) (by rw [info28, byteCells_length, sha_length]) (by simp [zeros, byteCells_length, sha_length]) (byteCells_one _) ?_)
  intro w3 h1 h2 h3
  have h1 := h1.out
  rw [splice_all _ _ (by simp [zeros, byteCells_length, sha_length]), abc] at h1
  have c0 : w3.cell? ⟨w2.heap.size, 0, none⟩ = some (.int .u8 186) := by rw [h1.cell]; rfl
  have c31 : w3.cell? ⟨w2.heap.size, 31, none⟩ = some (.int .u8 173) := by rw [h1.cell]; rfl
  have H2 := Lib.hid ((H1.out.alloc H1.out.size (.cells (zeros 32).toArray 43 (0, 0))).trans (h2.out.below H1.out.size (by simp; have := H1.out.size; omega)))
  clear h1 h2 h3
  go_wp2
  go_ret
  exact ⟨rfl, H2.out⟩
end Go.Proofs.YtaohbpmefcdipaaDoor
