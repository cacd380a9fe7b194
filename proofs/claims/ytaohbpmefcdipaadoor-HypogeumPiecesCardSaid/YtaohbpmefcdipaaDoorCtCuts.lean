/- The contract of cuts. -/
import Derived.Test.YtaohbpmefcdipaaDoorCtInts
namespace Go.Proofs.YtaohbpmefcdipaaDoor.Ct
open Go.RowKit

def rule0 : Rl := ⟨64, 100, 3, 17349423945073011#64⟩
theorem rule0_ok : rule0.ok := ⟨by decide, by decide, by decide, by decide, by decide, by show 24 ≤ dgw 17349423945073011#64; decide +kernel⟩
theorem stop0 (n : Nat) : rule0.stop (List.replicate n 0) = decide (100 ≤ n) := by
  have hm : 8 ≤ dgw rule0.poly := by have := rule0_ok.h6; omega
  have e : rule0.hit 0 = false := by decide +kernel
  unfold Rl.stop
  rw [List.drop_replicate, of_noughts _ hm, e, List.length_replicate, Bool.and_false, Bool.or_false]
  rfl
theorem first0 (n : Nat) : rule0.first (List.replicate n 0) = min n 100 := by
  rcases rule0.reach_cases [] (List.replicate n 0) with ⟨k, hk, hg, hs, he⟩ | ⟨hg, he⟩
  · have hf : rule0.first (List.replicate n 0) = k + 1 := by unfold Rl.first; rw [he]
    rw [List.length_replicate] at hk
    rw [List.nil_append, List.take_replicate, stop0, decide_eq_true_iff] at hs
    rw [hf]
    by_cases h : k = 0
    · omega
    · have := hg (k - 1) (by omega)
      rw [List.nil_append, List.take_replicate, stop0, decide_eq_false_iff_not] at this
      omega
  · have hf : rule0.first (List.replicate n 0) = n := by unfold Rl.first; rw [he]; simp
    rw [hf]
    by_cases h : n = 0
    · omega
    · have := hg (n - 1) (by rw [List.length_replicate]; omega)
      rw [List.nil_append, List.take_replicate, stop0, decide_eq_false_iff_not] at this
      omega
theorem sizes0 : rule0.sizes (List.replicate 250 0) = [100, 100, 50] := by
  have hne : ∀ n, 0 < n → List.replicate n (0 : UInt8) ≠ [] := fun n hn h => by
    have := congrArg List.length h
    rw [List.length_replicate, List.length_nil] at this
    omega
  rw [rule0.sizes_cons _ (hne 250 (by decide)), first0, List.drop_replicate, rule0.sizes_cons _ (hne _ (by decide)), first0, List.drop_replicate, rule0.sizes_cons _ (hne _ (by decide)), first0, List.drop_replicate]
  rfl
theorem zeros_in (w : World) (n : Nat) : bytesIn (w.alloc (.cells (zeroB n) 5 (0, 0))) (some ⟨w.heap.size, 0, none⟩) (List.replicate n 0) := by
  refine Or.inr ⟨_, _, rfl, fun j hj => ?_⟩
  rw [List.length_replicate] at hj
  have := (blockIs.new w (bvals (List.replicate n 0)) 5).cell j
  rw [Nat.zero_add]
  unfold zeroB
  rw [this]
  simp [bvals, hj]
theorem vals_lit (w : World) (vs : List Value) (t : TypeId) : valsIn (w.alloc (.cells vs.toArray t (0, 0))) (some ⟨w.heap.size, 0, none⟩) vs := by
  refine Or.inr ⟨_, _, rfl, fun j hj => ?_⟩
  rw [Nat.zero_add]
  exact (blockIs.new w vs t).cell j
theorem Rl.sizes_at (r : Rl) (b : List UInt8) (i : Nat) (hi : i < (r.sizes b).length) : b.drop ((r.sizes b).take i).sum ≠ [] ∧ (r.sizes b).getD i 0 = r.first (b.drop ((r.sizes b).take i).sum) := by
  have e := r.sizes_drop b i
  have hne : b.drop ((r.sizes b).take i).sum ≠ [] := by
    intro h
    rw [h, r.sizes_nil] at e
    have := congrArg List.length e
    rw [List.length_drop, List.length_nil] at this
    omega
  refine ⟨hne, ?_⟩
  rw [r.sizes_cons _ hne, List.drop_eq_getElem_cons hi] at e
  have := (List.cons.inj e).1
  rw [← this]
  simp [hi]
theorem Rl.sizes_piece (r : Rl) (hr : r.ok) (b : List UInt8) (i : Nat) (hi : i < (r.sizes b).length) : 1 ≤ (r.sizes b).getD i 0 ∧ (r.sizes b).getD i 0 ≤ r.most ∧ (i + 1 < (r.sizes b).length → r.least ≤ (r.sizes b).getD i 0) ∧ ((r.sizes b).take i).sum + (r.sizes b).getD i 0 ≤ b.length := by
  obtain ⟨h1, h2⟩ := r.sizes_at b i hi
  have h5 := r.first_le (b.drop ((r.sizes b).take i).sum)
  have h6 := r.first_pos _ h1
  rw [List.length_drop] at h5
  have e7 : ((r.sizes b).take (i + 1)).sum = ((r.sizes b).take i).sum + (r.sizes b).getD i 0 := by
    rw [List.take_succ_eq_append_getElem hi, List.sum_append]
    simp [hi]
  rw [h2]
  refine ⟨r.first_pos _ h1, r.first_most hr _, fun hn => ?_, by omega⟩
  apply r.first_least hr
  obtain ⟨h3, h4⟩ := r.sizes_at b (i + 1) hn
  have h8 : 0 < (b.drop ((r.sizes b).take (i + 1)).sum).length := List.length_pos_iff.2 h3
  rw [List.length_drop, e7, h2] at h8
  rw [List.length_drop]
  omega
theorem sum_take (S : List Nat) (i : Nat) (hi : i < S.length) : (S.take (i + 1)).sum = (S.take i).sum + S.getD i 0 := by
  rw [List.take_succ_eq_append_getElem hi, List.sum_append]
  simp [hi]
theorem sum_le (S : List Nat) (i : Nat) : (S.take i).sum ≤ S.sum := by
  have e : S.sum = (S.take i).sum + (S.drop i).sum := by rw [← List.sum_append, List.take_append_drop]
  omega
theorem len_le_sum (S : List Nat) (h : ∀ x ∈ S, 1 ≤ x) : S.length ≤ S.sum := by
  induction S with
  | nil => simp
  | cons x S ih =>
    have := ih (fun y hy => h y (List.mem_cons_of_mem _ hy))
    have := h x (List.mem_cons_self)
    rw [List.length_cons, List.sum_cons]
    omega
theorem Rl.sizes_len (r : Rl) (b : List UInt8) : (r.sizes b).length ≤ b.length := by
  have h1 := len_le_sum (r.sizes b) (fun x hx => by
    obtain ⟨i, hi, e⟩ := List.getElem_of_mem hx
    obtain ⟨h1, h2⟩ := r.sizes_at b i hi
    have : x = (r.sizes b).getD i 0 := by simp [hi, e]
    rw [this, h2]
    exact r.first_pos _ h1)
  rw [r.sizes_sum] at h1
  exact h1
end Go.Proofs.YtaohbpmefcdipaaDoor.Ct
