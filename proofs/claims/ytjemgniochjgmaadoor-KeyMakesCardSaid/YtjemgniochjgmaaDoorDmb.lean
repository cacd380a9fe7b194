/- The document's own Make: what no ring is made of. -/
import Derived.Test.YtjemgniochjgmaaDoorDmk
namespace Go.Proofs.YtjemgniochjgmaaDoor
open Go.RowKit Sha

set_option maxRecDepth 100000 in
set_option maxHeartbeats 2000000 in
theorem docMake_bad (K S0 : List UInt8) (z : Int) (w : World) (hb : badMake K S0 z) :
    Calls Tryd.prog 6 #[.string (str K), .string (str S0), .int .i64 z] w fun e w' => e = .returned (.tuple #[.agg (zeros 96).toArray, .int .i64 1]) ∧ Below w.heap.size w w' := by
  have hzr := zeroRing2
  have G0 := Lib.hid (blockIs.new w (zeros 96) 33)
  have A0 := Lib.hid (alloc_below w (.cells (zeros 96).toArray 33 (0, 0)))
  have HB : Hid (¬ ((K.length : Int) = 0) → (S0.length : Int) = 16 → ¬ z < 0 → ¬ 100000 < z → False) := Lib.hid (fun h1 h2 h3 h4 => by
    rcases hb with h | h | h | h <;> omega)
  clear hb
  have q0 : ((str K).toList == (⟨#[]⟩ : ByteArray).toList) = decide (K.length = 0) := by
    rw [ByteArray.toList_eq, ByteArray.toList_eq]
    show (K == []) = _
    cases K <;> rfl
  have q1 : ByteArray.toList ⟨#[]⟩ = [] := by rw [ByteArray.toList_eq]
  have q4 : (str K).toList = K := by rw [ByteArray.toList_eq]; rfl
  have q5 : (K == []) = decide (K.length = 0) := by cases K <;> rfl
  have q6 : K.isEmpty = decide (K.length = 0) := by cases K <;> rfl
  have q2 : (str S0).size = S0.length := str_size S0
  have q3 : (decide (K.length = 0) = true) ↔ K.length = 0 := decide_eq_true_iff
  go_enter Tryd.func6, Tryd.ntmps6
  by_cases c1 : K.length = 0
  · clear HB
    go_wp2_with (first | (refine wpList_build rfl 33 _ rfl _ _ (buildRing20 _) rfl ?_) | (refine wpList_store_block rfl 33 _ _ rfl w.heap.size 0 (zeros 96) rfl rfl (zeros 96) 33 G0.out (by rw [infoRing2]; rfl) (by simp [zeros]) (byteCells_one (List.replicate 96 0)) ?_))
    intro x7 h1 h2 h3
    have h1 := h1.out
    rw [splice_all _ _ (by simp [zeros])] at h1
    have H1 := Lib.hid h1
    have H2 := Lib.hid (A0.out.trans (h2.out.below (Nat.le_refl _) A0.out.size))
    clear h1 h2 h3
    go_wp2_with fail
    refine bodyPost_ret (v := .tuple #[.agg (zeros 96).toArray, .int .i64 1]) (results_row_tmp (p := 6) (u := 7) (ty := 33) rfl _ _ w.heap.size _ rfl (run_loadVar_row _ w.heap.size 33 33 _ (0, 0) _ H1.out Tryd.underlying33 rfl (by rw [infoRing2]; rfl))) rfl ?_
    exact ⟨rfl, H2.out⟩
  · have d1 : ¬ (K.length : Int) = 0 := by omega
    by_cases c2 : S0.length = 16
    · have d2 : (S0.length : Int) = 16 := by omega
      by_cases c3 : z < 0
      · clear HB
        go_wp2_with (first | (refine wpList_build rfl 33 _ rfl _ _ (buildRing20 _) rfl ?_) | (refine wpList_store_block rfl 33 _ _ rfl w.heap.size 0 (zeros 96) rfl rfl (zeros 96) 33 G0.out (by rw [infoRing2]; rfl) (by simp [zeros]) (byteCells_one (List.replicate 96 0)) ?_))
        intro x7 h1 h2 h3
        have h1 := h1.out
        rw [splice_all _ _ (by simp [zeros])] at h1
        have H1 := Lib.hid h1
        have H2 := Lib.hid (A0.out.trans (h2.out.below (Nat.le_refl _) A0.out.size))
        clear h1 h2 h3
        go_wp2_with fail
        refine bodyPost_ret (v := .tuple #[.agg (zeros 96).toArray, .int .i64 1]) (results_row_tmp (p := 6) (u := 7) (ty := 33) rfl _ _ w.heap.size _ rfl (run_loadVar_row _ w.heap.size 33 33 _ (0, 0) _ H1.out Tryd.underlying33 rfl (by rw [infoRing2]; rfl))) rfl ?_
        exact ⟨rfl, H2.out⟩
      · have c4 : 100000 < z := by
          rcases Int.lt_or_le 100000 z with h | h
          · exact h
          · exact (HB.out d1 d2 c3 (by omega)).elim
        clear HB
        go_wp2_with (first | (refine wpList_build rfl 33 _ rfl _ _ (buildRing20 _) rfl ?_) | (refine wpList_store_block rfl 33 _ _ rfl w.heap.size 0 (zeros 96) rfl rfl (zeros 96) 33 G0.out (by rw [infoRing2]; rfl) (by simp [zeros]) (byteCells_one (List.replicate 96 0)) ?_))
        intro x7 h1 h2 h3
        have h1 := h1.out
        rw [splice_all _ _ (by simp [zeros])] at h1
        have H1 := Lib.hid h1
        have H2 := Lib.hid (A0.out.trans (h2.out.below (Nat.le_refl _) A0.out.size))
        clear h1 h2 h3
        go_wp2_with fail
        refine bodyPost_ret (v := .tuple #[.agg (zeros 96).toArray, .int .i64 1]) (results_row_tmp (p := 6) (u := 7) (ty := 33) rfl _ _ w.heap.size _ rfl (run_loadVar_row _ w.heap.size 33 33 _ (0, 0) _ H1.out Tryd.underlying33 rfl (by rw [infoRing2]; rfl))) rfl ?_
        exact ⟨rfl, H2.out⟩
    · have d2 : ¬ (S0.length : Int) = 16 := by omega
      clear HB
      go_wp2_with (first | (refine wpList_build rfl 33 _ rfl _ _ (buildRing20 _) rfl ?_) | (refine wpList_store_block rfl 33 _ _ rfl w.heap.size 0 (zeros 96) rfl rfl (zeros 96) 33 G0.out (by rw [infoRing2]; rfl) (by simp [zeros]) (byteCells_one (List.replicate 96 0)) ?_))
      intro x7 h1 h2 h3
      have h1 := h1.out
      rw [splice_all _ _ (by simp [zeros])] at h1
      have H1 := Lib.hid h1
      have H2 := Lib.hid (A0.out.trans (h2.out.below (Nat.le_refl _) A0.out.size))
      clear h1 h2 h3
      go_wp2_with fail
      refine bodyPost_ret (v := .tuple #[.agg (zeros 96).toArray, .int .i64 1]) (results_row_tmp (p := 6) (u := 7) (ty := 33) rfl _ _ w.heap.size _ rfl (run_loadVar_row _ w.heap.size 33 33 _ (0, 0) _ H1.out Tryd.underlying33 rfl (by rw [infoRing2]; rfl))) rfl ?_
      exact ⟨rfl, H2.out⟩
end Go.Proofs.YtjemgniochjgmaaDoor
