/- What a text of digits says, and that it says it back. -/
import Derived.Test.YthgmebdbccjmlaaDoorRead
namespace Go.Proofs.YthgmebdbccjmlaaDoor
open Go.RowKit Sha

theorem ixd_dg (n : Nat) (h : n < 16) : ixd (dg n) = (n : Int) := by
  have e : ∀ i : Nat, i < 16 → ixd (dg i) = (i : Int) := by decide
  exact e n h
theorem dg_ixd (c : UInt8) (h : 0 ≤ ixd c) : dg (ixd c).toNat = c ∧ (ixd c).toNat < 16 := by
  obtain ⟨n, hn⟩ : ∃ n : Nat, ixd c = (n : Int) := ⟨(ixd c).toNat, by omega⟩
  have h1 := (Lib.indexByte_some hn).1
  have h2 := (ixd_lt c).2
  rw [hn, Int.toNat_natCast]
  refine ⟨?_, by omega⟩
  unfold dg
  rw [List.getD_eq_getElem?_getD, h1]
  rfl
theorem ixd_test (c : UInt8) : decide (0 ≤ ixd c) = ((decide (48 ≤ V c) && decide (V c ≤ 57)) || (decide (97 ≤ V c) && decide (V c ≤ 102))) := by
  have e : ∀ n : Nat, n < 256 → decide (0 ≤ ixd (UInt8.ofNat n)) = ((decide (48 ≤ V (UInt8.ofNat n)) && decide (V (UInt8.ofNat n) ≤ 57)) || (decide (97 ≤ V (UInt8.ofNat n)) && decide (V (UInt8.ofNat n) ≤ 102))) := by decide +kernel
  have := e c.toNat c.toNat_lt
  rwa [UInt8.ofNat_toNat] at this
theorem okHex_hexL (l : List UInt8) (h : l.length = 32) : okHex (hexL l) = true := by
  refine okHex_all _ (by rw [hexL_length]; omega) fun i hi => ?_
  obtain ⟨a, b⟩ := hexL_get l i (by omega)
  unfold okAt
  rw [a, b, ixd_dg _ (by have := (l.getD i 0).toNat_lt; omega), ixd_dg _ (by omega), Bool.and_eq_true]
  exact ⟨decide_eq_true (by omega), decide_eq_true (by omega)⟩
theorem unhex_hexL (l : List UInt8) (h : l.length = 32) : unhex (hexL l) = l := by
  apply List.ext_getElem (by simp [unhex, h])
  intro i h1 h2
  have hi : i < 32 := by omega
  obtain ⟨a, b⟩ := hexL_get l i (by omega)
  have hg : l.getD i 0 = l[i] := by rw [List.getD_eq_getElem?_getD, List.getElem?_eq_getElem h2]; rfl
  simp only [unhex, List.getElem_map, List.getElem_range]
  unfold unAt
  rw [a, b, ixd_dg _ (by have := (l.getD i 0).toNat_lt; omega), ixd_dg _ (by omega), hg, Int.toNat_natCast, Int.toNat_natCast, Nat.div_add_mod]
  exact UInt8.ofNat_toNat
theorem readL_hexL (l : List UInt8) (h : l.length = 32) : readL (hexL l) = l := by
  unfold readL
  rw [okHex_hexL l h, if_pos rfl, unhex_hexL l h]
theorem okHex_at {l : List UInt8} (h : okHex l = true) : l.length = 64 ∧ ∀ i, i < 32 → okAt l i = true := by
  unfold okHex at h
  rw [Bool.and_eq_true, decide_eq_true_eq, List.all_eq_true] at h
  exact ⟨h.1, fun i hi => h.2 i (List.mem_range.2 hi)⟩
theorem hexL_unhex (l : List UInt8) (h : okHex l = true) : hexL (unhex l) = l := by
  obtain ⟨hl, ha⟩ := okHex_at h
  have hu : (unhex l).length = 32 := by simp [unhex]
  apply List.ext_getElem (by rw [hexL_length]; omega)
  intro j h1 h2
  have hj : j < 64 := by omega
  obtain ⟨k, hk⟩ : ∃ k, k = j / 2 := ⟨_, rfl⟩
  obtain ⟨a, b⟩ := hexL_get (unhex l) k (by omega)
  have hg : (unhex l).getD k 0 = unAt l k := by
    rw [List.getD_eq_getElem?_getD, List.getElem?_eq_getElem (by omega)]
    simp [unhex]
  have hok := ha k (by omega)
  unfold okAt at hok
  rw [Bool.and_eq_true, decide_eq_true_eq, decide_eq_true_eq] at hok
  obtain ⟨d1, d2⟩ := dg_ixd _ hok.1
  obtain ⟨d3, d4⟩ := dg_ixd _ hok.2
  have hn : (unAt l k).toNat = 16 * (ixd (l.getD (2 * k) 0)).toNat + (ixd (l.getD (2 * k + 1) 0)).toNat := by
    unfold unAt
    rw [UInt8.toNat_ofNat']
    omega
  rw [hg, hn] at a b
  rw [show (16 * (ixd (l.getD (2 * k) 0)).toNat + (ixd (l.getD (2 * k + 1) 0)).toNat) / 16 = (ixd (l.getD (2 * k) 0)).toNat by omega, d1] at a
  rw [show (16 * (ixd (l.getD (2 * k) 0)).toNat + (ixd (l.getD (2 * k + 1) 0)).toNat) % 16 = (ixd (l.getD (2 * k + 1) 0)).toNat by omega, d3] at b
  have e1 : (hexL (unhex l))[j] = (hexL (unhex l)).getD j 0 := by rw [List.getD_eq_getElem?_getD, List.getElem?_eq_getElem h1]; rfl
  have e2 : l[j] = l.getD j 0 := by rw [List.getD_eq_getElem?_getD, List.getElem?_eq_getElem h2]; rfl
  refine e1.trans (Eq.trans ?_ e2.symm)
  rcases (show j = 2 * k ∨ j = 2 * k + 1 by omega) with rfl | rfl
  · exact a
  · exact b
/-- Digits only, up to here. -/
def digTo (l : List UInt8) (n : Nat) : Bool := (List.range n).all fun j => decide (0 ≤ ixd (l.getD j 0))
theorem digTo_succ (l : List UInt8) (n : Nat) : digTo l (n + 1) = (digTo l n && decide (0 ≤ ixd (l.getD n 0))) := by
  unfold digTo
  rw [List.range_succ, List.all_append]
  simp
theorem digTo_no {l : List UInt8} {n m : Nat} (h : digTo l n = false) (hn : n ≤ m) : digTo l m = false := by
  unfold digTo at *
  rw [List.all_eq_false] at *
  obtain ⟨x, hx, hf⟩ := h
  exact ⟨x, List.mem_range.2 (by have := List.mem_range.1 hx; omega), hf⟩
theorem okHex_digTo (l : List UInt8) : okHex l = (decide (l.length = 64) && digTo l l.length) := by
  by_cases h : l.length = 64
  · unfold okHex digTo
    rw [decide_eq_true h, Bool.true_and, Bool.true_and, h, Bool.eq_iff_iff, List.all_eq_true, List.all_eq_true]
    constructor
    · intro ha j hj
      have := List.mem_range.1 hj
      have hok := ha (j / 2) (List.mem_range.2 (by omega))
      unfold okAt at hok
      rw [Bool.and_eq_true] at hok
      rcases (show j = 2 * (j / 2) ∨ j = 2 * (j / 2) + 1 by omega) with e | e
      · rw [e]; exact hok.1
      · rw [e]; exact hok.2
    · intro ha i hi
      have := List.mem_range.1 hi
      unfold okAt
      rw [ha (2 * i) (List.mem_range.2 (by omega)), ha (2 * i + 1) (List.mem_range.2 (by omega))]
      rfl
  · rw [okHex_len l h, decide_eq_false h]
    rfl
end Go.Proofs.YthgmebdbccjmlaaDoor
