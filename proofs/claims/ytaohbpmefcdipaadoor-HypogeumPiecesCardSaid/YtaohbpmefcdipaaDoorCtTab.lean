/- The contract of productsBy. -/
import Derived.Test.YtaohbpmefcdipaaDoorCtMem
namespace Go.Proofs.YtaohbpmefcdipaaDoor.Ct
open Go.RowKit

/-- The lowest bit that is 1. -/
def lowb (k : Nat) : Nat := k ^^^ (k &&& (k - 1))
theorem low_and : ∀ k : Fin 256, bits .and .i64 (k.val : Int) (IntKind.i64.wrap (-(k.val : Int))) = (lowb k.val : Int) := by decide +kernel
theorem low_xor : ∀ k : Fin 256, bits .xor .i64 (k.val : Int) (lowb k.val : Int) = ((k.val ^^^ lowb k.val : Nat) : Int) := by decide +kernel
theorem low_lt : ∀ k : Fin 256, lowb k.val ≠ k.val → lowb k.val < k.val ∧ k.val ^^^ lowb k.val < k.val := by decide +kernel
/-- The products of all bytes by a, by m. -/
def tab (a m : W) (i : Nat) : W := wM (BitVec.ofNat 64 i) a m
theorem tab_toNat (a m : W) (hm : m ≠ 0) (i : Nat) (hi : i < 256) : (tab a m i).toNat = Pm.pr (Pm.pm i a.toNat) m.toNat := by
  unfold tab
  rw [wM_toNat _ _ _ hm, BitVec.toNat_ofNat, Nat.mod_eq_of_lt (by omega)]
theorem tab_xor (a m : W) (hm : m ≠ 0) (i j : Nat) (hi : i < 256) (hj : j < 256) (hij : i ^^^ j < 256) : tab a m (i ^^^ j) = tab a m i ^^^ tab a m j := by
  apply BitVec.eq_of_toNat_eq
  rw [BitVec.toNat_xor, tab_toNat _ _ hm _ hij, tab_toNat _ _ hm _ hi, tab_toNat _ _ hm _ hj, Pm.pm_add_left, Pm.pr_add _ _ _ (ne_toNat hm)]
theorem tab_low (a m : W) (hm : m ≠ 0) (k : Nat) (hk : k < 256) (h : lowb k ≠ k) : tab a m k = tab a m (lowb k) ^^^ tab a m (k ^^^ lowb k) := by
  have hl : lowb k < k ∧ k ^^^ lowb k < k := low_lt ⟨k, hk⟩ h
  have e : lowb k ^^^ (k ^^^ lowb k) = k := by rw [Nat.xor_comm k, ← Nat.xor_assoc, Nat.xor_self, Nat.zero_xor]
  rw [← tab_xor a m hm _ _ (by have := hl.1; omega) (by have := hl.2; omega) (by rw [e]; exact hk), e]
/-- What stands in the table when k are laid. -/
def laid (a m : W) (k j : Nat) : W := if j < k then tab a m j else 0
theorem laid_zero (a m : W) : laid a m 0 = fun _ => 0 := by funext j; unfold laid; rw [if_neg (by omega)]
theorem laid_succ (a m : W) (k : Nat) : (fun j => if j = k then tab a m k else laid a m k j) = laid a m (k + 1) := by
  funext j
  unfold laid
  by_cases h : j = k
  · subst h; rw [if_pos rfl, if_pos (by omega)]
  · rw [if_neg h]
    by_cases h2 : j < k
    · rw [if_pos h2, if_pos (by omega)]
    · rw [if_neg h2, if_neg (by omega)]
theorem laid_all (a m : W) : cellsW (laid a m 256) 256 = cellsW (tab a m) 256 := by
  unfold cellsW
  apply List.map_congr_left
  intro j hj
  have := List.mem_range.1 hj
  unfold laid
  rw [if_pos this]
def noughts (n : Nat) : List Value := List.replicate n (.int .u64 0)
theorem noughts_eq (n : Nat) : noughts n = cellsW (fun _ => 0) n := by
  apply List.ext_getElem
  · simp [noughts, cellsW]
  · intro i h1 h2
    simp [noughts, cellsW]
    rfl
theorem zero_products (w : World) : (zeroValue 106).run Tryd.prog w = .ok (.agg (noughts 256).toArray) w := by kernel_rfl
theorem info_products : (Tryd.prog.info? 106).map (·.size) = some 256 := by kernel_rfl

/-- The sum of two that stand at the beginning of a block; the world as it is. -/
theorem add_mem (x y : W) (w : World) (n : Nat) (h0 : w.cell? ⟨n, 0, none⟩ = some (.int .u64 (U x))) (h1 : w.cell? ⟨n, 1, none⟩ = some (.int .u64 (U y))) :
    Calls Tryd.prog 57 #[.slice (some ⟨n, 0, none⟩) 2 2] w fun e w' => e = .returned (.int .u64 (U (x ^^^ y))) ∧ w = w' := by
  have h : wordsIn w (some ⟨n, 0, none⟩) [x, y] := by
    refine Or.inr ⟨_, _, rfl, fun j hj => ?_⟩
    match j, hj with
    | 0, _ => exact h0
    | 1, _ => exact h1
  refine (add_any _ [x, y] 2 _ (Nat.le_refl 2) (by simp) h).mono ?_
  rintro e w' ⟨rfl, rfl⟩
  refine ⟨?_, rfl⟩
  simp [sumAll]
theorem mod_k (k : Nat) (a m : W) (w : World) (hk : k < 256) (hm : m ≠ 0) :
    Calls Tryd.prog 58 #[.int .u64 (k : Int), .int .u64 (U a), .int .u64 (U m)] w fun e w' => e = .returned (.tuple #[.int .u64 (U (tab a m k)), .int .i64 0]) ∧ Below w.heap.size w w' := by
  have h := mod_any (BitVec.ofNat 64 k) a m w hm
  rw [U_of k (by omega)] at h
  exact h
theorem table_set {w : World} {g : Nat} {a m : W} {k : Nat} {t : TypeId} (h : blockIs w g (cellsW (laid a m k) 256) t) (hk : k < 256) : blockIs (w.setCell ⟨g, k, none⟩ (.int .u64 (U (tab a m k)))) g (cellsW (laid a m (k + 1)) 256) t := by
  have := h.set k (.int .u64 (U (tab a m k)))
  rwa [cellsW_set _ _ _ hk, laid_succ] at this

attribute [local go_sem] U_xor
set_option maxRecDepth 100000 in
set_option maxHeartbeats 2000000 in
theorem products_any (a m : W) (w : World) (hm0 : m ≠ 0) :
    Calls Tryd.prog 47 #[.int .u64 (U a), .int .u64 (U m)] w fun e w' => e = .returned (.agg (cellsW (tab a m) 256).toArray) ∧ Below w.heap.size w w' := by
  have HM0 := Lib.hid hm0
  clear hm0
  have hz := zero_products
  go_enter Tryd.func47, Tryd.ntmps47
  go_wp2_with fail
  have HS1 := Lib.hid (blockIs.last (w.alloc (.cells (noughts 256).toArray 106 (0, 0))) (noughts 256) 106 (w.heap.size + 1) (by simp))
  have HS2 := Lib.hid ((blockIs.new w (noughts 256) 106).alloc (.cells (noughts 256).toArray 106 (0, 0)))
  have HB := Lib.hid (((Below.refl w.heap.size w).alloc (Nat.le_refl _) (.cells (noughts 256).toArray 106 (0, 0))).alloc (by simp) (.cells (noughts 256).toArray 106 (0, 0)))
  go_loopw [6, 7, 8] (fun _ _ i wr => ∃ k : Nat, k ≤ 256 ∧ i = .int .i64 k ∧ Hid (blockIs wr (w.heap.size + 1) (cellsW (laid a m k) 256) 106) ∧ Hid (blockIs wr w.heap.size (noughts 256) 106) ∧ Hid (Below w.heap.size w wr)) (fun _ _ i _ => 256 - (intOf i).toNat)
  case atStart => exact ⟨0, by omega, rfl, Lib.hid (by rw [laid_zero, ← noughts_eq]; exact HS1.out), HS2, HB⟩
  case round =>
    obtain ⟨k, hk, rfl, K1, K2, K3⟩ := hrel
    clear HS1 HS2 HB hz
    have p0 : 0 ≤ (k : Int) := by omega
    by_cases hlt : k < 256
    · have q0 : (k : Int) < 256 := by omega
      have e1 : bits .and .i64 (k : Int) (-(k : Int)) = (lowb k : Int) := by
        have h1 := low_and ⟨k, hlt⟩
        have h2 : IntKind.i64.wrap (-(k : Int)) = -(k : Int) := by rw [IntKind.wrap_i64]; omega
        rw [← h2]; exact h1
      by_cases hl : lowb k = k
      · have t1 : ((k : Int) == (lowb k : Int)) = true := by rw [hl]; simp
        rw [hl] at e1 t1
        clear hl
        go_wp2_with fail
        refine (mod_k k a m wr hlt HM0.out).mono ?_
        rintro e w1 ⟨rfl, hb⟩
        have L1 := K1.out.below hb K1.out.lt
        have L2 := Lib.hid (K2.out.below hb K2.out.lt)
        have L3 := Lib.hid (K3.out.trans (hb.mono K3.out.size))
        have c0 : w1.cell? ⟨w.heap.size + 1, k, none⟩ = some (.int .u64 (U (laid a m k k))) := by rw [L1.cell, cellsW_get _ _ _ hlt]
        have f0 := L1.free k
        have N1 := Lib.hid (table_set L1 hlt)
        have N2 := Lib.hid (L2.out.other ⟨w.heap.size + 1, k, none⟩ (.int .u64 (U (tab a m k))) (by show w.heap.size ≠ w.heap.size + 1; omega))
        have N3 := Lib.hid (L3.out.setCell (p := ⟨w.heap.size + 1, k, none⟩) (by show w.heap.size ≤ w.heap.size + 1; omega) (.int .u64 (U (tab a m k))))
        clear hb L1 L2 L3 K1 K2 K3
        generalize laid a m k k = old at *
        go_wp2_with fail
        go_roundw
        case rel => exact ⟨k + 1, by omega, by go_num, N1, N2, N3⟩
        case measure => simp [intOf]; omega
      · obtain ⟨hl1, hl2⟩ : lowb k < k ∧ k ^^^ lowb k < k := low_lt ⟨k, hlt⟩ hl
        have t1 : ((k : Int) == (lowb k : Int)) = false := by simp; omega
        have e2 : bits .xor .i64 (k : Int) (lowb k : Int) = ((k ^^^ lowb k : Nat) : Int) := low_xor ⟨k, hlt⟩
        have HT := Lib.hid (tab_low a m HM0.out k hlt hl)
        have c1 : wr.cell? ⟨w.heap.size + 1, lowb k, none⟩ = some (.int .u64 (U (tab a m (lowb k)))) := by
          rw [K1.out.cell, cellsW_get _ _ _ (by omega)]
          unfold laid
          rw [if_pos hl1]
        have c2 : wr.cell? ⟨w.heap.size + 1, k ^^^ lowb k, none⟩ = some (.int .u64 (U (tab a m (k ^^^ lowb k)))) := by
          rw [K1.out.cell, cellsW_get _ _ _ (by omega)]
          unfold laid
          rw [if_pos hl2]
        have c3 : wr.cell? ⟨w.heap.size + 1, k, none⟩ = some (.int .u64 (U (laid a m k k))) := by rw [K1.out.cell, cellsW_get _ _ _ hlt]
        have f3 := K1.out.free k
        have N1 := Lib.hid (table_set K1.out hlt)
        rw [HT.out] at N1
        have N2 := Lib.hid (K2.out.other ⟨w.heap.size + 1, k, none⟩ (.int .u64 (U (tab a m (lowb k) ^^^ tab a m (k ^^^ lowb k)))) (by show w.heap.size ≠ w.heap.size + 1; omega))
        have N3 := Lib.hid (K3.out.setCell (p := ⟨w.heap.size + 1, k, none⟩) (by show w.heap.size ≤ w.heap.size + 1; omega) (.int .u64 (U (tab a m (lowb k) ^^^ tab a m (k ^^^ lowb k)))))
        have NS := Lib.hid (show w.heap.size ≤ (wr.setCell ⟨w.heap.size + 1, k, none⟩ (.int .u64 (U (tab a m (lowb k) ^^^ tab a m (k ^^^ lowb k))))).heap.size from N3.out.size)
        generalize hA : lowb k = A at *
        generalize hB : k ^^^ A = B at *
        generalize tab a m A = x at *
        generalize tab a m B = y at *
        generalize laid a m k k = old at *
        have i1 : 0 ≤ (A : Int) := by omega
        have i2 : (A : Int) < 256 := by omega
        have i3 : 0 ≤ (B : Int) := by omega
        have i4 : (B : Int) < 256 := by omega
        have HN : Hid (A ≠ k ∧ B ≠ k) := Lib.hid ⟨by omega, by omega⟩
        have hg : w.heap.size + 1 < wr.heap.size := K1.out.lt
        have hfz : ∀ (o : Array Value) (t : TypeId), (wr.alloc (.cells o t)).frozen? ⟨w.heap.size + 1, k, none⟩ = false := fun o t => by rw [frozen?_alloc_cells]; exact f3
        have HC0 : Hid ((wr.alloc (.cells #[.int .u64 (U x), .int .u64 (U y)] 38 (0, 0))).drew.cell? ⟨wr.heap.size, 0, none⟩ = some (.int .u64 (U x))) := Lib.hid ((World.cell?_alloc_at (w := wr) #[.int .u64 (U x), .int .u64 (U y)] 38 _ 0 rfl).trans rfl)
        have HC1 : Hid ((wr.alloc (.cells #[.int .u64 (U x), .int .u64 (U y)] 38 (0, 0))).drew.cell? ⟨wr.heap.size, 1, none⟩ = some (.int .u64 (U y))) := Lib.hid ((World.cell?_alloc_at (w := wr) #[.int .u64 (U x), .int .u64 (U y)] 38 _ 1 rfl).trans rfl)
        clear hA hB hl
        go_wp2_with fail
        go_region_law (first | (go_simp; go_at_call 57; refine (add_mem x y _ _ HC0.out HC1.out).mono ?_; rintro e w' ⟨rfl, rfl⟩))
        all_goals
          go_wp2_with fail
          go_roundw
          case rel => exact ⟨k + 1, by omega, by go_num, Lib.hid (N1.out.alloc _), Lib.hid (N2.out.alloc _), Lib.hid ((N3.out.alloc NS.out _).drew)⟩
          case measure => simp [intOf]; omega
    · obtain rfl : k = 256 := by omega
      rw [laid_all] at K1
      have K1' : blockIs wr (w.heap.size + 1) ([] ++ (cellsW (tab a m) 256 ++ [])) 106 := by simpa using K1.out
      have M1 : Hid (wr.rangeAt (w.heap.size + 1) 0 (cellsW (tab a m) 256)) := Lib.hid (rangeAt_block K1')
      clear K1 K1'
      have HL : Hid ((cellsW (tab a m) 256).length = 256) := Lib.hid (cellsW_length _ _)
      have HO := Lib.hid (cellsW_one (tab a m) 256)
      generalize hC : cellsW (tab a m) 256 = C at *
      have HC := Lib.hid hC
      clear hC
      go_wp2_with (first | (refine wpList_load_mid rfl 106 _ rfl (w.heap.size + 1) 0 rfl C _ M1.out Tryd.underlying106 rfl (by rw [info_products, HL.out]) ?_) | (refine wpList_store_block rfl 106 _ _ rfl w.heap.size 0 C rfl rfl (noughts 256) 106 K2.out (by rw [info_products, HL.out]) (by rw [HL.out]; simp [noughts]) HO.out ?_))
      intro w5 h1 h2 h3
      have h1 := h1.out
      rw [splice_all _ _ (by rw [HL.out]; simp [noughts])] at h1
      have H1 := Lib.hid h1
      have H2 := Lib.hid (K3.out.trans (h2.out.below (Nat.le_refl _) K3.out.size))
      clear h1 h2 h3
      go_wp2_with fail
      refine bodyPost_ret (v := .agg C.toArray) (results_cell_row rfl _ _ w.heap.size 106 _ (0, 0) _ rfl H1.out Tryd.underlying106 rfl (by rw [info_products]; simp [HL.out])) rfl ?_
      exact ⟨by rw [HC.out], H2.out⟩
end Go.Proofs.YtaohbpmefcdipaaDoor.Ct
