/- sum.Text and the document's own Text: a sum as digits. -/
import Derived.Test.YtfhlcondnaahiaaDoorHc
namespace Go.Proofs.YtfhlcondnaahiaaDoor
open Go.RowKit Sha

def digs : List UInt8 := [48, 49, 50, 51, 52, 53, 54, 55, 56, 57, 97, 98, 99, 100, 101, 102]
def dg (n : Nat) : UInt8 := digs.getD n 0
def hex2 (b : UInt8) : List UInt8 := [dg (b.toNat / 16), dg (b.toNat % 16)]
def hexL (l : List UInt8) : List UInt8 := l.flatMap hex2
theorem hexL_length (l : List UInt8) : (hexL l).length = 2 * l.length := by
  induction l with
  | nil => rfl
  | cons x l ih =>
    have e : (hexL (x :: l)).length = 2 + (hexL l).length := by simp [hexL, hex2]; omega
    rw [e, ih, List.length_cons]
    omega
theorem hexL_get (l : List UInt8) (k : Nat) (h : k < l.length) : (hexL l).getD (2 * k) 0 = dg ((l.getD k 0).toNat / 16) ∧ (hexL l).getD (2 * k + 1) 0 = dg ((l.getD k 0).toNat % 16) := by
  induction l generalizing k with
  | nil => simp at h
  | cons x l ih =>
    cases k with
    | zero => exact ⟨rfl, rfl⟩
    | succ k =>
      have := ih k (by simpa using h)
      rw [show 2 * (k + 1) = 2 * k + 1 + 1 by omega]
      simpa [hexL, hex2] using this
def hxF (l : List UInt8) (k j : Nat) : UInt8 := if j < 2 * k then (hexL l).getD j 0 else 0
theorem hxF_zero (l : List UInt8) : zeros 64 = cells8 (hxF l 0) 64 := by
  apply List.ext_getElem?
  intro i
  by_cases hi : i < 64
  · rw [cells8_get _ _ _ hi]
    unfold hxF
    rw [if_neg (by omega)]
    unfold zeros
    rw [List.getElem?_replicate, if_pos hi]
    rfl
  · rw [List.getElem?_eq_none (by simp [zeros]; omega), List.getElem?_eq_none (by rw [cells8_length]; omega)]
theorem hxF_succ (l : List UInt8) (k : Nat) (h : k < 32) (hl : l.length = 32) :
    ((cells8 (hxF l k) 64).set (2 * k) (.int .u8 (V (dg ((l.getD k 0).toNat / 16))))).set (2 * k + 1) (.int .u8 (V (dg ((l.getD k 0).toNat % 16)))) = cells8 (hxF l (k + 1)) 64 := by
  obtain ⟨e0, e1⟩ := hexL_get l k (by omega)
  rw [← e0, ← e1, cells8_set _ _ _ (by omega), cells8_set _ _ _ (by omega)]
  congr 1
  funext j
  unfold hxF
  by_cases h1 : j = 2 * k + 1
  · rw [if_pos h1, if_pos (by omega), h1]
  · rw [if_neg h1]
    by_cases h0 : j = 2 * k
    · rw [if_pos h0, if_pos (by omega), h0]
    · rw [if_neg h0]
      by_cases h2 : j < 2 * k
      · rw [if_pos h2, if_pos (by omega)]
      · rw [if_neg h2, if_neg (by omega)]
theorem hxF_all (l : List UInt8) (hl : l.length = 32) : cells8 (hxF l 32) 64 = byteCells (hexL l) := by
  have hh := hexL_length l
  apply List.ext_getElem?
  intro i
  by_cases hi : i < 64
  · rw [cells8_get _ _ _ hi, byteCells_get _ _ (by omega)]
    unfold hxF
    rw [if_pos (by omega)]
  · rw [List.getElem?_eq_none (by rw [cells8_length]; omega), List.getElem?_eq_none (by rw [byteCells_length]; omega)]
theorem V_div (x : UInt8) : V x / 16 = ((x.toNat / 16 : Nat) : Int) := by unfold V; omega
theorem V_and (x : UInt8) : bits .and .u8 (V x) 15 = ((x.toNat % 16 : Nat) : Int) := by
  have : bits .and .u8 (V x) (V 15) = V (x &&& 15) := by
    unfold V; rw [u8_and_nat _ _ x.toNat_lt (15 : UInt8).toNat_lt, UInt8.toNat_and]
  rw [show (15 : Int) = V 15 from rfl, this]
  unfold V
  rw [UInt8.toNat_and, show (15 : UInt8).toNat = 2 ^ 4 - 1 from rfl, Nat.and_two_pow_sub_one_eq_mod]
theorem index_dig (n : Nat) (h : n < 16) (k : IntKind) (w : World) : (Instr.index 9 (.string { data := #[48, 49, 50, 51, 52, 53, 54, 55, 56, 57, 97, 98, 99, 100, 101, 102] }) (.int k (n : Int))).run Tryd.prog w = .ok (.int .u8 (V (dg n))) w := by
  rw [run_index_string w 9 _ k (n : Int) Tryd.underlying9]
  rw [dif_pos ⟨by omega, by show (n : Int) < 16; omega⟩]
  have hn : n = 0 ∨ n = 1 ∨ n = 2 ∨ n = 3 ∨ n = 4 ∨ n = 5 ∨ n = 6 ∨ n = 7 ∨ n = 8 ∨ n = 9 ∨ n = 10 ∨ n = 11 ∨ n = 12 ∨ n = 13 ∨ n = 14 ∨ n = 15 := by omega
  rcases hn with rfl | rfl | rfl | rfl | rfl | rfl | rfl | rfl | rfl | rfl | rfl | rfl | rfl | rfl | rfl | rfl
  all_goals rfl

set_option maxRecDepth 100000 in
set_option maxHeartbeats 2000000 in
theorem stext_any (l : List UInt8) (w : World) (hl : l.length = 32) :
    Calls Tryd.prog 27 #[.agg (byteCells l).toArray] w fun e w' => e = .returned (.string (str (hexL l))) ∧ Below w.heap.size w w' := by
  have hz48 := zero48
  have HL := Lib.hid hl
  have R0 := Lib.hid (range_of ((blockIs.new w (byteCells l) 23).alloc (.cells (zeros 64).toArray 108 (0, 0))))
  have G0 := Lib.hid (blockIs.last (w.alloc (.cells (byteCells l).toArray 23 (0, 0))) (zeros 64) 108 (w.heap.size + 1) (by simp))
  have B0 : Hid (Below w.heap.size w ((w.alloc (.cells (byteCells l).toArray 23 (0, 0))).alloc (.cells (zeros 64).toArray 108 (0, 0)))) := Lib.hid ((alloc_below w _).alloc (by simp) _)
  have S0 : Hid (w.heap.size + 1 < ((w.alloc (.cells (byteCells l).toArray 23 (0, 0))).alloc (.cells (zeros 64).toArray 108 (0, 0))).heap.size) := Lib.hid G0.out.lt
  clear hl
  go_enter Tryd.func27, Tryd.ntmps27
  go_wp2_with (refine wpList_load_mid rfl 23 _ rfl w.heap.size 0 rfl (byteCells l) _ R0.out Tryd.underlying23 rfl (by rw [info28, byteCells_length, HL.out]) ?_)
  have G0 := Lib.hid (show blockIs _ _ (cells8 (hxF l 0) 64) 108 by rw [← hxF_zero]; exact G0.out)
  go_wp2_with fail
  generalize (w.alloc (.cells (byteCells l).toArray 23 (0, 0))).alloc (.cells (zeros 64).toArray 108 (0, 0)) = w1 at *
  clear hz48 R0
  go_loopw [7, 4, 5] (fun i _ _ wr => ∃ k : Nat, k ≤ 32 ∧ i = .int .i64 (k : Int) ∧ Hid (blockIs wr (w.heap.size + 1) (cells8 (hxF l k) 64) 108) ∧ Hid (Below w.heap.size w wr)) (fun i _ _ _ => 32 - (intOf i).toNat)
  case atStart => exact ⟨0, by omega, rfl, G0, B0⟩
  case round =>
    clear G0 B0
    obtain ⟨k, hk, rfl, G0, B0⟩ := hrel
    by_cases hlt : k < 32
    · have c1 : wr.cell? ⟨w.heap.size + 1, 2 * k, none⟩ = some (.int .u8 (V (hxF l k (2 * k)))) := by rw [G0.out.cell]; exact cells8_get _ _ _ (by omega)
      have c2 : wr.cell? ⟨w.heap.size + 1, 2 * k + 1, none⟩ = some (.int .u8 (V (hxF l k (2 * k + 1)))) := by rw [G0.out.cell]; exact cells8_get _ _ _ (by omega)
      have f1 : wr.frozen? ⟨w.heap.size + 1, 2 * k, none⟩ = false := G0.out.free _
      have f2 : wr.frozen? ⟨w.heap.size + 1, 2 * k + 1, none⟩ = false := G0.out.free _
      have ix : ∀ wx, (Instr.index 23 (.agg (byteCells l).toArray) (.int .i64 (k : Int))).run Tryd.prog wx = .ok (.int .u8 (V (l.getD k 0))) wx :=
        fun wx => run_index_agg Tryd.underlying23 (by kernel_rfl) (by kernel_rfl) (by kernel_rfl) hlt (by rw [List.getElem?_toArray]; exact byteCells_get _ _ (by rw [HL.out]; omega)) wx
      have N1 := Lib.hid ((G0.out.set (2 * k) (.int .u8 (V (dg ((l.getD k 0).toNat / 16))))).set (2 * k + 1) (.int .u8 (V (dg ((l.getD k 0).toNat % 16)))))
      rw [hxF_succ l k hlt HL.out] at N1
      have N2 : Hid (Below w.heap.size w ((wr.setCell ⟨w.heap.size + 1, 2 * k, none⟩ (.int .u8 (V (dg ((l.getD k 0).toNat / 16))))).setCell ⟨w.heap.size + 1, 2 * k + 1, none⟩ (.int .u8 (V (dg ((l.getD k 0).toNat % 16)))))) := Lib.hid ((B0.out.setCell (by simp) _).setCell (by simp) _)
      have p : 0 ≤ (k : Int) := by omega
      have q : (k : Int) < 32 := by omega
      have x1 := V_div (l.getD k 0)
      have x2 := V_and (l.getD k 0)
      have d1 := index_dig ((l.getD k 0).toNat / 16) (by have := (l.getD k 0).toNat_lt; omega) .u8
      have d2 := index_dig ((l.getD k 0).toNat % 16) (by omega) .u8
      have i0 : IntKind.i64.wrap (2 * (k : Int)) = 2 * (k : Int) := IntWalk.i64_in _ (by omega)
      have i1 : IntKind.i64.wrap (2 * (k : Int) + 1) = 2 * (k : Int) + 1 := IntWalk.i64_in _ (by omega)
      have n0 : (2 * (k : Int)).toNat = 2 * k := by omega
      have n1 : (2 * (k : Int) + 1).toNat = 2 * k + 1 := by omega
      have p0 : 0 ≤ 2 * (k : Int) := by omega
      have p1 : 0 ≤ 2 * (k : Int) + 1 := by omega
      have q0 : 2 * (k : Int) < 64 := by omega
      have q1 : 2 * (k : Int) + 1 < 64 := by omega
      clear G0 B0
      generalize (l.getD k 0).toNat / 16 = hi at *
      generalize (l.getD k 0).toNat % 16 = lo at *
      generalize l.getD k 0 = x at *
      go_wp2_with fail
      go_region_law (go_simp)
      all_goals
        go_wp2_with fail
        go_roundw
        case rel => exact ⟨k + 1, by omega, by go_num, Lib.hid (N1.out.drewN 1), Lib.hid (below_drewN' N2.out 1)⟩
        case measure => simp [intOf]; omega
    · obtain rfl : k = 32 := by omega
      rw [show ((32 : Nat) : Int) = 32 from rfl]
      rw [hxF_all l HL.out] at G0
      have hin : bytesIn wr (some ⟨w.heap.size + 1, 0, none⟩) (hexL l) := Or.inr ⟨_, _, rfl, fun j hj => by rw [Nat.zero_add, G0.out.cell]; exact byteCells_get _ _ hj⟩
      have hcv := conv_string wr (some ⟨w.heap.size + 1, 0, none⟩) (hexL l) 64 hin
      rw [hexL_length, HL.out] at hcv
      clear hin G0
      go_wp2_with fail
      go_ret
      exact ⟨rfl, B0.out⟩

end Go.Proofs.YtfhlcondnaahiaaDoor
