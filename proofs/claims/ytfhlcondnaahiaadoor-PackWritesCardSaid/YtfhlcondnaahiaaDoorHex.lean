/- sum.Text and the document's own Text: a sum as digits. -/
import Derived.Test.YtfhlcondnaahiaaDoorHc
namespace Go.Proofs.YtfhlcondnaahiaaDoor
open Go.RowKit Sha

def digs : List UInt8 := [48, 49, 50, 51, 52, 53, 54, 55, 56, 57, 97, 98, 99, 100, 101, 102]
def dg (n : Nat) : UInt8 := digs.getD n 0
def hex2 (b : UInt8) : List UInt8 := [dg (b.toNat / 16), dg (b.toNat % 16)]
def hexL (l : List UInt8) : List UInt8 := l.flatMap hex2
theorem hexL_length (l : List UInt8) : (hexL l).length = 2 * l.length := by
  induction l with
  | nil => rfl
  | cons x l ih =>
    have e : (hexL (x :: l)).length = 2 + (hexL l).length := by simp [hexL, hex2]; omega
    rw [e, ih, List.length_cons]
    omega
theorem hexL_get (l : List UInt8) (k : Nat) (h : k < l.length) : (hexL l).getD (2 * k) 0 = dg ((l.getD k 0).toNat / 16) ∧ (hexL l).getD (2 * k + 1) 0 = dg ((l.getD k 0).toNat % 16) := by
  induction l generalizing k with
  | nil => simp at h
  | cons x l ih =>
    cases k with
    | zero => exact ⟨rfl, rfl⟩
    | succ k =>
      have := ih k (by simpa using h)
      rw [show 2 * (k + 1) = 2 * k + 1 + 1 by omega]
      simpa [hexL, hex2] using this
theorem hexL_take (l : List UInt8) (k : Nat) (h : k < l.length) : hexL (l.take k) ++ [dg ((l.getD k 0).toNat / 16), dg ((l.getD k 0).toNat % 16)] = hexL (l.take (k + 1)) := by
  unfold hexL
  rw [List.take_succ_eq_append_getElem h, List.flatMap_append]
  congr 1
  simp [hex2, h]
def hxF (l : List UInt8) (k j : Nat) : UInt8 := if j < 2 * k then (hexL l).getD j 0 else 0
theorem hxF_zero (l : List UInt8) : zeros 64 = cells8 (hxF l 0) 64 := by
  apply List.ext_getElem?
  intro i
  by_cases hi : i < 64
  · rw [cells8_get _ _ _ hi]
    unfold hxF
    rw [if_neg (by omega)]
    unfold zeros
    rw [List.getElem?_replicate, if_pos hi]
    rfl
  · rw [List.getElem?_eq_none (by simp [zeros]; omega), List.getElem?_eq_none (by rw [cells8_length]; omega)]
theorem hxF_succ (l : List UInt8) (k : Nat) (h : k < 32) (hl : l.length = 32) :
    ((cells8 (hxF l k) 64).set (2 * k) (.int .u8 (V (dg ((l.getD k 0).toNat / 16))))).set (2 * k + 1) (.int .u8 (V (dg ((l.getD k 0).toNat % 16)))) = cells8 (hxF l (k + 1)) 64 := by
  obtain ⟨e0, e1⟩ := hexL_get l k (by omega)
  rw [← e0, ← e1, cells8_set _ _ _ (by omega), cells8_set _ _ _ (by omega)]
  congr 1
  funext j
  unfold hxF
  by_cases h1 : j = 2 * k + 1
  · rw [if_pos h1, if_pos (by omega), h1]
  · rw [if_neg h1]
    by_cases h0 : j = 2 * k
    · rw [if_pos h0, if_pos (by omega), h0]
    · rw [if_neg h0]
      by_cases h2 : j < 2 * k
      · rw [if_pos h2, if_pos (by omega)]
      · rw [if_neg h2, if_neg (by omega)]
theorem hxF_all (l : List UInt8) (hl : l.length = 32) : cells8 (hxF l 32) 64 = byteCells (hexL l) := by
  have hh := hexL_length l
  apply List.ext_getElem?
  intro i
  by_cases hi : i < 64
  · rw [cells8_get _ _ _ hi, byteCells_get _ _ (by omega)]
    unfold hxF
    rw [if_pos (by omega)]
  · rw [List.getElem?_eq_none (by rw [cells8_length]; omega), List.getElem?_eq_none (by rw [byteCells_length]; omega)]
theorem V_div (x : UInt8) : V x / 16 = ((x.toNat / 16 : Nat) : Int) := by unfold V; omega
theorem V_and (x : UInt8) : bits .and .u8 (V x) 15 = ((x.toNat % 16 : Nat) : Int) := by
  have : bits .and .u8 (V x) (V 15) = V (x &&& 15) := by
    unfold V; rw [u8_and_nat _ _ x.toNat_lt (15 : UInt8).toNat_lt, UInt8.toNat_and]
  rw [show (15 : Int) = V 15 from rfl, this]
  unfold V
  rw [UInt8.toNat_and, show (15 : UInt8).toNat = 2 ^ 4 - 1 from rfl, Nat.and_two_pow_sub_one_eq_mod]
theorem index_dig (n : Nat) (h : n < 16) (k : IntKind) (w : World) : (Instr.index 9 (.string { data := #[48, 49, 50, 51, 52, 53, 54, 55, 56, 57, 97, 98, 99, 100, 101, 102] }) (.int k (n : Int))).run Tryd.prog w = .ok (.int .u8 (V (dg n))) w := by
  rw [run_index_string w 9 _ k (n : Int) Tryd.underlying9]
  rw [dif_pos ⟨by omega, by show (n : Int) < 16; omega⟩]
  have hn : n = 0 ∨ n = 1 ∨ n = 2 ∨ n = 3 ∨ n = 4 ∨ n = 5 ∨ n = 6 ∨ n = 7 ∨ n = 8 ∨ n = 9 ∨ n = 10 ∨ n = 11 ∨ n = 12 ∨ n = 13 ∨ n = 14 ∨ n = 15 := by omega
  rcases hn with rfl | rfl | rfl | rfl | rfl | rfl | rfl | rfl | rfl | rfl | rfl | rfl | rfl | rfl | rfl | rfl
  all_goals rfl

set_option maxRecDepth 100000 in
set_option maxHeartbeats 2000000 in
theorem stext_any (l : List UInt8) (w : World) (hl : l.length = 32) :
    Calls Tryd.prog 27 #[.agg (byteCells l).toArray] w fun e w' => e = .returned (.string (str (hexL l))) ∧ Below w.heap.size w w' := by
  have hz48 := zero48
  have HL := Lib.hid hl
  have R0 := Lib.hid (range_of ((blockIs.new w (byteCells l) 23).alloc (.cells (zeros 64).toArray 108 (0, 0))))
  have G0 := Lib.hid (blockIs.last (w.alloc (.cells (byteCells l).toArray 23 (0, 0))) (zeros 64) 108 (w.heap.size + 1) (by simp))
  have B0 : Hid (Below w.heap.size w ((w.alloc (.cells (byteCells l).toArray 23 (0, 0))).alloc (.cells (zeros 64).toArray 108 (0, 0)))) := Lib.hid ((alloc_below w _).alloc (by simp) _)
  have S0 : Hid (w.heap.size + 1 < ((w.alloc (.cells (byteCells l).toArray 23 (0, 0))).alloc (.cells (zeros 64).toArray 108 (0, 0))).heap.size) := Lib.hid G0.out.lt
  clear hl
  go_enter Tryd.func27, Tryd.ntmps27
  go_wp2_with (refine wpList_load_mid rfl 23 _ rfl w.heap.size 0 rfl (byteCells l) _ R0.out Tryd.underlying23 rfl (by rw [info28, byteCells_length, HL.out]) ?_)
  have G0 := Lib.hid (show blockIs _ _ (cells8 (hxF l 0) 64) 108 by rw [← hxF_zero]; exact G0.out)
  go_wp2_with fail
  generalize (w.alloc (.cells (byteCells l).toArray 23 (0, 0))).alloc (.cells (zeros 64).toArray 108 (0, 0)) = w1 at *
  clear hz48 R0
  go_loopw [7, 4, 5] (fun i _ _ wr => ∃ k : Nat, k ≤ 32 ∧ i = .int .i64 (k : Int) ∧ Hid (blockIs wr (w.heap.size + 1) (cells8 (hxF l k) 64) 108) ∧ Hid (Below w.heap.size w wr)) (fun i _ _ _ => 32 - (intOf i).toNat)
  case atStart => exact ⟨0, by omega, rfl, G0, B0⟩
  case round =>
    clear G0 B0
    obtain ⟨k, hk, rfl, G0, B0⟩ := hrel
    by_cases hlt : k < 32
    · have c1 : wr.cell? ⟨w.heap.size + 1, 2 * k, none⟩ = some (.int .u8 (V (hxF l k (2 * k)))) := by rw [G0.out.cell]; exact cells8_get _ _ _ (by omega)
      have c2 : wr.cell? ⟨w.heap.size + 1, 2 * k + 1, none⟩ = some (.int .u8 (V (hxF l k (2 * k + 1)))) := by rw [G0.out.cell]; exact cells8_get _ _ _ (by omega)
      have f1 : wr.frozen? ⟨w.heap.size + 1, 2 * k, none⟩ = false := G0.out.free _
      have f2 : wr.frozen? ⟨w.heap.size + 1, 2 * k + 1, none⟩ = false := G0.out.free _
      have ix : ∀ wx, (Instr.index 23 (.agg (byteCells l).toArray) (.int .i64 (k : Int))).run Tryd.prog wx = .ok (.int .u8 (V (l.getD k 0))) wx :=
        fun wx => run_index_agg Tryd.underlying23 (by kernel_rfl) (by kernel_rfl) (by kernel_rfl) hlt (by rw [List.getElem?_toArray]; exact byteCells_get _ _ (by rw [HL.out]; omega)) wx
      have N1 := Lib.hid ((G0.out.set (2 * k) (.int .u8 (V (dg ((l.getD k 0).toNat / 16))))).set (2 * k + 1) (.int .u8 (V (dg ((l.getD k 0).toNat % 16)))))
      rw [hxF_succ l k hlt HL.out] at N1
      have N2 : Hid (Below w.heap.size w ((wr.setCell ⟨w.heap.size + 1, 2 * k, none⟩ (.int .u8 (V (dg ((l.getD k 0).toNat / 16))))).setCell ⟨w.heap.size + 1, 2 * k + 1, none⟩ (.int .u8 (V (dg ((l.getD k 0).toNat % 16)))))) := Lib.hid ((B0.out.setCell (by simp) _).setCell (by simp) _)
      have p : 0 ≤ (k : Int) := by omega
      have q : (k : Int) < 32 := by omega
      have x1 := V_div (l.getD k 0)
      have x2 := V_and (l.getD k 0)
      have d1 := index_dig ((l.getD k 0).toNat / 16) (by have := (l.getD k 0).toNat_lt; omega) .u8
      have d2 := index_dig ((l.getD k 0).toNat % 16) (by omega) .u8
      have i0 : IntKind.i64.wrap (2 * (k : Int)) = 2 * (k : Int) := IntWalk.i64_in _ (by omega)
      have i1 : IntKind.i64.wrap (2 * (k : Int) + 1) = 2 * (k : Int) + 1 := IntWalk.i64_in _ (by omega)
      have n0 : (2 * (k : Int)).toNat = 2 * k := by omega
      have n1 : (2 * (k : Int) + 1).toNat = 2 * k + 1 := by omega
      have p0 : 0 ≤ 2 * (k : Int) := by omega
      have p1 : 0 ≤ 2 * (k : Int) + 1 := by omega
      have q0 : 2 * (k : Int) < 64 := by omega
      have q1 : 2 * (k : Int) + 1 < 64 := by omega
      clear G0 B0
      generalize (l.getD k 0).toNat / 16 = hi at *
      generalize (l.getD k 0).toNat % 16 = lo at *
      generalize l.getD k 0 = x at *
      go_wp2_with fail
      go_region_law (go_simp)
      all_goals
        go_wp2_with fail
        go_roundw
        case rel => exact ⟨k + 1, by omega, by go_num, Lib.hid (N1.out.drewN 1), Lib.hid (below_drewN' N2.out 1)⟩
        case measure => simp [intOf]; omega
    · obtain rfl : k = 32 := by omega
      rw [show ((32 : Nat) : Int) = 32 from rfl]
      rw [hxF_all l HL.out] at G0
      have hin : bytesIn wr (some ⟨w.heap.size + 1, 0, none⟩) (hexL l) := Or.inr ⟨_, _, rfl, fun j hj => by rw [Nat.zero_add, G0.out.cell]; exact byteCells_get _ _ hj⟩
      have hcv := conv_string wr (some ⟨w.heap.size + 1, 0, none⟩) (hexL l) 64 hin
      rw [hexL_length, HL.out] at hcv
      clear hin G0
      go_wp2_with fail
      go_ret
      exact ⟨rfl, B0.out⟩

set_option maxRecDepth 100000 in
set_option maxHeartbeats 2000000 in
theorem rtext_any (l : List UInt8) (w : World) (hl : l.length ≤ 1000) :
    Calls Tryd.prog 40 #[.string (str l)] w fun e w' => e = .returned (.string (str (hexL l))) ∧ Below w.heap.size w w' := by
  have hsz := str_size l
  have RE := Lib.hid (rowM.empty w w.heap.size)
  have BS := Lib.hid (Below.refl w.heap.size w)
  go_enter Tryd.func40, Tryd.ntmps40
  go_wp2_with fail
  go_loopw [4, 5] (fun v i wr => ∃ k : Nat, k ≤ l.length ∧ i = .int .i64 (k : Int) ∧ Hid (rowM wr w.heap.size v (hexL (l.take k))) ∧ Hid (Below w.heap.size w wr)) (fun _ i _ => l.length - (intOf i).toNat)
  case atStart => exact ⟨0, by omega, rfl, RE, BS⟩
  case round =>
    clear RE BS
    obtain ⟨k, hk, rfl, RE, BS⟩ := hrel
    by_cases hlt : k < l.length
    · have p : 0 ≤ (k : Int) := by omega
      have q : (k : Int) < (l.length : Int) := by omega
      have ix := index_str l k hlt
      have hot := Lib.hid (hexL_take l k hlt)
      have hlen : Hid ((hexL (l.take k)).length ≤ 2000) := Lib.hid (by rw [hexL_length, List.length_take]; omega)
      have x1 := V_div (l.getD k 0)
      have x2 : V (l.getD k 0) % 16 = (((l.getD k 0).toNat % 16 : Nat) : Int) := by unfold V; omega
      have d1 := index_dig ((l.getD k 0).toNat / 16) (by have := (l.getD k 0).toNat_lt; omega) .u8
      have d2 := index_dig ((l.getD k 0).toNat % 16) (by omega) .u8
      have p2 := V_nonneg (l.getD k 0)
      have y1 : (V (l.getD k 0)).tdiv 16 = (((l.getD k 0).toNat / 16 : Nat) : Int) := by rw [Int.tdiv_eq_ediv_of_nonneg p2]; exact x1
      have y2 : (V (l.getD k 0)).tmod 16 = (((l.getD k 0).toNat % 16 : Nat) : Int) := by rw [Int.tmod_eq_emod_of_nonneg p2]; exact x2
      have z1 : IntKind.u8.wrap (((l.getD k 0).toNat / 16 : Nat) : Int) = (((l.getD k 0).toNat / 16 : Nat) : Int) := by rw [IntKind.wrap_u8']; have := (l.getD k 0).toNat_lt; omega
      have z2 : IntKind.u8.wrap (((l.getD k 0).toNat % 16 : Nat) : Int) = (((l.getD k 0).toNat % 16 : Nat) : Int) := by rw [IntKind.wrap_u8']; omega
      generalize (l.getD k 0).toNat / 16 = hi at *
      generalize (l.getD k 0).toNat % 16 = lo at *
      generalize l.getD k 0 = x at *
      generalize hexL (l.take k) = M4 at *
      have R2 := Lib.hid (RE.out.below (drew_alloc_below wr (.cells #[.int .u8 (V (dg hi)), .int .u8 (V (dg lo))] 5 (0, 0))) (Nat.le_refl _))
      have B2 : Hid (Below w.heap.size w (wr.drew.alloc (.cells #[.int .u8 (V (dg hi)), .int .u8 (V (dg lo))] 5 (0, 0)))) := Lib.hid ((below_drewN' BS.out 1).alloc BS.out.size _)
      have I2 := Lib.hid (lit_in wr.drew [dg hi, dg lo] #[.int .u8 (V (dg hi)), .int .u8 (V (dg lo))] rfl)
      go_wp2_with fail
      go_region_held3 (fun _ => True) (trivial)
        (first | (refine step_appendM_if rfl _ _ rfl w.heap.size _ M4 rfl R2.out _ 2 2 [dg hi, dg lo] rfl rfl (by simp) I2.out (by have := hlen.out; simp; omega) B2.out.size ?_
                  intro v3 w3 h1 h2
                  have h2 := R2.out.grown h2 B2.out.size
                  rw [hot.out] at h1
                  have R3 := Lib.hid h1
                  have B3 := Lib.hid (B2.out.trans h2)
                  clear h1 h2))
      all_goals
        go_wp2_with fail
        go_roundw
        case rel => exact ⟨k + 1, by omega, by go_num, R3, B3⟩
        case measure => simp [intOf]; omega
    · obtain rfl : k = l.length := by omega
      have RE := RE.out
      rw [List.take_length] at RE
      obtain ⟨a3, c3, rfl, -, -, hin, -, -⟩ := RE.bytes
      have hcs := conv_string wr a3 (hexL l) c3 hin
      clear RE hin
      go_wp2_with fail
      go_ret
      exact ⟨rfl, BS.out⟩
end Go.Proofs.YtfhlcondnaahiaaDoor
