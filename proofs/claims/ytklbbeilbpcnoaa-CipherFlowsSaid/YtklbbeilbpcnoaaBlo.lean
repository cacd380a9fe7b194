/- cipher.Key.block: the block of a count. -/
import Derived.Test.YtklbbeilbpcnoaaLsz
namespace Go.Proofs.Ytklbbeilbpcnoaa
open Go.RowKit Sha Aes

/-- A number and another: the carry and the bytes behind k of its places, from the last one on. -/
def addSt (N : List UInt8) (n : Nat) : Nat → Nat × List UInt8
  | 0 => (n, N)
  | k + 1 => (((addSt N n k).1 + ((addSt N n k).2.getD (15 - k) 0).toNat) / 256, (addSt N n k).2.set (15 - k) (UInt8.ofNat ((addSt N n k).1 + ((addSt N n k).2.getD (15 - k) 0).toNat)))
def plus (N : List UInt8) (n : Nat) : List UInt8 := (addSt N n 16).2
theorem addSt_len (N : List UInt8) (n k : Nat) : (addSt N n k).2.length = N.length := by
  induction k with
  | zero => rfl
  | succ k ih => rw [addSt]; simp [ih]
theorem addSt_le (N : List UInt8) (n k : Nat) : (addSt N n k).1 ≤ n + 1 := by
  induction k with
  | zero => exact Nat.le_succ _
  | succ k ih =>
    rw [addSt]
    have := ((addSt N n k).2.getD (15 - k) 0).toNat_lt
    show ((addSt N n k).1 + _) / 256 ≤ _
    omega
theorem plus_len (N : List UInt8) (n : Nat) : (plus N n).length = N.length := addSt_len N n 16

set_option maxRecDepth 100000 in
set_option maxHeartbeats 4000000 in
theorem block_any (g : Nat) (ws : List W) (N : List UInt8) (n : Nat) (w : World) (hN : N.length = 16) (hn : n ≤ 36028797018963968) (hk : blockIs w g (keyRow ws) 59) :
    Calls Try.prog 32 #[.pointer (some ⟨g, 0, none⟩), .agg (byteCells N).toArray, .int .i64 n] w fun e w' => e = .returned (.agg (byteCells (Aes.turn ws (plus N n))).toArray) ∧ Below w.heap.size w w' := by
  have hz := zeroBlk
  have HNL := Lib.hid hN
  have HGL : Hid (g < w.heap.size) := Lib.hid hk.lt
  have D0 := Lib.hid (blockIs.new w (byteCells N) 23)
  have A0 := Lib.hid (alloc_below w (.cells (byteCells N).toArray 23 (0, 0)))
  have S0 : Hid ((w.alloc (.cells (byteCells N).toArray 23 (0, 0))).heap.size = w.heap.size + 1) := Lib.hid (by simp)
  have N1 := Lib.hid (blockIs.new (w.alloc (.cells (byteCells N).toArray 23 (0, 0))) (zeros 16) 23)
  have B1 := Lib.hid (alloc_below (w.alloc (.cells (byteCells N).toArray 23 (0, 0))) (.cells (zeros 16).toArray 23 (0, 0)))
  rw [S0.out] at N1 B1
  have D1 := Lib.hid (D0.out.below B1.out (Nat.lt_succ_self _))
  have A1 := Lib.hid (A0.out.trans (B1.out.mono (Nat.le_succ _)))
  have K1 := Lib.hid (hk.below A1.out hk.lt)
  have I1 : Hid (tout w g ws (addSt N n 0).2 ((w.alloc (.cells (byteCells N).toArray 23 (0, 0))).alloc (.cells (zeros 16).toArray 23 (0, 0)))) := Lib.hid ⟨A1.out, K1.out, D1.out, N1.out⟩
  clear D0 A0 S0 B1 D1 A1 K1 N1 hN hk
  have u1 : IntKind.u64.wrap (n : Int) = (n : Int) := IntWalk.u64_in _ (by omega)
  go_enter Try.func32, Try.ntmps32
  go_wp2_with fail
  generalize (w.alloc (.cells (byteCells N).toArray 23 (0, 0))).alloc (.cells (zeros 16).toArray 23 (0, 0)) = w2 at *
  clear hz u1
  go_loopw [8, 7] (fun i c wr => ∃ k : Nat, k ≤ 16 ∧ i = .int .i64 (15 - (k : Int)) ∧ c = .int .u64 ((addSt N n k).1 : Nat) ∧ tout w g ws (addSt N n k).2 wr) (fun i _ _ => (intOf i + 1).toNat)
  case atStart => exact ⟨0, by omega, rfl, rfl, I1.out⟩
  case round =>
    obtain ⟨k, hk, rfl, rfl, h1⟩ := hrel
    have H1 := Lib.hid h1
    clear h1
    by_cases hlt : k < 16
    · have q0 : 0 ≤ 15 - (k : Int) := by omega
      have q1 : 15 - (k : Int) < 16 := by omega
      have q2 : (15 - (k : Int)).toNat = 15 - k := by omega
      have HLE := Lib.hid (addSt_le N n k)
      have HLN : Hid ((addSt N n k).2.length = 16) := Lib.hid (by rw [addSt_len, HNL.out])
      have HS : Hid (addSt N n (k + 1) = (((addSt N n k).1 + ((addSt N n k).2.getD (15 - k) 0).toNat) / 256, (addSt N n k).2.set (15 - k) (UInt8.ofNat ((addSt N n k).1 + ((addSt N n k).2.getD (15 - k) 0).toNat)))) := Lib.hid rfl
      generalize (addSt N n k).1 = c at *
      generalize (addSt N n k).2 = l at *
      obtain ⟨b, hb⟩ : ∃ b, b = l.getD (15 - k) 0 := ⟨_, rfl⟩
      have d1 : wr.cell? ⟨w.heap.size, 15 - k, none⟩ = some (.int .u8 (V b)) := by rw [H1.out.2.2.1.cell, hb]; exact byteCells_get l _ (by rw [HLN.out]; omega)
      rw [← hb] at HS
      clear hb
      have b0 := b.toNat_lt
      have le := HLE.out
      obtain ⟨s, hs⟩ : ∃ s, s = c + b.toNat := ⟨_, rfl⟩
      have v1 : IntKind.u64.wrap (V b) = V b := IntWalk.u64_in _ (by unfold V; omega)
      have v2 : IntKind.u64.wrap ((c : Int) + V b) = (s : Int) := by rw [IntWalk.u64_in _ (by unfold V; omega)]; unfold V; omega
      have v3 : IntKind.u8.wrap (s : Int) = V (UInt8.ofNat s) := by rw [IntKind.wrap_u8', V_ofNat]; omega
      rw [← hs] at HS
      have hs2 : s < 72057594037927936 := by omega
      clear hs b0 le
      generalize UInt8.ofNat s = y at *
      go_wp2_with (refine wpList_store_cell rfl 5 _ _ rfl w.heap.size (15 - k) (.int .u8 (V y)) rfl rfl (byteCells l) 23 H1.out.2.2.1 (by rw [byteCells_length, HLN.out]; omega) (by kernel_rfl) rfl rfl ?_)
      intro w3 h1 h2 h3
      have h1 := h1.out
      rw [byteCells_set] at h1
      have T3 := Lib.hid (tout.but H1.out h2.out HGL.out h1)
      clear h1 h2 h3 d1 v1 v2 v3
      have s0 : (0 : Int) ≤ (s : Int) := by omega
      have v4 : (s : Int).fdiv (2 ^ min (Int.toNat 8) IntKind.u64.bits) = ((s / 256 : Nat) : Int) := by rw [Int.fdiv_eq_ediv_of_nonneg _ (by decide)]; show (s : Int) / 256 = _; omega
      have v5 : IntKind.i64.wrap (15 - (k : Int) - 1) = 15 - ((k + 1 : Nat) : Int) := by rw [IntWalk.i64_in _ (by omega)]; omega
      go_wp2_with fail
      go_roundw
      case rel => exact ⟨k + 1, by omega, rfl, by rw [HS.out]; first | rfl | simp, by rw [HS.out]; exact T3.out⟩
      case measure => simp [intOf]; omega
    · obtain rfl : k = 16 := by omega
      have HP : Hid ((addSt N n 16).2 = plus N n) := Lib.hid rfl
      rw [HP.out] at H1
      clear HP
      have HPL : Hid ((plus N n).length = 16) := Lib.hid (by rw [plus_len, HNL.out])
      generalize hM : plus N n = M at *
      have HM := Lib.hid hM
      clear hM
      have HT := Lib.hid (turn_any g ws M wr HPL.out H1.out.2.1)
      have HML : Hid ((byteCells M).length = 16) := Lib.hid (by rw [byteCells_length, HPL.out])
      have HOL : Hid ((byteCells (Aes.turn ws M)).length = 16) := Lib.hid (by rw [byteCells_length]; rfl)
      have HO1 := Lib.hid (byteCells_one (Aes.turn ws M))
      have R1 := Lib.hid (range_of H1.out.2.2.1)
      generalize hLT : byteCells (Aes.turn ws M) = LT at *
      have HLT := Lib.hid hLT
      clear hLT
      generalize byteCells M = LM at *
      go_wp2_with (refine wpList_load_mid rfl 23 _ rfl w.heap.size 0 rfl LM _ R1.out Try.underlying23 rfl (by rw [infoBlk, HML.out]) ?_)
      with_reducible refine HT.out.mono ?_
      rintro e w4 ⟨rfl, kk⟩
      have G4 := Lib.hid (H1.out.2.2.2.below kk H1.out.2.2.2.lt)
      have B4 := Lib.hid (H1.out.1.trans (kk.mono H1.out.1.size))
      clear kk HT
      go_wp2_with (refine wpList_store_block rfl 23 _ _ rfl (w.heap.size + 1) 0 LT rfl rfl (zeros 16) 23 G4.out (by rw [infoBlk, HOL.out]) (by rw [HOL.out]; decide) HO1.out ?_)
      intro w9 h1 h2 h3
      have h1 := h1.out
      rw [splice_all _ _ (by rw [HOL.out]; rfl)] at h1
      have F1 := Lib.hid h1
      have F2 := Lib.hid (B4.out.trans (h2.out.below (Nat.le_succ _) B4.out.size))
      clear h1 h2 h3
      go_wp2_with fail
      refine bodyPost_ret (v := .agg LT.toArray) (results_cell_row rfl _ _ (w.heap.size + 1) 23 _ (0, 0) _ rfl F1.out Try.underlying23 rfl (by rw [infoBlk]; simp [HOL.out])) rfl ?_
      exact ⟨by rw [HM.out, HLT.out], F2.out⟩
end Go.Proofs.Ytklbbeilbpcnoaa
