/- RollForgetful: whatever comes the law returns true, and its argument reads as before. No condition. -/
import Derived.Test.YtiimblfmiiemgaaTwo
namespace Go.Proofs.Ytiimblfmiiemgaa
open Go.RowKit

/-- The argument's cells. -/
def past (m : W) (a1 : Option Addr) (n1 c1 : Nat) (a2 : Option Addr) (n2 c2 : Nat) (a3 : Option Addr) (n3 c3 : Nat) : List Value := [.int .u64 (U m), .slice a1 n1 c1, .slice a2 n2 c2, .slice a3 n3 c3]
theorem past_cells {w : World} {g : Nat} {m : W} {a1 : Option Addr} {n1 c1 : Nat} {a2 : Option Addr} {n2 c2 : Nat} {a3 : Option Addr} {n3 c3 : Nat} {t : TypeId} (h : blockIs w g (past m a1 n1 c1 a2 n2 c2 a3 n3 c3) t) :
    w.cell? ⟨g, 0, none⟩ = some (.int .u64 (U m)) ∧ w.cell? ⟨g, 1, none⟩ = some (.slice a1 n1 c1) ∧ w.cell? ⟨g, 2, none⟩ = some (.slice a2 n2 c2) :=
  ⟨by rw [h.cell]; rfl, by rw [h.cell]; rfl, by rw [h.cell]; rfl⟩
theorem blockIs.but2 {g b g' b' : Nat} {w w' : World} (hb : But2 g' b' w w') {cs : List Value} {t : TypeId} (h : blockIs w b cs t) (h1 : b ≠ g') (h2 : b ≠ b') : blockIs w' b cs t := (hb.block b h.lt h1 h2).trans h
set_option maxRecDepth 100000 in
set_option maxHeartbeats 4000000 in
theorem law_rollForgetful (m : W) (a1 : Option Addr) (c1 : Nat) (L1 : List UInt8) (a2 : Option Addr) (c2 : Nat) (L2 : List UInt8) (a3 : Option Addr) (c3 : Nat) (L3 : List UInt8) (w : World) (hl1 : L1.length ≤ c1) (hin1 : bytesIn w a1 L1) (hl2 : L2.length ≤ c2) (hin2 : bytesIn w a2 L2) (hl3 : L3.length ≤ c3) (hin3 : bytesIn w a3 L3) :
    Calls Try.prog 6 #[.agg #[.int .u64 (U m), .slice a1 L1.length c1, .slice a2 L2.length c2, .slice a3 L3.length c3]] w fun e w' => e = .returned (.bool true) ∧ Below w.heap.size w w' := by
  have I1 := Lib.hid (hin1.take 500)
  have I2 := Lib.hid (hin2.take 500)
  have I3 := Lib.hid (hin3.take 200)
  clear hin1 hin2 hin3
  have x1 : 0 ≤ min (L1.length : Int) 500 := by omega
  have x2 : min (L1.length : Int) 500 ≤ (c1 : Int) := by omega
  have x3 : 0 ≤ min (L2.length : Int) 500 := by omega
  have x4 : min (L2.length : Int) 500 ≤ (c2 : Int) := by omega
  have x5 : 0 ≤ min (L3.length : Int) 200 := by omega
  have x6 : min (L3.length : Int) 200 ≤ (c3 : Int) := by omega
  go_enter Try.func6, Try.ntmps6
  go_wp2_with fail
  have e2 : (min (L3.length : Int) 200).toNat = (L3.take 200).length := by rw [List.length_take]; omega
  have e4 : (L3.take 200).length ≤ 200 := by rw [List.length_take]; omega
  have e5 : (L3.take 200).length ≤ c3 := by rw [List.length_take]; omega
  rw [e2]
  clear e2
  generalize min (L3.length : Int) 200 = z3 at *
  generalize L3.take 200 = l3 at *
  refine (rolls_any _).mono ?_
  rintro e w1 ⟨rfl, hb⟩
  have H1 := Lib.hid (((Below.refl w.heap.size w).alloc (Nat.le_refl _) _).trans (hb.mono (by simp)))
  have X1 : Hid (blockIs w1 w.heap.size (past m a1 L1.length c1 a2 L2.length c2 a3 L3.length c3) 42) := Lib.hid ((blockIs.new w (past m a1 L1.length c1 a2 L2.length c2 a3 L3.length c3) _).below hb (by simp))
  obtain ⟨d0, d1, d2⟩ := past_cells X1.out
  clear hb
  go_wp2_with fail
  refine (right_any _ _).mono ?_
  rintro e w2 ⟨rfl, hb⟩
  have H2 := Lib.hid (H1.out.trans (hb.mono H1.out.size))
  have X2 := Lib.hid (X1.out.below hb X1.out.lt)
  clear d0 d1 d2
  obtain ⟨d0, d1, d2⟩ := past_cells X2.out
  clear hb H1 X1
  by_cases hm : 8 ≤ dgw m
  · have t1 : decide (8 ≤ dgw m) = true := by simpa using hm
    have HM := Lib.hid hm
    clear hm
    by_cases h0 : l3.length = 0
    · have t2 : ((l3.length : Int) == 0) = true := by simp [h0]
      clear h0
      go_wp2_with fail
      refine (rolls_any _).mono ?_
      rintro e w3 ⟨rfl, hb⟩
      have H3 := Lib.hid (H2.out.trans (hb.mono H2.out.size))
      clear hb
      go_wp2_with fail
      go_ret
      exact ⟨rfl, H3.out⟩
    · have t2 : ((l3.length : Int) == 0) = false := by simp; intro h; exact h0 (by simp [h])
      have HN : Hid (1 ≤ l3.length ∧ l3.length ≤ 1024) := Lib.hid ⟨by omega, by omega⟩
      clear h0
      go_wp2_with fail
      refine (new_any m l3.length w2 HM.out HN.out.1 HN.out.2).mono ?_
      rintro e w3 ⟨g1, b1, rfl, hg, hw, hr, hb⟩
      have G1 : Hid (w.heap.size ≤ g1 ∧ w.heap.size ≤ b1) := Lib.hid ⟨Nat.le_trans H2.out.size hg, Nat.le_trans H2.out.size hw⟩
      have X3 := Lib.hid (X2.out.below hb X2.out.lt)
      have P1 : Hid (w.heap.size ≠ g1 ∧ w.heap.size ≠ b1) := Lib.hid (by have := X2.out.lt; exact ⟨by omega, by omega⟩)
      clear d0 d1 d2 X2
      obtain ⟨d0, d1, d2⟩ := past_cells X3.out
      have H3 := Lib.hid (H2.out.trans (hb.mono H2.out.size))
      have R3 := Lib.hid hr
      clear hb hr hg hw H2
      go_wp2_with fail
      refine (new_any m l3.length w3 HM.out HN.out.1 HN.out.2).mono ?_
      rintro e w4 ⟨g2, b2, rfl, hg, hw, hr, hb⟩
      have G2 : Hid (w.heap.size ≤ g2 ∧ w.heap.size ≤ b2) := Lib.hid ⟨Nat.le_trans H3.out.size hg, Nat.le_trans H3.out.size hw⟩
      have X4 := Lib.hid (X3.out.below hb X3.out.lt)
      have P2 : Hid (w.heap.size ≠ g2 ∧ w.heap.size ≠ b2) := Lib.hid (by have := X3.out.lt; exact ⟨by omega, by omega⟩)
      clear d0 d1 d2 X3
      obtain ⟨d0, d1, d2⟩ := past_cells X4.out
      have GD : Hid (g1 ≠ g2 ∧ g1 ≠ b2 ∧ b1 ≠ g2 ∧ b1 ≠ b2) := Lib.hid (by have := R3.out.lt; exact ⟨by omega, by omega, by omega, by omega⟩)
      have H4 := Lib.hid (H3.out.trans (hb.mono H3.out.size))
      have R4 := Lib.hid (R3.out.below hb)
      have S4 := Lib.hid hr
      clear hb hr hg hw H3 R3
      go_wp2_with fail
      have f2 : (min (L1.length : Int) 500).toNat = (L1.take 500).length := by rw [List.length_take]; omega
      have f4 : (L1.take 500).length ≤ 500 := by rw [List.length_take]; omega
      have f5 : (L1.take 500).length ≤ c1 := by rw [List.length_take]; omega
      rw [f2]
      clear f2
      generalize min (L1.length : Int) 500 = z1 at *
      generalize L1.take 500 = l1 at *
      refine (push_any g1 b1 m _ a1 l1 c1 w4 R4.out f5 (by omega) (I1.out.off G1.out.1 G1.out.2 H4.out)).mono ?_
      rintro e w5 ⟨rfl, hr, hb⟩
      have H5 := Lib.hid (H4.out.trans (hb.below G1.out.1 G1.out.2 H4.out.size))
      have X5 := Lib.hid (blockIs.but2 (g := 0) hb X4.out P1.out.1 P1.out.2)
      clear d0 d1 d2 X4
      obtain ⟨d0, d1, d2⟩ := past_cells X5.out
      have R5 := Lib.hid hr
      have S5 := Lib.hid (S4.out.but hb (Ne.symm GD.out.1) (Ne.symm GD.out.2.2.1) (Ne.symm GD.out.2.1) (Ne.symm GD.out.2.2.2))
      clear hb hr H4 R4 S4
      generalize ofW m (slides (List.replicate l3.length 0) l1) = q1 at *
      go_wp2_with fail
      have f2 : (min (L2.length : Int) 500).toNat = (L2.take 500).length := by rw [List.length_take]; omega
      have f6 : (L2.take 500).length ≤ 500 := by rw [List.length_take]; omega
      have f7 : (L2.take 500).length ≤ c2 := by rw [List.length_take]; omega
      rw [f2]
      clear f2
      generalize min (L2.length : Int) 500 = z2 at *
      generalize L2.take 500 = l2 at *
      refine (push_any g2 b2 m _ a2 l2 c2 w5 S5.out f7 (by omega) (I2.out.off G2.out.1 G2.out.2 H5.out)).mono ?_
      rintro e w6 ⟨rfl, hr, hb⟩
      have H6 := Lib.hid (H5.out.trans (hb.below G2.out.1 G2.out.2 H5.out.size))
      have X6 := Lib.hid (blockIs.but2 (g := 0) hb X5.out P2.out.1 P2.out.2)
      clear d0 d1 d2 X5
      obtain ⟨d0, d1, d2⟩ := past_cells X6.out
      have S6 := Lib.hid hr
      have R6 := Lib.hid (R5.out.but hb GD.out.1 GD.out.2.1 GD.out.2.2.1 GD.out.2.2.2)
      clear hb hr H5 R5 S5
      generalize ofW m (slides (List.replicate l3.length 0) l2) = q2 at *
      have A1 : Hid (slides (slides (List.replicate l3.length 0) l1) l3 = l3) := Lib.hid (by
        have e : (slides (List.replicate l3.length 0) l1).length = l3.length := by rw [slides_length _ _ (by rw [List.length_replicate]; exact HN.out.1), List.length_replicate]
        exact slides_same _ _ (by rw [e]; exact HN.out.1) e.symm)
      have A2 : Hid (slides (slides (List.replicate l3.length 0) l2) l3 = l3) := Lib.hid (by
        have e : (slides (List.replicate l3.length 0) l2).length = l3.length := by rw [slides_length _ _ (by rw [List.length_replicate]; exact HN.out.1), List.length_replicate]
        exact slides_same _ _ (by rw [e]; exact HN.out.1) e.symm)
      generalize slides (List.replicate l3.length 0) l1 = k1 at *
      generalize slides (List.replicate l3.length 0) l2 = k2 at *
      go_wp2_with fail
      have PA : Hid (∀ w', rollIs w' g1 b1 m k1 → Below w.heap.size w w' → Calls Try.prog 13 #[.pointer (some ⟨g1, 0, none⟩), .slice a3 l3.length c3] w' fun e w'' => e = .returned (.int .u64 (U (ofW m l3))) ∧ rollIs w'' g1 b1 m l3 ∧ But2 g1 b1 w' w'') := Lib.hid (fun w' hr hb => by
        have := push_any g1 b1 m k1 a3 l3 c3 w' hr e5 (by omega) (I3.out.off G1.out.1 G1.out.2 hb)
        rwa [A1.out] at this)
      have PB : Hid (∀ w', rollIs w' g2 b2 m k2 → Below w.heap.size w w' → Calls Try.prog 13 #[.pointer (some ⟨g2, 0, none⟩), .slice a3 l3.length c3] w' fun e w'' => e = .returned (.int .u64 (U (ofW m l3))) ∧ rollIs w'' g2 b2 m l3 ∧ But2 g2 b2 w' w'') := Lib.hid (fun w' hr hb => by
        have := push_any g2 b2 m k2 a3 l3 c3 w' hr e5 (by omega) (I3.out.off G2.out.1 G2.out.2 hb)
        rwa [A2.out] at this)
      have PC : Hid (∀ w' a, rollIs w' g1 b1 m l3 → bytesOff w' g1 b1 a [7, 9] → Calls Try.prog 13 #[.pointer (some ⟨g1, 0, none⟩), .slice a 2 2] w' fun e w'' => e = .returned (.int .u64 (U (ofW m (slides l3 [7, 9])))) ∧ rollIs w'' g1 b1 m (slides l3 [7, 9]) ∧ But2 g1 b1 w' w'') := Lib.hid (fun w' a hr hb => push_any g1 b1 m l3 a [7, 9] 2 w' hr (Nat.le_refl 2) (by simp) hb)
      have PD : Hid (∀ w' a, rollIs w' g2 b2 m l3 → bytesOff w' g2 b2 a [7, 9] → Calls Try.prog 13 #[.pointer (some ⟨g2, 0, none⟩), .slice a 2 2] w' fun e w'' => e = .returned (.int .u64 (U (ofW m (slides l3 [7, 9])))) ∧ rollIs w'' g2 b2 m (slides l3 [7, 9]) ∧ But2 g2 b2 w' w'') := Lib.hid (fun w' a hr hb => push_any g2 b2 m l3 a [7, 9] 2 w' hr (Nat.le_refl 2) (by simp) hb)
      have PE : Hid (∀ w', rollIs w' g1 b1 m (slides l3 [7, 9]) → Calls Try.prog 14 #[.pointer (some ⟨g1, 0, none⟩)] w' fun e w'' => e = .returned (.int .u64 (U (ofW m (slides l3 [7, 9])))) ∧ w' = w'') := Lib.hid (fun w' hr => sum_any g1 b1 m _ w' hr)
      have t7 : decide (dgw (ofW m (slides l3 [7, 9])) < dgw m) = true := by simpa using dgw_of_lt m HM.out _
      have t5 : (U (ofW m l3) == U (ofW m l3)) = true := by simp
      have t6 : (U (ofW m (slides l3 [7, 9])) == U (ofW m (slides l3 [7, 9]))) = true := by simp
      generalize ofW m (slides l3 [7, 9]) = q4 at *
      generalize slides l3 [7, 9] = l4 at *
      generalize ofW m l3 = q3 at *
      clear A1 A2 I1 I2 I3 HN
      have hd6 : w6.cell? ⟨w.heap.size, 0, none⟩ = some (.int .u64 (U m)) := d0
      clear d0 d1 d2
      go_region_held3 (fun w' => w'.cell? ⟨w.heap.size, 0, none⟩ = some (.int .u64 (U m)))
        (first | assumption | go_keep)
        (first
        | (go_at_call 13
           with_reducible refine (PA.out _ ?_ ?_).mono ?_
           · first | exact R6.out | exact R6.out.below (Below.refl _ _).drew
           · first | exact H6.out | exact H6.out.drew
           rintro e w7 ⟨rfl, hr7, hb7⟩
           have hb7 : But2 g1 b1 w6 w7 := by first | exact hb7 | exact (But2.refl _ _ w6).drew.trans hb7
           have X7 := Lib.hid (blockIs.but2 (g := 0) hb7 X6.out P1.out.1 P1.out.2)
           have s7 : w7.cell? ⟨w.heap.size, 0, none⟩ = some (.int .u64 (U m)) := (past_cells X7.out).1
           have R7 := Lib.hid hr7
           have S7 := Lib.hid (S6.out.but hb7 (Ne.symm GD.out.1) (Ne.symm GD.out.2.2.1) (Ne.symm GD.out.2.1) (Ne.symm GD.out.2.2.2))
           have H7 := Lib.hid (H6.out.trans (hb7.below G1.out.1 G1.out.2 H6.out.size))
           clear hr7 hb7)
        | (go_at_call 13
           with_reducible refine (PB.out _ ?_ ?_).mono ?_
           · first | exact S7.out | exact S7.out.below (Below.refl _ _).drew
           · first | exact H7.out | exact H7.out.drew
           rintro e w8 ⟨rfl, hr8, hb8⟩
           have hb8 : But2 g2 b2 w7 w8 := by first | exact hb8 | exact (But2.refl _ _ w7).drew.trans hb8
           have X8 := Lib.hid (blockIs.but2 (g := 0) hb8 X7.out P2.out.1 P2.out.2)
           have s8 : w8.cell? ⟨w.heap.size, 0, none⟩ = some (.int .u64 (U m)) := (past_cells X8.out).1
           have S8 := Lib.hid hr8
           have R8 := Lib.hid (R7.out.but hb8 GD.out.1 GD.out.2.1 GD.out.2.2.1 GD.out.2.2.2)
           have H8 := Lib.hid (H7.out.trans (hb8.below G2.out.1 G2.out.2 H7.out.size))
           clear hr8 hb8)
        | (go_at_call 13
           with_reducible refine (PC.out _ _ ?_ ?_).mono ?_
           · exact R8.out.below ((Below.refl _ _).alloc (Nat.le_refl _) _)
           · exact pair_off R8.out.lt.1 R8.out.lt.2 _ rfl rfl
           rintro e w9 ⟨rfl, hr9, hb9⟩
           have hb9 : But2 g1 b1 w8 w9 := ((But2.refl _ _ w8).alloc _).trans hb9
           have X9 := Lib.hid (blockIs.but2 (g := 0) hb9 X8.out P1.out.1 P1.out.2)
           have s9 : w9.cell? ⟨w.heap.size, 0, none⟩ = some (.int .u64 (U m)) := (past_cells X9.out).1
           have R9 := Lib.hid hr9
           have S9 := Lib.hid (S8.out.but hb9 (Ne.symm GD.out.1) (Ne.symm GD.out.2.2.1) (Ne.symm GD.out.2.1) (Ne.symm GD.out.2.2.2))
           have H9 := Lib.hid (H8.out.trans (hb9.below G1.out.1 G1.out.2 H8.out.size))
           clear hr9 hb9)
        | (go_at_call 13
           with_reducible refine (PC.out _ _ ?_ ?_).mono ?_
           · exact R8.out.below (((Below.refl _ _).alloc (Nat.le_refl _) _).alloc (by simp) _)
           · exact pair_fst R8.out.lt.1 R8.out.lt.2 _ _ rfl rfl
           rintro e w9 ⟨rfl, hr9, hb9⟩
           have Q9 := Lib.hid (bytesOff.swap (pair_snd (x := 7) (y := 9) (vx := 7) (vy := 9) R8.out.lt.1 R8.out.lt.2 _ _ rfl rfl) (pair_snd S8.out.lt.1 S8.out.lt.2 _ _ rfl rfl) hb9)
           have hb9 : But2 g1 b1 w8 w9 := (((But2.refl _ _ w8).alloc _).alloc _).trans hb9
           have X9 := Lib.hid (blockIs.but2 (g := 0) hb9 X8.out P1.out.1 P1.out.2)
           have s9 : w9.cell? ⟨w.heap.size, 0, none⟩ = some (.int .u64 (U m)) := (past_cells X9.out).1
           have R9 := Lib.hid hr9
           have S9 := Lib.hid (S8.out.but hb9 (Ne.symm GD.out.1) (Ne.symm GD.out.2.2.1) (Ne.symm GD.out.2.1) (Ne.symm GD.out.2.2.2))
           have H9 := Lib.hid (H8.out.trans (hb9.below G1.out.1 G1.out.2 H8.out.size))
           clear hr9 hb9)
        | (go_at_call 13
           with_reducible refine (PC.out _ _ ?_ ?_).mono ?_
           · exact R8.out.below (((Below.refl _ _).alloc (Nat.le_refl _) _).alloc (by simp) _)
           · exact pair_snd R8.out.lt.1 R8.out.lt.2 _ _ rfl rfl
           rintro e w9 ⟨rfl, hr9, hb9⟩
           have Q9 := Lib.hid (bytesOff.swap (pair_fst (x := 7) (y := 9) (vx := 7) (vy := 9) R8.out.lt.1 R8.out.lt.2 _ _ rfl rfl) (pair_fst S8.out.lt.1 S8.out.lt.2 _ _ rfl rfl) hb9)
           have hb9 : But2 g1 b1 w8 w9 := (((But2.refl _ _ w8).alloc _).alloc _).trans hb9
           have X9 := Lib.hid (blockIs.but2 (g := 0) hb9 X8.out P1.out.1 P1.out.2)
           have s9 : w9.cell? ⟨w.heap.size, 0, none⟩ = some (.int .u64 (U m)) := (past_cells X9.out).1
           have R9 := Lib.hid hr9
           have S9 := Lib.hid (S8.out.but hb9 (Ne.symm GD.out.1) (Ne.symm GD.out.2.2.1) (Ne.symm GD.out.2.1) (Ne.symm GD.out.2.2.2))
           have H9 := Lib.hid (H8.out.trans (hb9.below G1.out.1 G1.out.2 H8.out.size))
           clear hr9 hb9)
        | (go_at_call 13
           with_reducible refine (PD.out _ _ ?_ ?_).mono ?_
           · exact S9.out.below ((Below.refl _ _).alloc (Nat.le_refl _) _)
           · exact pair_off S9.out.lt.1 S9.out.lt.2 _ rfl rfl
           rintro e w10 ⟨rfl, hr10, hb10⟩
           have hb10 : But2 g2 b2 w9 w10 := ((But2.refl _ _ w9).alloc _).trans hb10
           have X10 := Lib.hid (blockIs.but2 (g := 0) hb10 X9.out P2.out.1 P2.out.2)
           have s10 : w10.cell? ⟨w.heap.size, 0, none⟩ = some (.int .u64 (U m)) := (past_cells X10.out).1
           have S10 := Lib.hid hr10
           have R10 := Lib.hid (R9.out.but hb10 GD.out.1 GD.out.2.1 GD.out.2.2.1 GD.out.2.2.2)
           have H10 := Lib.hid (H9.out.trans (hb10.below G2.out.1 G2.out.2 H9.out.size))
           clear hr10 hb10)
        | (go_at_call 13
           with_reducible refine (PD.out _ _ ?_ ?_).mono ?_
           · first | exact S9.out | exact S9.out.below (Below.refl _ _).drew
           · first | exact Q9.out | exact Q9.out.but ((But2.refl _ _ _).drew)
           rintro e w10 ⟨rfl, hr10, hb10⟩
           have hb10 : But2 g2 b2 w9 w10 := by first | exact hb10 | exact (But2.refl _ _ w9).drew.trans hb10
           have X10 := Lib.hid (blockIs.but2 (g := 0) hb10 X9.out P2.out.1 P2.out.2)
           have s10 : w10.cell? ⟨w.heap.size, 0, none⟩ = some (.int .u64 (U m)) := (past_cells X10.out).1
           have S10 := Lib.hid hr10
           have R10 := Lib.hid (R9.out.but hb10 GD.out.1 GD.out.2.1 GD.out.2.2.1 GD.out.2.2.2)
           have H10 := Lib.hid (H9.out.trans (hb10.below G2.out.1 G2.out.2 H9.out.size))
           clear hr10 hb10)
        | (go_at_call 14
           with_reducible refine (PE.out _ ?_).mono ?_
           · first | exact R10.out | exact R10.out.below (Below.refl _ _).drew
           rintro e w11 ⟨rfl, rfl⟩)
        | (go_at_call 18
           with_reducible refine (deg_any _ _).mono ?_
           rintro e w12 ⟨rfl, rfl⟩)
        | (go_at_call 19
           with_reducible refine (refDeg_any _ _).mono ?_
           rintro e w13 ⟨rfl, hb13⟩
           have s13 : w13.cell? ⟨w.heap.size, 0, none⟩ = some (.int .u64 (U m)) := (past_cells (X10.out.below hb13 X10.out.lt)).1
           have H13 := Lib.hid (H10.out.trans (hb13.mono H10.out.size))))
      all_goals
        go_wp2_with fail
        go_ret
        exact ⟨rfl, by first | exact H13.out | exact H13.out.drew⟩
  · have t1 : decide (8 ≤ dgw m) = false := by simpa using hm
    clear hm
    go_wp2_with fail
    refine (rolls_any _).mono ?_
    rintro e w3 ⟨rfl, hb⟩
    have H3 := Lib.hid (H2.out.trans (hb.mono H2.out.size))
    clear hb
    go_wp2_with fail
    go_ret
    exact ⟨rfl, H3.out⟩
end Go.Proofs.Ytiimblfmiiemgaa
