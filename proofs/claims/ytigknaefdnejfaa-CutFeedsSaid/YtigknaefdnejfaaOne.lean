/- The contracts of the document's Right, One and DocSizes. -/
import Derived.Test.YtigknaefdnejfaaStep
namespace Go.Proofs.Ytigknaefdnejfaa
open Go.RowKit

/-- The bits decide, as the document reckons. -/
theorem hit_mod (r : Rl) (hr : r.ok) (s : W) : (((s + 1#64) % (1#64 <<< r.bits)) = 0#64) ↔ r.hit s = true := by
  have h5 := hr.h5
  have h4 := hr.h4
  have hp : 2 ^ r.bits < 2 ^ 64 := Nat.pow_lt_pow_right (by decide) (by omega)
  have hq := Nat.two_pow_pos r.bits
  have e1 : (1#64 <<< r.bits).toNat = 2 ^ r.bits := by
    rw [BitVec.toNat_shiftLeft, Nat.shiftLeft_eq]
    show 1 * 2 ^ r.bits % 2 ^ 64 = _
    rw [Nat.one_mul, Nat.mod_eq_of_lt hp]
  have e2 : r.ones.toNat = 2 ^ r.bits - 1 := by
    unfold Rl.ones
    rw [BitVec.toNat_sub, e1]
    show (2 ^ 64 - 1 + 2 ^ r.bits) % 2 ^ 64 = _
    omega
  unfold Rl.hit
  rw [decide_eq_true_iff]
  have ha : (s &&& r.ones).toNat = s.toNat % 2 ^ r.bits := by
    rw [BitVec.toNat_and, e2, Nat.and_two_pow_sub_one_eq_mod]
  have hm : (s + 1#64).toNat % 2 ^ r.bits = (s.toNat + 1) % 2 ^ r.bits := by
    rw [BitVec.toNat_add]
    show (s.toNat + 1) % 2 ^ 64 % 2 ^ r.bits = _
    exact Nat.mod_mod_of_dvd _ (Nat.pow_dvd_pow 2 (by omega))
  have key : ∀ x : Nat, (x + 1) % 2 ^ r.bits = 0 ↔ x % 2 ^ r.bits = 2 ^ r.bits - 1 := by
    intro x
    have hx := Nat.mod_lt x hq
    rw [Nat.add_mod]
    by_cases h1 : 2 ^ r.bits = 1
    · exfalso
      have : 2 ^ 1 ≤ 2 ^ r.bits := Nat.pow_le_pow_right (by decide) h4
      omega
    · rw [Nat.mod_eq_of_lt (show 1 < 2 ^ r.bits by omega)]
      by_cases h2 : x % 2 ^ r.bits = 2 ^ r.bits - 1
      · rw [h2]
        simp [show 2 ^ r.bits - 1 + 1 = 2 ^ r.bits by omega]
      · rw [Nat.mod_eq_of_lt (show x % 2 ^ r.bits + 1 < 2 ^ r.bits by omega)]
        omega
  constructor
  · intro h
    have h' := congrArg BitVec.toNat h
    rw [BitVec.toNat_umod, e1, hm] at h'
    apply BitVec.eq_of_toNat_eq
    rw [ha, e2]
    exact (key _).1 h'
  · intro h
    have h' := congrArg BitVec.toNat h
    rw [ha, e2] at h'
    apply BitVec.eq_of_toNat_eq
    rw [BitVec.toNat_umod, e1, hm]
    exact (key _).2 h'
def Rl.at (r : Rl) (b : List UInt8) (j : Nat) : Bool := r.hit (ofW r.poly ((b.take j).drop (j - 64)))
theorem Rl.goes_of (r : Rl) (b : List UInt8) (n k : Nat) (hk : k ≤ b.length) (h1 : k < r.most) (h2 : k < n) (h0 : ∀ j, r.least ≤ j → j < n → r.at b j = false) : r.goes [] b k := by
  intro j hj
  have e : ([] ++ b.take (j + 1)).length = j + 1 := by rw [List.nil_append, List.length_take]; omega
  unfold Rl.stop
  rw [e]
  have h3 : ¬ r.most ≤ j + 1 := by omega
  by_cases h4 : r.least ≤ j + 1
  · have := h0 (j + 1) h4 (by omega)
    unfold Rl.at at this
    rw [List.nil_append, this]
    simp [h3]
  · simp [h3, h4]
theorem Rl.first_hit (r : Rl) (hr : r.ok) (b : List UInt8) (n : Nat) (hn : n ≤ b.length) (hm : n < r.most) (hl : r.least ≤ n) (h0 : ∀ j, r.least ≤ j → j < n → r.at b j = false) (h : r.at b n = true) : r.first b = n := by
  have := hr.h1
  obtain ⟨k, rfl⟩ : ∃ k, n = k + 1 := ⟨n - 1, by omega⟩
  have hg := r.goes_of b (k + 1) k (by omega) (by omega) (by omega) h0
  unfold Rl.first
  rw [r.reach_hit [] b k (by omega) hg ?_]
  have e : ([] ++ b.take (k + 1)).length = k + 1 := by rw [List.nil_append, List.length_take]; omega
  unfold Rl.stop
  rw [e, List.nil_append]
  unfold Rl.at at h
  rw [h]
  simp [hl]
theorem Rl.first_out (r : Rl) (hr : r.ok) (b : List UInt8) (n : Nat) (hm : n ≤ r.most) (h : b.length < n ∨ n = r.most) (h0 : ∀ j, r.least ≤ j → j < n → r.at b j = false) : r.first b = min b.length r.most := by
  have := hr.h1
  have := hr.h2
  by_cases hl : b.length < r.most
  · have hg := r.goes_of b n b.length (Nat.le_refl _) hl (by omega) h0
    unfold Rl.first
    rw [r.reach_end [] b hg]
    show b.length = _
    omega
  · obtain ⟨k, hk⟩ : ∃ k, r.most = k + 1 := ⟨r.most - 1, by omega⟩
    have hg := r.goes_of b n k (by omega) (by omega) (by omega) h0
    unfold Rl.first
    rw [r.reach_hit [] b k (by omega) hg ?_]
    · show k + 1 = _
      omega
    · have e : ([] ++ b.take (k + 1)).length = k + 1 := by rw [List.nil_append, List.length_take]; omega
      unfold Rl.stop
      rw [e, hk]
      simp
set_option maxHeartbeats 400000 in
theorem refRight_any (a b c : Int) (m : W) (w : World) :
    Calls Try.prog 16 #[.agg #[.int .i64 a, .int .i64 b, .int .i64 c, .int .u64 (U m)]] w fun e w' => e = .returned (.bool (decide (okRule a b c m))) ∧ Below w.heap.size w w' := by
  have d1 := dgw_le m
  go_enter Try.func16, Try.ntmps16
  go_wp2_with ((with_reducible refine (refDeg_any _ _).mono ?_); rintro e w' ⟨rfl, hb⟩)
  all_goals
    go_ret
    refine ⟨ret_bool ?_, ?_⟩
    · first
      | exact Eq.symm (decide_eq_true (by unfold okRule; omega))
      | exact Eq.symm (decide_eq_false (by unfold okRule; omega))
      | exact decide_eq_decide.2 ⟨fun h => (by unfold okRule; omega), fun h => (by unfold okRule at h; omega)⟩
    · first
      | exact ((Below.refl w.heap.size w).alloc (Nat.le_refl _) _)
      | exact ((Below.refl w.heap.size w).alloc (Nat.le_refl _) _).trans (hb.mono (by simp))
theorem U_add1 (x : W) : IntKind.u64.wrap (U x + 1) = U (x + 1#64) := by
  rw [IntKind.wrap_u64]
  unfold U
  rw [BitVec.toNat_add]
  show ((x.toNat : Int) + 1) % 18446744073709551616 = (((x.toNat + 1) % 2 ^ 64 : Nat) : Int)
  omega
theorem U_tmod (x y : W) : (U x).tmod (U y) = U (x % y) := by
  rw [Int.tmod_eq_emod_of_nonneg (U_nonneg x)]
  unfold U
  rw [BitVec.toNat_umod]
  exact (Int.natCast_emod _ _).symm
theorem U_zero_iff (x : W) : (U x == 0) = decide (x = 0#64) := U_beqd x 0#64
attribute [local go_sem] U_shl1 U_add1
set_option maxRecDepth 100000 in
set_option maxHeartbeats 2000000 in
theorem one_any (r : Rl) (hr : r.ok) (a : Option Addr) (l : List UInt8) (c : Nat) (w : World) (hlc : l.length ≤ c) (hc : l.length ≤ 500000) (h : bytesIn w a l) :
    Calls Try.prog 27 #[.agg #[.int .i64 (r.least : Int), .int .i64 (r.most : Int), .int .i64 (r.bits : Int), .int .u64 (U r.poly)], .slice a l.length c] w fun e w' => e = .returned (.int .i64 (r.first l : Int)) ∧ Below w.heap.size w w' := by
  have H := Lib.hid h
  have HR := Lib.hid hr
  clear h
  have B0 := Lib.hid (blockIs.new w (ruleCells (r.least : Int) (r.most : Int) (r.bits : Int) r.poly) 24)
  have H0 := Lib.hid ((Below.refl w.heap.size w).alloc (Nat.le_refl _) (.cells (ruleCells (r.least : Int) (r.most : Int) (r.bits : Int) r.poly).toArray 24 (0, 0)))
  go_enter Try.func27, Try.ntmps27
  go_wp2_with fail
  have HS : Hid (w.heap.size < (w.alloc (.cells (ruleCells (r.least : Int) (r.most : Int) (r.bits : Int) r.poly).toArray 24 (0, 0))).heap.size) := Lib.hid (by simp)
  unfold ruleCells at H0 HS
  have B0 : Hid (blockIs (w.alloc (.cells #[.int .i64 (r.least : Int), .int .i64 (r.most : Int), .int .i64 (r.bits : Int), .int .u64 (U r.poly)] 24 (0, 0))) w.heap.size (ruleCells (r.least : Int) (r.most : Int) (r.bits : Int) r.poly) 24) := B0
  generalize w.alloc (.cells #[.int .i64 (r.least : Int), .int .i64 (r.most : Int), .int .i64 (r.bits : Int), .int .u64 (U r.poly)] 24 (0, 0)) = w0 at *
  have hl1 := hr.h1
  have hl2 := hr.h2
  have hl3 := hr.h3
  have hb1 := hr.h4
  have hb2 := hr.h5
  clear hr
  go_loopw [5] (fun i wr => ∃ n : Nat, i = .int .i64 (n : Int) ∧ r.least ≤ n ∧ n ≤ r.most ∧ Hid (∀ j, r.least ≤ j → j < n → r.at l j = false) ∧ Hid (Below w0.heap.size w0 wr)) (fun i _ => r.most - (intOf i).toNat)
  case atStart => exact ⟨r.least, rfl, Nat.le_refl _, hl2, Lib.hid (fun j h1 h2 => by omega), Lib.hid (Below.refl _ _)⟩
  case round =>
    obtain ⟨n, rfl, ht1, ht2, E1, K1⟩ := hrel
    have B1 := Lib.hid (B0.out.below K1.out B0.out.lt)
    have c1 : wr.cell? ⟨w.heap.size, 1, none⟩ = some (.int .i64 (r.most : Int)) := B1.out.cell 1
    have c2 : wr.cell? ⟨w.heap.size, 2, none⟩ = some (.int .i64 (r.bits : Int)) := B1.out.cell 2
    have c3 : wr.cell? ⟨w.heap.size, 3, none⟩ = some (.int .u64 (U r.poly)) := B1.out.cell 3
    by_cases hgo : n ≤ l.length ∧ n < r.most
    · obtain ⟨g1, g2⟩ := hgo
      rcases (H.out.below H0.out (Nat.le_refl _)).below K1.out (Nat.le_refl _) with h0 | ⟨bb, bo, rfl, hcell⟩
      · rw [h0] at g1; simp at g1; omega
      obtain ⟨t, hnt⟩ : ∃ t, n = t + 64 := ⟨n - 64, by omega⟩
      have q0 : (0 : Int) ≤ (t : Int) := by omega
      have q0n : (0 : Int) ≤ (n : Int) := by omega
      have q5 : (t : Int) ≤ (n : Int) := by omega
      have q1 : (n : Int) ≤ (l.length : Int) := by omega
      have q2 : (n : Int) ≤ (c : Int) := by omega
      have q3 : (n : Int) < (r.most : Int) := by omega
      have q4 : ¬ c = t := by omega
      have PD : Hid (∀ w', Below wr.heap.size wr w' → Calls Try.prog 37 #[.int .u64 (U r.poly), .slice (some ⟨bb, bo + t, none⟩) (n - t) (c - t)] w' fun e w'' => e = .returned (.tuple #[.int .u64 (U (ofW r.poly ((l.take n).drop (n - 64)))), .int .i64 0]) ∧ Below w'.heap.size w' w'') := Lib.hid (fun w' hb => by
        subst hnt
        have e1 : t + 64 - 64 = t := by omega
        have e0 : t + 64 - t = 64 := by omega
        have e2 : ((l.take (t + 64)).drop t).length = 64 := by rw [List.length_drop, List.length_take]; omega
        rw [e1, e0]
        have P := doc_any r.poly (some ⟨bb, bo + t, none⟩) ((l.take (t + 64)).drop t) (c - t) w' (by have := HR.out.h6; omega) (by rw [e2]; omega) (by rw [e2]; decide) (Or.inr ⟨bb, bo + t, rfl, fun j hj => by
          rw [e2] at hj
          have := hcell (t + j) (by omega)
          rw [show bo + (t + j) = bo + t + j by omega] at this
          have h3 := (hb.cell (p := ⟨bb, bo + t + j, none⟩) (block_lt_of_cell this)).trans this
          rw [h3]
          congr 2
          rw [List.getD_eq_getElem?_getD, List.getD_eq_getElem?_getD, List.getElem?_drop, List.getElem?_take, if_pos (by omega)]⟩)
        rw [e2] at P
        exact P)
      have hwA : IntKind.i64.wrap ((n : Int) - 64) = (t : Int) := by rw [IntKind.wrap_i64]; omega
      have HNT := Lib.hid hnt
      clear hcell hnt
      generalize hX : ofW r.poly ((l.take n).drop (n - 64)) = X at *
      have HX : Hid (r.at l n = r.hit X) := Lib.hid (by unfold Rl.at; rw [hX])
      have HM := Lib.hid (hit_mod r HR.out X)
      clear hX
      go_wp2_with fail
      go_region_held3 (fun w' => w'.cell? ⟨w.heap.size, 3, none⟩ = some (.int .u64 (U r.poly)))
        (first | assumption | go_keep)
        (first
        | (go_at_call 37
           with_reducible refine (PD.out _ (Below.refl _ _).drew).mono ?_
           rintro e w2 ⟨rfl, hb2⟩
           have K2 := Lib.hid (K1.out.trans (((Below.refl wr.heap.size wr).drew.trans hb2).mono K1.out.size))
           have B2 := Lib.hid (B0.out.below K2.out B0.out.lt)
           have s3 : w2.cell? ⟨w.heap.size, 3, none⟩ = some (.int .u64 (U r.poly)) := B2.out.cell 3))
      all_goals
        clear c1 c2 c3
        have c2 : w2.cell? ⟨w.heap.size, 2, none⟩ = some (.int .i64 (r.bits : Int)) := B2.out.cell 2
        have hbz : 0 ≤ (r.bits : Int) := by omega
        have hbm : (r.bits : Int) ≤ 64 := by omega
        have hpw : (1#64 <<< r.bits).toNat = 2 ^ r.bits := by
          rw [BitVec.toNat_shiftLeft, Nat.shiftLeft_eq]
          show 1 * 2 ^ r.bits % 2 ^ 64 = _
          rw [Nat.one_mul, Nat.mod_eq_of_lt (Nat.pow_lt_pow_right (by decide) (by omega))]
        have hnz : ¬ U (1#64 <<< r.bits) = 0 := by
          have := Nat.two_pow_pos r.bits
          unfold U
          rw [hpw]
          omega
        have hnzb : (U (1#64 <<< r.bits) == 0) = false := by simpa using hnz
        clear hpw
        have E2 : Hid (∀ q, r.hit X = q → ((U (X + 1#64)).tmod (U (1#64 <<< r.bits)) == 0) = q) := Lib.hid (fun q hq => by
          rw [U_tmod, U_zero_iff, ← hq]
          cases hh : r.hit X with
          | true => simpa using HM.out.2 hh
          | false =>
            simp
            intro h
            have := HM.out.1 h
            rw [hh] at this
            cases this)
        cases hh : r.hit X with
        | true =>
          have t9 := E2.out true hh
          have HF : Hid (r.first l = n) := Lib.hid (r.first_hit HR.out l n g1 g2 ht1 E1.out (by rw [HX.out]; exact hh))
          go_wp2_with fail
          go_ret
          exact ⟨ret_i64 (by rw [HF.out]), H0.out.trans (K2.out.mono H0.out.size)⟩
        | false =>
          have t9 := E2.out false hh
          have HF : Hid (r.at l n = false) := Lib.hid (by rw [HX.out]; exact hh)
          go_wp2_with fail
          go_roundw
          case rel =>
            refine ⟨n + 1, by go_num, by omega, by omega, Lib.hid (fun j h1 h2 => ?_), K2⟩
            rcases Nat.lt_or_ge j n with h | h
            · exact E1.out j h1 h
            · obtain rfl : j = n := by omega
              exact HF.out
          case measure => simp [intOf]; omega
    · go_wp2_with fail
      all_goals
        go_ret
        refine ⟨ret_i64 ?_, H0.out.trans (K1.out.mono H0.out.size)⟩
        have := r.first_out HR.out l n (by omega) (by omega) E1.out
        omega
end Go.Proofs.Ytigknaefdnejfaa
