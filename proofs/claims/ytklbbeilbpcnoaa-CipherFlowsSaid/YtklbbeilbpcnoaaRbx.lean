/- hypogeumref02.box: the table, by trying. -/
import Derived.Test.YtklbbeilbpcnoaaRtm
import Derived.Deep.CutBlock
import Derived.BigQuiet
namespace Go.Proofs.Ytklbbeilbpcnoaa
open Go.RowKit Sha Aes

def cellsI (f : Nat → Nat) (n : Nat) : List Value := (List.range n).map fun j => .int .i64 ((f j : Nat) : Int)
theorem cellsI_length (f : Nat → Nat) (n : Nat) : (cellsI f n).length = n := by simp [cellsI]
theorem cellsI_get (f : Nat → Nat) (n k : Nat) (h : k < n) : (cellsI f n)[k]? = some (.int .i64 ((f k : Nat) : Int)) := by simp [cellsI, h]
theorem cellsI_set (f : Nat → Nat) (n k : Nat) (h : k < n) (x : Nat) : (cellsI f n).set k (.int .i64 (x : Int)) = cellsI (fun j => if j = k then x else f j) n := by
  unfold cellsI
  rw [range_set _ _ _ h]
  apply List.map_congr_left
  intro j _
  by_cases e : j = k <;> simp [e]
theorem cellsI_congr (f g : Nat → Nat) (n : Nat) (h : ∀ j, j < n → f j = g j) : cellsI f n = cellsI g n := by
  unfold cellsI
  apply List.map_congr_left
  intro j hj
  rw [h j (List.mem_range.1 hj)]
theorem mkBox (w : World) : (Instr.makeSlice 49 (.int .i64 256) (.int .i64 256)).run Try.prog w = .ok (.slice (some ⟨w.heap.size, 0, none⟩) 256 256) (w.alloc (.cells (cellsI (fun _ => 0) 256).toArray 3 (0, 0))) := by kernel_rfl
/-- The table behind x rounds. -/
def boxF (x : Nat) : Nat → Nat := fun j => if j < x then (sbox.getD j 0).toNat else 0
theorem boxF_next (x : Nat) (hx : x < 256) : (cellsI (boxF x) 256).set x (.int .i64 (((sbox.getD x 0).toNat : Nat) : Int)) = cellsI (boxF (x + 1)) 256 := by
  rw [cellsI_set _ _ _ hx]
  apply cellsI_congr
  intro j hj
  unfold boxF
  by_cases e : j = x
  · subst e; simp
  · by_cases h : j < x
    · simp [e, h, show j < x + 1 by omega]
    · simp [e, h, show ¬ j < x + 1 by omega]
theorem shr_lt (v n m : Nat) (h : v < 2 ^ m) : v >>> n < 2 ^ m := Nat.lt_of_le_of_lt (by rw [Nat.shiftRight_eq_div_pow]; exact Nat.div_le_self _ _) h
theorem bx_lt (v : Nat) : ∀ k, bx v k < 2 ^ k
  | 0 => by show 0 < 1; decide
  | k + 1 => by
    have := bx_lt v k
    rw [bx, Nat.shiftLeft_eq, Nat.pow_succ]
    rcases Nat.mod_two_eq_zero_or_one (bit v k) with e | e <;> rw [e] <;> omega
theorem inv_lt (x : Nat) (hx : x < 256) : inv x < 256 := by
  by_cases h : 0 < x
  · exact (inv_facts x hx h).2.2.2
  · obtain rfl : x = 0 := by omega
    decide

set_option maxRecDepth 100000 in
set_option maxHeartbeats 4000000 in
theorem box_any (w : World) : Calls Try.prog 29 #[] w fun e w' => e = .returned (.slice (some ⟨w.heap.size, 0, none⟩) 256 256) ∧ blockIs w' w.heap.size (cellsI (boxF 256) 256) 3 ∧ Below w.heap.size w w' := by
  have hmk := mkBox
  have G0 := Lib.hid (blockIs.new w (cellsI (fun _ => 0) 256) 3)
  have A0 := Lib.hid (alloc_below w (.cells (cellsI (fun _ => 0) 256).toArray 3 (0, 0)))
  go_enter Try.func29, Try.ntmps29
  go_wp2_with fail
  generalize w.alloc (.cells (cellsI (fun _ => 0) 256).toArray 3 (0, 0)) = w1 at *
  clear hmk
  have E0 : cellsI (fun _ => 0) 256 = cellsI (boxF 0) 256 := cellsI_congr _ _ _ fun j _ => by simp [boxF]
  rw [E0] at G0
  clear E0
  go_loopw [2] (fun i wr => ∃ x : Nat, x ≤ 256 ∧ i = .int .i64 x ∧ blockIs wr w.heap.size (cellsI (boxF x) 256) 3 ∧ Below w.heap.size w wr) (fun i _ => (256 - intOf i).toNat)
  case atStart => exact ⟨0, by omega, rfl, G0.out, A0.out⟩
  case round =>
    obtain ⟨x, hx, rfl, h1, h2⟩ := hrel
    have H1 := Lib.hid h1
    have H2 := Lib.hid h2
    clear h1 h2
    by_cases hlt : x < 256
    · have q : (x : Int) < 256 := by omega
      have FX := Lib.hid (inv_facts x hlt)
      go_upto_block 2 with fail
      go_cut [3] (fun v wx => v = .int .i64 (inv x : Nat) ∧ wr = wx)
      case first =>
        go_wp2_with fail
        go_loopw [4, 3] (fun y v wx => ∃ k : Nat, 1 ≤ k ∧ k ≤ 256 ∧ y = .int .i64 k ∧ v = .int .i64 0 ∧ (0 < x → k ≤ inv x) ∧ wr = wx) (fun y _ _ => (256 - intOf y).toNat)
        case atStart => exact ⟨1, by omega, by omega, rfl, rfl, fun h => (FX.out h).2.2.1, rfl⟩
        case round =>
          obtain ⟨k, hk1, hk, rfl, rfl, hle, rfl⟩ := hrel
          by_cases h0 : 0 < x
          · have hle := hle h0
            have := (FX.out h0).2.2.2
            have q0 : 0 < (x : Int) := by omega
            have q1 : (k : Int) < 256 := by omega
            have TM := Lib.hid (times_any x k wr hlt (by omega))
            by_cases he : k = inv x
            · have e1 : tm x k = 1 := by rw [he]; exact (FX.out h0).2.1
              rw [e1] at TM
              have HE := Lib.hid he
              clear e1 he
              go_wp2_with fail
              with_reducible refine TM.out.mono ?_
              rintro e w1 ⟨rfl, rfl⟩
              go_wp2_with fail
              go_meet
              case rel => exact ⟨by rw [HE.out], rfl⟩
            · have e1 : tm x k ≠ 1 := (FX.out h0).1 k (by omega)
              generalize tm x k = t at *
              have e2 : ((t : Int) == 1) = false := by simp; omega
              go_wp2_with fail
              with_reducible refine TM.out.mono ?_
              rintro e w1 ⟨rfl, rfl⟩
              go_wp2_with fail
              go_roundw
              case rel => exact ⟨k + 1, by omega, by omega, by go_num, rfl, fun _ => by omega, by trivial⟩
              case measure => simp [intOf]; omega
          · have hz := Lib.hid (show inv x = 0 by rw [show x = 0 by omega]; rfl)
            have q0 : ¬ 0 < (x : Int) := by omega
            by_cases hk2 : k < 256
            · have q1 : (k : Int) < 256 := by omega
              go_wp2_with fail
              go_meet
              case rel => exact ⟨by rw [hz.out]; rfl, rfl⟩
            · have q1 : ¬ (k : Int) < 256 := by omega
              go_wp2_with fail
              go_meet
              case rel => exact ⟨by rw [hz.out]; rfl, rfl⟩
      case rest =>
      obtain ⟨rfl, rfl⟩ := hcut
      have HV := Lib.hid (inv_lt x hlt)
      have HB : Hid (bx (inv x) 8 = (sbox.getD x 0).toNat) := Lib.hid (bx_box x hlt)
      generalize inv x = v at *
      clear FX
      go_wp2_with fail
      go_loopw [6, 5] (fun i s wr => ∃ k : Nat, k ≤ 8 ∧ i = .int .i64 k ∧ s = .int .i64 (bx v k : Nat) ∧ blockIs wr w.heap.size (cellsI (boxF x) 256) 3 ∧ Below w.heap.size w wr) (fun i _ _ => (8 - intOf i).toNat)
      case atStart => exact ⟨0, by omega, rfl, rfl, H1.out, H2.out⟩
      case round =>
        obtain ⟨k, hk, rfl, rfl, h1, h2⟩ := hrel
        have H1 := Lib.hid h1
        have H2 := Lib.hid h2
        clear h1 h2
        by_cases hlt8 : k < 8
        · have q8 : (k : Int) < 8 := by omega
          have hv := HV.out
          have s0 := shr_lt v k 8 hv
          have s4 := shr_lt v ((k + 4) % 8) 8 hv
          have s5 := shr_lt v ((k + 5) % 8) 8 hv
          have s6 := shr_lt v ((k + 6) % 8) 8 hv
          have s7 := shr_lt v ((k + 7) % 8) 8 hv
          have s9 := shr_lt 0x63 k 8 (by decide)
          have HN : Hid (bx v (k + 1) = bx v k + (bit v k % 2) <<< k) := Lib.hid rfl
          have HBT : Hid (bit v k = (((((v >>> k) ^^^ (v >>> ((k + 4) % 8))) ^^^ (v >>> ((k + 5) % 8))) ^^^ (v >>> ((k + 6) % 8))) ^^^ (v >>> ((k + 7) % 8))) ^^^ (0x63 >>> k)) := Lib.hid rfl
          have HL := Lib.hid (bx_lt v k)
          have HP : Hid (2 ^ k ≤ 2 ^ 7) := Lib.hid (Nat.pow_le_pow_right (by decide) (by omega))
          have x1 := Nat.xor_lt_two_pow s0 s4
          have x2 := Nat.xor_lt_two_pow x1 s5
          have x3 := Nat.xor_lt_two_pow x2 s6
          have x4 := Nat.xor_lt_two_pow x3 s7
          have x5 := Nat.xor_lt_two_pow x4 s9
          have d0 := int_shr v k
          have d4 := int_shr v ((k + 4) % 8)
          have d5 := int_shr v ((k + 5) % 8)
          have d6 := int_shr v ((k + 6) % 8)
          have d7 := int_shr v ((k + 7) % 8)
          have d9 : (99 : Int) / (2 : Int) ^ k = ((99 >>> k : Nat) : Int) := int_shr 99 k
          generalize bx v k = bk at *
          generalize bit v k = bt at *
          generalize v >>> k = y0 at *
          generalize v >>> ((k + 4) % 8) = y4 at *
          generalize v >>> ((k + 5) % 8) = y5 at *
          generalize v >>> ((k + 6) % 8) = y6 at *
          generalize v >>> ((k + 7) % 8) = y7 at *
          generalize 99 >>> k = y9 at *
          have g1 := i64_xor_nat y0 y4 (by omega) (by omega)
          have g2 := i64_xor_nat (y0 ^^^ y4) y5 (by omega) (by omega)
          have g3 := i64_xor_nat (y0 ^^^ y4 ^^^ y5) y6 (by omega) (by omega)
          have g4 := i64_xor_nat (y0 ^^^ y4 ^^^ y5 ^^^ y6) y7 (by omega) (by omega)
          have g5 := i64_xor_nat (y0 ^^^ y4 ^^^ y5 ^^^ y6 ^^^ y7) y9 (by omega) (by omega)
          generalize y0 ^^^ y4 = z1 at *
          generalize z1 ^^^ y5 = z2 at *
          generalize z2 ^^^ y6 = z3 at *
          generalize z3 ^^^ y7 = z4 at *
          generalize z4 ^^^ y9 = z5 at *
          obtain rfl : bt = z5 := HBT.out
          clear HBT s0 s4 s5 s6 s7 s9 x1 x2 x3 x4 x5 hv
          have m4 : ((k : Int) + 4) % 8 = (((k + 4) % 8 : Nat) : Int) := by omega
          have m5 : ((k : Int) + 5) % 8 = (((k + 5) % 8 : Nat) : Int) := by omega
          have m6 : ((k : Int) + 6) % 8 = (((k + 6) % 8 : Nat) : Int) := by omega
          have m7 : ((k : Int) + 7) % 8 = (((k + 7) % 8 : Nat) : Int) := by omega
          generalize (k + 4) % 8 = k4 at *
          generalize (k + 5) % 8 = k5 at *
          generalize (k + 6) % 8 = k6 at *
          generalize (k + 7) % 8 = k7 at *
          have w4 : IntKind.i64.wrap ((k : Int) + 4) = (k : Int) + 4 := IntWalk.i64_in _ (by omega)
          have w5 : IntKind.i64.wrap ((k : Int) + 5) = (k : Int) + 5 := IntWalk.i64_in _ (by omega)
          have w6 : IntKind.i64.wrap ((k : Int) + 6) = (k : Int) + 6 := IntWalk.i64_in _ (by omega)
          have w7 : IntKind.i64.wrap ((k : Int) + 7) = (k : Int) + 7 := IntWalk.i64_in _ (by omega)
          have p4 : 0 ≤ (k : Int) + 4 := by omega
          have p5 : 0 ≤ (k : Int) + 5 := by omega
          have p6 : 0 ≤ (k : Int) + 6 := by omega
          have p7 : 0 ≤ (k : Int) + 7 := by omega
          obtain ⟨t, ht⟩ : ∃ t, t = bt % 2 := ⟨_, rfl⟩
          have b2 : (bt : Int) % 2 = (t : Int) := by omega
          have t2 : t < 2 := by omega
          rw [← ht] at HN
          clear ht
          have HT2 : t <<< k < 2 ^ (1 + k) := shl_le t k 1 t2
          have HP2 : 2 ^ (1 + k) ≤ 2 ^ 8 := Nat.pow_le_pow_right (by decide) (by omega)
          have c1 : IntKind.i64.wrap ((t : Int) * 2 ^ k) = ((t <<< k : Nat) : Int) := int_shl t k (by rw [Nat.shiftLeft_eq] at HT2; omega)
          have hL := HL.out
          have hP := HP.out
          have hT : t <<< k < 256 := Nat.lt_of_lt_of_le HT2 HP2
          have hK : bk < 128 := Nat.lt_of_lt_of_le hL hP
          clear hL hP HL HP HT2 HP2 t2
          generalize t <<< k = tk at *
          have c2 : IntKind.i64.wrap ((bk : Int) + ((tk : Nat) : Int)) = ((bk + tk : Nat) : Int) := by
            clear c1
            rw [IntWalk.i64_in _ (by omega)]; rfl
          generalize bk + tk = nb at *
          go_wp2_with fail
          go_quiet (fail)
          go_wp2_with fail
          go_roundw
          case rel => exact ⟨k + 1, by omega, by go_num, by rw [HN.out], H1.out, below_drewN H2.out _⟩
          case measure => simp [intOf]; omega
        · obtain rfl : k = 8 := by omega
          have HB' := HB.out
          generalize bx v 8 = b8 at *
          have HB2 := Lib.hid HB'
          clear HB' HB
          have p0 : 0 ≤ (x : Int) := by omega
          have c4 : wr.frozen? ⟨w.heap.size, x, none⟩ = false := H1.out.free x
          obtain ⟨z, c5⟩ : ∃ z, wr.cell? ⟨w.heap.size, x, none⟩ = some z := ⟨_, H1.out.at x (by rw [cellsI_length]; omega)⟩
          go_wp2_with fail
          go_roundw
          case rel =>
            refine ⟨x + 1, by omega, by go_num, ?_, H2.out.setCell (Nat.le_refl _) _⟩
            have := H1.out.set x (.int .i64 (((sbox.getD x 0).toNat : Nat) : Int))
            rw [boxF_next x hlt] at this
            rw [HB2.out]
            exact this
          case measure => simp [intOf]; omega
    · obtain rfl : x = 256 := by omega
      go_wp2_with fail
      go_ret
      exact ⟨rfl, H1.out, H2.out⟩
end Go.Proofs.Ytklbbeilbpcnoaa
