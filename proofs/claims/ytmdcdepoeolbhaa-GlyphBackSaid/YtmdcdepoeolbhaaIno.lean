/- A reader's Text and Flag; Open of what isn't so. -/
import Derived.Test.YtmdcdepoeolbhaaInm
namespace Go.Proofs.Ytmdcdepoeolbhaa
open Go.RowKit

/-- Num, as what it tells and what it leaves. -/
def NumTo (L : List UInt8) (e most n : Int) (L1 : List UInt8) (e1 : Int) : Prop :=
  (e ≠ 0 ∧ n = 0 ∧ L1 = L ∧ e1 = e) ∨ (e = 0 ∧ bad L e1 ∧ n = 0 ∧ L1 = L) ∨
    (e = 0 ∧ ∃ N s : Nat, N < 4611686018427387904 ∧ s ≤ L.length ∧ numBytes N = L.take s ∧ ((most < (N : Int) ∧ n = 0 ∧ L1 = L ∧ e1 = 4) ∨ ((N : Int) ≤ most ∧ n = N ∧ L1 = L.drop s ∧ e1 = 0)))
theorem rnum_to (k : Nat) (L : List UInt8) (e most : Int) (w : World) (h : RdAt w k L e) :
    Calls Try.prog 22 #[.pointer (some ⟨k, 0, none⟩), .int .i64 most] w fun r w' => ∃ n L1 e1, Hid (NumTo L e most n L1 e1) ∧ r = .returned (.int .i64 n) ∧ Hid (RdAt w' k L1 e1) ∧ Hid (But k w w') := by
  refine (rnum_any k L e most w h).mono ?_
  rintro r w' ⟨hb, ⟨he, rfl, hr⟩ | ⟨he, er, hbad, rfl, hr⟩ | ⟨he, N, s, hN, hs, hnb, ⟨hm, rfl, hr⟩ | ⟨hm, rfl, hr⟩⟩⟩
  · exact ⟨0, L, e, Lib.hid (Or.inl ⟨he, rfl, rfl, rfl⟩), rfl, Lib.hid hr, Lib.hid hb⟩
  · exact ⟨0, L, er, Lib.hid (Or.inr (Or.inl ⟨he, hbad, rfl, rfl⟩)), rfl, Lib.hid hr, Lib.hid hb⟩
  · exact ⟨0, L, 4, Lib.hid (Or.inr (Or.inr ⟨he, N, s, hN, hs, hnb, Or.inl ⟨hm, rfl, rfl, rfl⟩⟩)), rfl, Lib.hid hr, Lib.hid hb⟩
  · exact ⟨N, L.drop s, 0, Lib.hid (Or.inr (Or.inr ⟨he, N, s, hN, hs, hnb, Or.inr ⟨hm, rfl, rfl, rfl⟩⟩)), rfl, Lib.hid hr, Lib.hid hb⟩
set_option maxRecDepth 100000 in
set_option maxHeartbeats 1000000 in
theorem rtext_to (k : Nat) (L : List UInt8) (e most : Int) (w : World) (h : RdAt w k L e) :
    Calls Try.prog 23 #[.pointer (some ⟨k, 0, none⟩), .int .i64 most] w fun r w' => ∃ n L1 e1, Hid (NumTo L e (min most 131072) n L1 e1) ∧ r = .returned (.string (str (tOut L1 e1 n))) ∧ Hid (RdAt w' k (tLeft L1 e1 n) (tErr L1 e1 n)) ∧ Hid (But k w w') := by
  have PN := Lib.hid (rnum_to k L e (min most 131072) w h)
  clear h
  go_enter Try.func23, Try.ntmps23
  go_wp2_with fail
  with_reducible refine PN.out.mono ?_
  rintro r w1 ⟨n, L1, e1, hn, rfl, hr, hb⟩
  have PT := Lib.hid (rtake_any k L1 e1 n w1 hr.out)
  clear hr
  go_wp2_with fail
  with_reducible refine PT.out.mono ?_
  rintro r w2 ⟨a, c, rfl, -, -, hin, hr, hb2⟩
  have cv := conv_string w2 a (tOut L1 e1 n) c hin
  have R2 := Lib.hid hr
  have B2 := Lib.hid (hb.out.trans hb2)
  clear hin hr hb2 hb PN PT
  generalize hT : tOut L1 e1 n = T at *
  have HT := Lib.hid hT
  clear hT
  go_wp2_with fail
  go_ret
  exact ⟨n, L1, e1, hn, by rw [HT.out]; rfl, R2, B2⟩
/-- Flag, as what it tells and what it leaves. -/
def FlagTo (L : List UInt8) (e : Int) (y : Bool) (e1 : Int) : Prop :=
  (tOut L e 1 = [] ∧ y = false ∧ e1 = tErr L e 1) ∨ ∃ x : UInt8, tOut L e 1 = [x] ∧ ((1 < x.toNat ∧ y = false ∧ e1 = 2) ∨ (x.toNat ≤ 1 ∧ y = decide (x.toNat = 1) ∧ e1 = tErr L e 1))
theorem tOut_one (L : List UInt8) (e : Int) : tOut L e 1 = [] ∨ ∃ x, tOut L e 1 = [x] := by
  unfold tOut
  split
  · match L with
    | [] => left; rfl
    | x :: _ => right; exact ⟨x, rfl⟩
  · left; rfl
set_option maxRecDepth 100000 in
set_option maxHeartbeats 1000000 in
theorem rflag_to (k : Nat) (L : List UInt8) (e : Int) (w : World) (h : RdAt w k L e) :
    Calls Try.prog 24 #[.pointer (some ⟨k, 0, none⟩)] w fun r w' => ∃ y e1, Hid (FlagTo L e y e1) ∧ r = .returned (.bool y) ∧ Hid (RdAt w' k (tLeft L e 1) e1) ∧ Hid (But k w w') := by
  have PT := Lib.hid (rtake_any k L e 1 w h)
  clear h
  go_enter Try.func24, Try.ntmps24
  go_wp2_with fail
  with_reducible refine PT.out.mono ?_
  rintro r w1 ⟨a, c, rfl, -, -, hin, hr, hb⟩
  have R1 := Lib.hid hr
  have B1 := Lib.hid hb
  clear hr hb PT
  rcases tOut_one L e with h0 | ⟨x, hx⟩
  · rw [h0]
    have F0 : Hid (FlagTo L e false (tErr L e 1)) := Lib.hid (Or.inl ⟨h0, rfl, rfl⟩)
    clear hin h0
    go_wp2_with fail
    go_ret
    exact ⟨false, _, F0, rfl, R1, B1⟩
  · rw [hx] at hin ⊢
    obtain ⟨bb, bo, rfl, hc⟩ : ∃ b o, a = some ⟨b, o, none⟩ ∧ w1.cell? ⟨b, o, none⟩ = some (.int .u8 (V x)) := by
      rcases hin with h | ⟨b, o, h1, h2⟩
      · cases h
      · exact ⟨b, o, h1, h2 0 (by simp)⟩
    obtain ⟨f1, f2⟩ := R1.out.fault
    clear hin
    have hxl := x.toNat_lt
    by_cases hbig : 1 < x.toNat
    · have b1 : (1 : Int) < V x := by unfold V; omega
      have F0 : Hid (FlagTo L e false 2) := Lib.hid (Or.inr ⟨x, hx, Or.inl ⟨hbig, rfl, rfl⟩⟩)
      clear hx
      go_wp2_with fail
      go_ret
      exact ⟨false, 2, F0, rfl, Lib.hid (R1.out.setFault 2), Lib.hid (B1.out.trans ((But.refl k w1).setCell _ _ (Or.inl rfl)))⟩
    · have b1 : ¬ (1 : Int) < V x := by unfold V; omega
      by_cases h1 : x.toNat = 1
      · have b2 : (V x == 1) = true := by simp [V]; omega
        have F0 : Hid (FlagTo L e true (tErr L e 1)) := Lib.hid (Or.inr ⟨x, hx, Or.inr ⟨by omega, by simp [h1], rfl⟩⟩)
        clear hx h1
        go_wp2_with fail
        go_ret
        exact ⟨true, _, F0, rfl, R1, B1⟩
      · have b2 : (V x == 1) = false := by simp [V]; omega
        have F0 : Hid (FlagTo L e false (tErr L e 1)) := Lib.hid (Or.inr ⟨x, hx, Or.inr ⟨by omega, by simp [h1], rfl⟩⟩)
        clear hx h1
        go_wp2_with fail
        go_ret
        exact ⟨false, _, F0, rfl, R1, B1⟩
end Go.Proofs.Ytmdcdepoeolbhaa
