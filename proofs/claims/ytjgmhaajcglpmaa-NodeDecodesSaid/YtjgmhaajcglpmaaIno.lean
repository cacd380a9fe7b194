/- A reader's Text and Flag; Open of what isn't so. -/
import Derived.Test.YtjgmhaajcglpmaaInm
namespace Go.Proofs.Ytjgmhaajcglpmaa
variable {B : Nat}
open Go.RowKit

/-- Num, as what it tells and what it leaves. -/
def NumTo (L : List UInt8) (e most n : Int) (L1 : List UInt8) (e1 : Int) : Prop :=
  (e ≠ 0 ∧ n = 0 ∧ L1 = L ∧ e1 = e) ∨ (e = 0 ∧ bad L e1 ∧ n = 0 ∧ L1 = L) ∨
    (e = 0 ∧ ∃ N s : Nat, N < 4611686018427387904 ∧ s ≤ L.length ∧ numBytes N = L.take s ∧ ((most < (N : Int) ∧ n = 0 ∧ L1 = L ∧ e1 = 4) ∨ ((N : Int) ≤ most ∧ n = N ∧ L1 = L.drop s ∧ e1 = 0)))
theorem rnum_to (k : Nat) (L : List UInt8) (e most : Int) (w : World) (h : RdAt B w k L e) :
    Calls Try.prog 43 #[.pointer (some ⟨k, 0, none⟩), .int .i64 most] w fun r w' => ∃ n L1 e1, Hid (NumTo L e most n L1 e1) ∧ r = .returned (.int .i64 n) ∧ Hid (RdAt B w' k L1 e1) ∧ Hid (But k w w') := by
  refine (rnum_any k L e most w h).mono ?_
  rintro r w' ⟨hb, ⟨he, rfl, hr⟩ | ⟨he, er, hbad, rfl, hr⟩ | ⟨he, N, s, hN, hs, hnb, ⟨hm, rfl, hr⟩ | ⟨hm, rfl, hr⟩⟩⟩
  · exact ⟨0, L, e, Lib.hid (Or.inl ⟨he, rfl, rfl, rfl⟩), rfl, Lib.hid hr, Lib.hid hb⟩
  · exact ⟨0, L, er, Lib.hid (Or.inr (Or.inl ⟨he, hbad, rfl, rfl⟩)), rfl, Lib.hid hr, Lib.hid hb⟩
  · exact ⟨0, L, 4, Lib.hid (Or.inr (Or.inr ⟨he, N, s, hN, hs, hnb, Or.inl ⟨hm, rfl, rfl, rfl⟩⟩)), rfl, Lib.hid hr, Lib.hid hb⟩
  · exact ⟨N, L.drop s, 0, Lib.hid (Or.inr (Or.inr ⟨he, N, s, hN, hs, hnb, Or.inr ⟨hm, rfl, rfl, rfl⟩⟩)), rfl, Lib.hid hr, Lib.hid hb⟩
set_option maxRecDepth 100000 in
set_option maxHeartbeats 1000000 in
theorem rtext_to (k : Nat) (L : List UInt8) (e most : Int) (w : World) (h : RdAt B w k L e) :
    Calls Try.prog 61 #[.pointer (some ⟨k, 0, none⟩), .int .i64 most] w fun r w' => ∃ n L1 e1, Hid (NumTo L e (min most 131072) n L1 e1) ∧ r = .returned (.string (str (tOut L1 e1 n))) ∧ Hid (RdAt B w' k (tLeft L1 e1 n) (tErr L1 e1 n)) ∧ Hid (But k w w') := by
  have PN := Lib.hid (rnum_to k L e (min most 131072) w h)
  clear h
  go_enter Try.func61, Try.ntmps61
  go_wp2_with fail
  with_reducible refine PN.out.mono ?_
  rintro r w1 ⟨n, L1, e1, hn, rfl, hr, hb⟩
  have PT := Lib.hid (rtake_any k L1 e1 n w1 hr.out)
  clear hr
  go_wp2_with fail
  with_reducible refine PT.out.mono ?_
  rintro r w2 ⟨a, c, rfl, -, -, hin, hr, hb2⟩
  have cv := conv_string w2 a (tOut L1 e1 n) c hin
  have R2 := Lib.hid hr
  have B2 := Lib.hid (hb.out.trans hb2)
  clear hin hr hb2 hb PN PT
  generalize hT : tOut L1 e1 n = T at *
  have HT := Lib.hid hT
  clear hT
  go_wp2_with fail
  go_ret
  exact ⟨n, L1, e1, hn, by rw [HT.out]; rfl, R2, B2⟩
/-- Flag, as what it tells and what it leaves. -/
def FlagTo (L : List UInt8) (e : Int) (y : Bool) (e1 : Int) : Prop :=
  (tOut L e 1 = [] ∧ y = false ∧ e1 = tErr L e 1) ∨ ∃ x : UInt8, tOut L e 1 = [x] ∧ ((1 < x.toNat ∧ y = false ∧ e1 = 2) ∨ (x.toNat ≤ 1 ∧ y = decide (x.toNat = 1) ∧ e1 = tErr L e 1))
theorem tOut_one (L : List UInt8) (e : Int) : tOut L e 1 = [] ∨ ∃ x, tOut L e 1 = [x] := by
  unfold tOut
  split
  · match L with
    | [] => left; rfl
    | x :: _ => right; exact ⟨x, rfl⟩
  · left; rfl
end Go.Proofs.Ytjgmhaajcglpmaa
