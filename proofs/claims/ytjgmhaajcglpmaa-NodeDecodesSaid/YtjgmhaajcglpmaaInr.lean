/- A reader's calls, whatever it holds: take, Num, Text, Flag, Raw, End. -/
import Derived.Test.YtjgmhaajcglpmaaIop
import Derived.Test.YtjgmhaajcglpmaaIrx
namespace Go.Proofs.Ytjgmhaajcglpmaa
variable {B : Nat}
open Go.RowKit

/-- A reader: the bytes that are left, the first fault. -/
def RdAt (B : Nat) (w : World) (k : Nat) (L : List UInt8) (e : Int) : Prop := ∃ p : Pt, InAt w k p e ∧ p.far k ∧ p.l = L ∧ (p.a = none → p.c = 0) ∧ ∀ j, B ≤ j → p.far j
theorem RdAt.below {w w' : World} {k : Nat} {L : List UInt8} {e : Int} (h : RdAt B w k L e) (b : Below w.heap.size w w') : RdAt B w' k L e := by
  obtain ⟨p, h1, h2, h3, h4⟩ := h
  exact ⟨p, h1.below b, h2, h3, h4⟩
theorem RdAt.fault {w : World} {k : Nat} {L : List UInt8} {e : Int} (h : RdAt B w k L e) : w.cell? ⟨k, 1, none⟩ = some (.int .i64 e) ∧ w.frozen? ⟨k, 1, none⟩ = false := by
  obtain ⟨p, h1, h2, h3, h4⟩ := h
  exact ⟨by rw [h1.1.cell]; rfl, h1.1.free 1⟩
theorem RdAt.setFault {w : World} {k : Nat} {L : List UInt8} {e : Int} (h : RdAt B w k L e) (e' : Int) : RdAt B (w.setCell ⟨k, 1, none⟩ (.int .i64 e')) k L e' := by
  obtain ⟨p, h1, h2, h3, h4⟩ := h
  exact ⟨p, ⟨h1.1.set 1 _, h1.2.past ((But.refl k w).setCell _ _ (Or.inl rfl)) h2⟩, h2, h3, h4⟩
theorem RdAt.keep {w w' : World} {k : Nat} {L : List UInt8} {e : Int} (h : RdAt B w k L e) {g : Nat} (hb : But g w w') (hg : B ≤ g) (hk : k ≠ g) : RdAt B w' k L e := by
  obtain ⟨p, h1, h2, h3, h4, h5⟩ := h
  exact ⟨p, ⟨blockIs.but hb h1.1 hk, h1.2.past hb (h5 g hg)⟩, h2, h3, h4, h5⟩
theorem Pt.sub_none {p : Pt} (h : p.a = none → p.c = 0) (i j : Nat) : (p.sub i j).a = none → (p.sub i j).c = 0 := fun hn => by
  have hn : (if p.c = i then p.a else p.a.map (fun x => x.add i)) = none := hn
  show p.c - i = 0
  split at hn
  · omega
  · have := h (by simpa using hn); omega
theorem rgives_any (k : Nat) (L : List UInt8) (e : Int) (w : World) (h : RdAt B w k L e) :
    Calls Try.prog 58 #[.pointer (some ⟨k, 0, none⟩)] w fun r w' => r = .returned (.bool (e == 0)) ∧ w = w' := by
  obtain ⟨p, h1, -⟩ := h
  exact gives_any k p e w h1
theorem rerr_any (k : Nat) (L : List UInt8) (e : Int) (w : World) (h : RdAt B w k L e) :
    Calls Try.prog 45 #[.pointer (some ⟨k, 0, none⟩)] w fun r w' => r = .returned (.int .i64 e) ∧ w = w' := by
  obtain ⟨p, h1, -⟩ := h
  exact err_any k p e w h1
/-- What take gives, what it leaves, which fault there is then. -/
def tOut (L : List UInt8) (e n : Int) : List UInt8 := if e = 0 ∧ 0 ≤ n ∧ n ≤ (L.length : Int) then L.take n.toNat else []
def tLeft (L : List UInt8) (e n : Int) : List UInt8 := if e = 0 ∧ 0 ≤ n ∧ n ≤ (L.length : Int) then L.drop n.toNat else L
def tErr (L : List UInt8) (e n : Int) : Int := if e ≠ 0 then e else if n < 0 then 1 else if (L.length : Int) < n then 3 else 0
/-- What a call that takes answers. -/
def Took (B : Nat) (w : World) (k : Nat) (L : List UInt8) (e n : Int) (r : Ending) (w' : World) : Prop :=
  ∃ a c, r = .returned (.slice a (tOut L e n).length c) ∧ (a = none → c = 0) ∧ (tOut L e n).length ≤ c ∧ bytesIn w' a (tOut L e n) ∧ RdAt B w' k (tLeft L e n) (tErr L e n) ∧ But k w w'

set_option maxRecDepth 100000 in
set_option maxHeartbeats 2000000 in
theorem rtake_any (k : Nat) (L : List UInt8) (e n : Int) (w : World) (h : RdAt B w k L e) :
    Calls Try.prog 60 #[.pointer (some ⟨k, 0, none⟩), .int .i64 n] w (Took B w k L e n) := by
  by_cases hok : e = 0 ∧ 0 ≤ n ∧ n ≤ (L.length : Int)
  · obtain ⟨p, h1, h2, rfl, h4, hB⟩ := h
    obtain ⟨rfl, h5, h6⟩ := hok
    obtain ⟨m, rfl⟩ : ∃ m : Nat, n = (m : Int) := ⟨n.toNat, by omega⟩
    refine (take_ok k p m w h1 h2 (by omega)).mono ?_
    rintro r w' ⟨rfl, hi, hb⟩
    have e1 : tOut p.l 0 (m : Int) = p.l.take m := by unfold tOut; rw [if_pos ⟨rfl, h5, h6⟩, Int.toNat_natCast]
    have e2 : tLeft p.l 0 (m : Int) = p.l.drop m := by unfold tLeft; rw [if_pos ⟨rfl, h5, h6⟩, Int.toNat_natCast]
    have e3 : tErr p.l 0 (m : Int) = 0 := by unfold tErr; rw [if_neg (by simp), if_neg (by omega), if_neg (by omega)]
    have so := Pt.sub_ok (h1.2.past hb h2) 0 m (Nat.zero_le _) (by omega)
    have el : (p.sub 0 m).l = p.l.take m := by show (p.l.take m).drop 0 = _; rw [List.drop_zero]
    refine ⟨(p.sub 0 m).a, (p.sub 0 m).c, by rw [e1, ← el]; rfl, Pt.sub_none h4 0 m, by rw [e1, ← el]; exact so.1, by rw [e1, ← el]; exact so.2.2, ⟨p.sub m p.l.length, by rw [e3]; exact hi, Pt.far_sub h2 _ _, ?_, Pt.sub_none h4 _ _, fun j hj => Pt.far_sub (hB j hj) _ _⟩, hb⟩
    rw [e2]
    show (p.l.take p.l.length).drop m = _
    rw [List.take_length]
  · have e1 : tOut L e n = [] := by unfold tOut; rw [if_neg hok]
    have e2 : tLeft L e n = L := by unfold tLeft; rw [if_neg hok]
    have PG := Lib.hid (rgives_any k L e w h)
    have H := Lib.hid h
    obtain ⟨p, h1, h2, hpl, h4⟩ := h
    have c0 : w.cell? ⟨k, 0, none⟩ = some (.slice p.a L.length p.c) := by rw [h1.1.cell, ← hpl]; rfl
    have f1 := h1.1.free 1
    have c1 : w.cell? ⟨k, 1, none⟩ = some (.int .i64 e) := by rw [h1.1.cell]; rfl
    have fin : ∀ (e' : Int) (w' : World), tErr L e n = e' → RdAt B w' k L e' → But k w w' → Took B w k L e n (.returned (.slice none 0 0)) w' := fun e' w' h h' hb => by
      unfold Took
      rw [e1, e2, h]
      exact ⟨none, 0, rfl, fun _ => rfl, Nat.le_refl _, Or.inl rfl, h', hb⟩
    have FIN := Lib.hid fin
    have hb : But k w (w.setCell ⟨k, 1, none⟩ (.int .i64 1)) := (But.refl k w).setCell _ _ (Or.inl rfl)
    have hb3 : But k w (w.setCell ⟨k, 1, none⟩ (.int .i64 3)) := (But.refl k w).setCell _ _ (Or.inl rfl)
    have HB := Lib.hid hb
    have HB3 := Lib.hid hb3
    clear h1 h2 h4 hpl fin e1 e2 hb hb3
    by_cases he : e = 0
    · subst he
      by_cases hn : n < 0
      · have ER : Hid (tErr L 0 n = 1) := Lib.hid (by unfold tErr; rw [if_neg (by simp), if_pos hn])
        clear hok
        go_enter Try.func60, Try.ntmps60
        go_wp2_with fail
        with_reducible refine PG.out.mono ?_
        rintro e w' ⟨rfl, rfl⟩
        go_wp2_with fail
        go_ret
        exact FIN.out 1 _ ER.out (H.out.setFault 1) HB.out
      · have hgt : (L.length : Int) < n := by omega
        have ER : Hid (tErr L 0 n = 3) := Lib.hid (by unfold tErr; rw [if_neg (by simp), if_neg hn, if_pos hgt])
        clear hok
        go_enter Try.func60, Try.ntmps60
        go_wp2_with fail
        with_reducible refine PG.out.mono ?_
        rintro e w' ⟨rfl, rfl⟩
        go_wp2_with fail
        go_ret
        exact FIN.out 3 _ ER.out (H.out.setFault 3) HB3.out
    · have ER : Hid (tErr L e n = e) := Lib.hid (by unfold tErr; rw [if_pos he])
      have b0 : (e == 0) = false := by simpa using he
      clear hok he
      go_enter Try.func60, Try.ntmps60
      go_wp2_with fail
      with_reducible refine PG.out.mono ?_
      rintro e w' ⟨rfl, rfl⟩
      go_wp2_with fail
      go_ret
      exact FIN.out e _ ER.out H.out (But.refl _ _)
end Go.Proofs.Ytjgmhaajcglpmaa
