/- A reader's Num, Text, Flag, Raw, End. -/
import Derived.Test.YtjgmhaajcglpmaaInr
namespace Go.Proofs.Ytjgmhaajcglpmaa
variable {B : Nat}
open Go.RowKit

/-- What Num answers. -/
def NumRead (B : Nat) (w : World) (k : Nat) (L : List UInt8) (e most : Int) (r : Ending) (w' : World) : Prop :=
  But k w w' ∧ ((e ≠ 0 ∧ r = .returned (.int .i64 0) ∧ RdAt B w' k L e) ∨ (e = 0 ∧ ∃ er, bad L er ∧ r = .returned (.int .i64 0) ∧ RdAt B w' k L er) ∨
    (e = 0 ∧ ∃ N s : Nat, N < 4611686018427387904 ∧ s ≤ L.length ∧ numBytes N = L.take s ∧ ((most < (N : Int) ∧ r = .returned (.int .i64 0) ∧ RdAt B w' k L 4) ∨ ((N : Int) ≤ most ∧ r = .returned (.int .i64 N) ∧ RdAt B w' k (L.drop s) 0))))
theorem bad_ne {L : List UInt8} {er : Int} (h : bad L er) : er ≠ 0 := by
  rcases h with ⟨h, _⟩ | ⟨h, _⟩ | ⟨h, _⟩ <;> rw [h] <;> decide

set_option maxRecDepth 100000 in
set_option maxHeartbeats 2000000 in
theorem rnum_any (k : Nat) (L : List UInt8) (e most : Int) (w : World) (h : RdAt B w k L e) :
    Calls Try.prog 43 #[.pointer (some ⟨k, 0, none⟩), .int .i64 most] w (NumRead B w k L e most) := by
  have PG := Lib.hid (rgives_any k L e w h)
  have H := Lib.hid h
  by_cases he : e = 0
  · subst he
    obtain ⟨p, h1, h2, rfl, h4⟩ := h
    have PR := Lib.hid (numread_is p w h1.2)
    have HF := Lib.hid h2
    have c0 : w.cell? ⟨k, 0, none⟩ = some (.slice p.a p.l.length p.c) := by rw [h1.1.cell]; rfl
    have c1 : w.cell? ⟨k, 1, none⟩ = some (.int .i64 0) := by rw [h1.1.cell]; rfl
    have f1 := h1.1.free 1
    clear h1 h2 h4
    go_enter Try.func43, Try.ntmps43
    go_wp2_with fail
    with_reducible refine PG.out.mono ?_
    rintro e w' ⟨rfl, rfl⟩
    go_wp2_with fail
    with_reducible refine PR.out.mono ?_
    rintro e w' ⟨rfl, ⟨er, her, rfl⟩ | ⟨N, hN, s, hs, hb, rfl⟩⟩
    · have b0 : (er == 0) = false := by simpa using bad_ne her
      have HE := Lib.hid her
      clear her
      go_wp2_with fail
      go_ret
      exact ⟨(But.refl k w).setCell _ _ (Or.inl rfl), Or.inr (Or.inl ⟨rfl, er, HE.out, rfl, H.out.setFault er⟩)⟩
    · have HN := Lib.hid hN
      have HS := Lib.hid hs
      have HB := Lib.hid hb
      by_cases hm : most < (N : Int)
      · have HM := Lib.hid hm
        clear hN hs hb
        go_wp2_with fail
        go_ret
        exact ⟨(But.refl k w).setCell _ _ (Or.inl rfl), Or.inr (Or.inr ⟨rfl, N, s, HN.out, HS.out, HB.out, Or.inl ⟨HM.out, rfl, H.out.setFault 4⟩⟩)⟩
      · have PT := rtake_any k p.l 0 (s : Int) w H.out
        have e2 : tLeft p.l 0 (s : Int) = p.l.drop s := by unfold tLeft; rw [if_pos ⟨rfl, by omega, by omega⟩, Int.toNat_natCast]
        have e3 : tErr p.l 0 (s : Int) = 0 := by unfold tErr; rw [if_neg (by simp), if_neg (by omega), if_neg (by omega)]
        unfold Took at PT
        rw [e2, e3] at PT
        have PT := Lib.hid PT
        have HM : Hid ((N : Int) ≤ most) := Lib.hid (by omega)
        have bm : decide (most < (N : Int)) = false := by simpa using hm
        clear hN hs hb hm e2 e3
        go_wp2_with fail
        with_reducible refine PT.out.mono ?_
        rintro e w' ⟨a, c, rfl, -, -, -, hr, hbut⟩
        have I1 := Lib.hid hr
        have B1 := Lib.hid hbut
        clear hr hbut
        go_wp2_with fail
        go_ret
        exact ⟨B1.out, Or.inr (Or.inr ⟨rfl, N, s, HN.out, HS.out, HB.out, Or.inr ⟨HM.out, rfl, I1.out⟩⟩)⟩
  · have b0 : (e == 0) = false := by simpa using he
    have HE := Lib.hid he
    clear h he
    go_enter Try.func43, Try.ntmps43
    go_wp2_with fail
    with_reducible refine PG.out.mono ?_
    rintro e w' ⟨rfl, rfl⟩
    go_wp2_with fail
    go_ret
    exact ⟨But.refl k w, Or.inl ⟨HE.out, rfl, H.out⟩⟩

/-- What Raw answers. -/
def RawRead (B : Nat) (w : World) (k : Nat) (L : List UInt8) (e n : Int) (r : Ending) (w' : World) : Prop :=
  ∃ v, r = .returned v ∧ rowIs w' w.heap.size v (tOut L e n) ∧ RdAt B w' k (tLeft L e n) (tErr L e n) ∧ But k w w'
set_option maxRecDepth 100000 in
set_option maxHeartbeats 1000000 in
theorem rraw_any (k : Nat) (L : List UInt8) (e n : Int) (w : World) (h : RdAt B w k L e) (hl : L.length ≤ 100000000) :
    Calls Try.prog 63 #[.pointer (some ⟨k, 0, none⟩), .int .i64 n] w (RawRead B w k L e n) := by
  have PT := Lib.hid (rtake_any k L e n w h)
  have hol : (tOut L e n).length ≤ 100000000 := by
    unfold tOut
    split
    · rw [List.length_take]; omega
    · exact Nat.zero_le _
  have HO := Lib.hid hol
  clear h hl hol
  go_enter Try.func63, Try.ntmps63
  go_wp2_with fail
  with_reducible refine PT.out.mono ?_
  rintro r w1 ⟨a, c, rfl, hz, hle, hin, hr, hb⟩
  have PK := clone_any a (tOut L e n) c w1 hle hin hz (by have := HO.out; omega)
  have R1 := Lib.hid hr
  have B1 := Lib.hid hb
  have HX : Hid (tOut L e n = tOut L e n) := Lib.hid rfl
  clear hz hle hin hr hb
  generalize hT : tOut L e n = T at *
  have HT := Lib.hid hT
  clear hT HX
  go_wp2_with fail
  with_reducible refine PK.mono ?_
  clear PK
  rintro r w2 ⟨v, rfl, hrow, hb⟩
  have V1 := Lib.hid (rowIs.mono hrow B1.out.size)
  have R2 := Lib.hid (R1.out.below hb)
  have B2 := Lib.hid (B1.out.trans (But.of_below hb))
  clear hrow hb
  go_wp2_with fail
  go_ret
  exact ⟨_, rfl, by rw [HT.out]; exact V1.out, R2.out, B2.out⟩

/-- What End answers. -/
def endErr (L : List UInt8) (e : Int) : Int := if e = 0 ∧ L ≠ [] then 2 else e
set_option maxRecDepth 100000 in
theorem rend_any (k : Nat) (L : List UInt8) (e : Int) (w : World) (h : RdAt B w k L e) :
    Calls Try.prog 46 #[.pointer (some ⟨k, 0, none⟩)] w fun r w' => r = .returned (.int .i64 (endErr L e)) ∧ RdAt B w' k L (endErr L e) ∧ But k w w' := by
  have PG := Lib.hid (rgives_any k L e w h)
  have H := Lib.hid h
  obtain ⟨p, h1, h2, hpl, h4⟩ := h
  have c0 : w.cell? ⟨k, 0, none⟩ = some (.slice p.a L.length p.c) := by rw [h1.1.cell, ← hpl]; rfl
  have c1 : w.cell? ⟨k, 1, none⟩ = some (.int .i64 e) := by rw [h1.1.cell]; rfl
  have f1 := h1.1.free 1
  clear h1 h2 h4 hpl
  by_cases hok : e = 0 ∧ L ≠ []
  · have E1 : Hid (endErr L e = 2) := Lib.hid (by unfold endErr; rw [if_pos hok])
    obtain ⟨rfl, hL⟩ := hok
    have hlen : 0 < (L.length : Int) := by have := List.length_pos_iff.2 hL; omega
    clear hL
    rw [E1.out]
    have PE := Lib.hid (rerr_any k L 2 _ (H.out.setFault 2))
    go_enter Try.func46, Try.ntmps46
    go_wp2_with fail
    with_reducible refine PG.out.mono ?_
    rintro r w' ⟨rfl, rfl⟩
    go_wp2_with fail
    with_reducible refine PE.out.mono ?_
    rintro r w' ⟨rfl, rfl⟩
    go_wp2_with fail
    go_ret
    exact ⟨rfl, H.out.setFault 2, (But.refl k w).setCell _ _ (Or.inl rfl)⟩
  · have E1 : Hid (endErr L e = e) := Lib.hid (by unfold endErr; rw [if_neg hok])
    rw [E1.out]
    have PE := Lib.hid (rerr_any k L e w H.out)
    by_cases he : e = 0
    · subst he
      have hlen : ¬ 0 < (L.length : Int) := by
        intro h
        exact hok ⟨rfl, List.length_pos_iff.1 (by omega)⟩
      clear hok
      go_enter Try.func46, Try.ntmps46
      go_wp2_with fail
      with_reducible refine PG.out.mono ?_
      rintro r w' ⟨rfl, rfl⟩
      go_wp2_with fail
      with_reducible refine PE.out.mono ?_
      rintro r w' ⟨rfl, rfl⟩
      go_wp2_with fail
      go_ret
      exact ⟨rfl, H.out, But.refl _ _⟩
    · have b0 : (e == 0) = false := by simpa using he
      clear hok he
      go_enter Try.func46, Try.ntmps46
      go_wp2_with fail
      with_reducible refine PG.out.mono ?_
      rintro r w' ⟨rfl, rfl⟩
      go_wp2_with fail
      with_reducible refine PE.out.mono ?_
      rintro r w' ⟨rfl, rfl⟩
      go_wp2_with fail
      go_ret
      exact ⟨rfl, H.out, But.refl _ _⟩
end Go.Proofs.Ytjgmhaajcglpmaa
