/- The contracts of takes, Put, Delete, Steal, Forge. -/
import Derived.Test.YthefledeoiegjaaJn
namespace Go.Proofs.Ythefledeoiegjaa
open Go.RowKit Go.MapKept

/-- May an object of so many bytes be put by that name? -/
def takesE (s : Sh) (n : List UInt8) (sz : Nat) : Int :=
  if isName n = false then 5 else if has s.objs n = true then 7 else if 1048576 < sz then 4 else if s.room < ((sizeSum s.objs + sz : Nat) : Int) ∨ 2000 ≤ s.objs.length then 8 else 0
theorem spent_objs (s : Sh) : (spent s).objs = s.objs := by
  unfold spent
  split
  · split <;> rfl
  · rfl
theorem spent_room (s : Sh) : (spent s).room = s.room := by
  unfold spent
  split
  · split <;> rfl
  · rfl
set_option maxRecDepth 100000 in
set_option maxHeartbeats 4000000 in
theorem takes_any (B k : Nat) (m : Option Nat) (s : Sh) (n : List UInt8) (sz : Nat) (w : World) (h : ShAt w B k m s) (ok : ShOk s) (hn : n.length ≤ 9223372036854775807) (hz : sz ≤ 1000000000) (hu : sizeSum s.objs ≤ 1000000000) (hl : s.objs.length ≤ 900000) :
    Calls Try.prog 19 #[.pointer (some ⟨k, 0, none⟩), .string (str n), .int .i64 (sz : Int)] w fun e w' => e = .returned (.int .i64 (takesE s n sz)) ∧ Below w.heap.size w w' := by
  have H := Lib.hid h
  obtain ⟨⟨r1, r2⟩, -, -⟩ := ok
  have PN := Lib.hid (isName_any n w hn)
  clear h hn
  cases hi : isName n with
  | false =>
    rw [hi] at PN
    have E : Hid (takesE s n sz = 5) := Lib.hid (by simp [takesE, hi])
    go_enter Try.func19, Try.ntmps19
    go_wp2_with fail
    with_reducible refine PN.out.mono ?_
    rintro e w1 ⟨rfl, b1⟩
    have B1 := Lib.hid b1
    clear b1
    go_wp2_with fail
    go_ret
    exact ⟨ret_i64 E.out.symm, B1.out⟩
  | true =>
    rw [hi] at PN
    cases hh : has s.objs n with
    | true =>
      have E : Hid (takesE s n sz = 7) := Lib.hid (by simp [takesE, hi, hh])
      go_enter Try.func19, Try.ntmps19
      go_wp2_with fail
      with_reducible refine PN.out.mono ?_
      rintro e w1 ⟨rfl, b1⟩
      have B1 := Lib.hid b1
      have H1 := Lib.hid (H.out.below b1)
      clear b1
      go_wp2_with fail
      with_reducible refine (has_any B k m s n w1 H1.out).mono ?_
      rintro e w2 ⟨rfl, b2⟩
      have B2 := Lib.hid (B1.out.trans (b2.mono B1.out.size))
      rw [hh]
      clear b2
      go_wp2_with fail
      go_ret
      exact ⟨ret_i64 E.out.symm, B2.out⟩
    | false =>
      by_cases h4 : 1048576 < sz
      · have E : Hid (takesE s n sz = 4) := Lib.hid (by simp [takesE, hi, hh, h4])
        have q4 : (1048576 : Int) < (sz : Int) := by omega
        go_enter Try.func19, Try.ntmps19
        go_wp2_with fail
        with_reducible refine PN.out.mono ?_
        rintro e w1 ⟨rfl, b1⟩
        have B1 := Lib.hid b1
        have H1 := Lib.hid (H.out.below b1)
        clear b1
        go_wp2_with fail
        with_reducible refine (has_any B k m s n w1 H1.out).mono ?_
        rintro e w2 ⟨rfl, b2⟩
        have B2 := Lib.hid (B1.out.trans (b2.mono B1.out.size))
        rw [hh]
        clear b2
        go_wp2_with fail
        go_ret
        exact ⟨ret_i64 E.out.symm, B2.out⟩
      · have q4 : ¬ (1048576 : Int) < (sz : Int) := by omega
        have E : Hid (takesE s n sz = if s.room < ((sizeSum s.objs + sz : Nat) : Int) ∨ 2000 ≤ s.objs.length then 8 else 0) := Lib.hid (by simp only [takesE, hi, hh, h4]; simp)
        have z0 : 0 ≤ (sz : Int) := by omega
        have u0 : 0 ≤ (sizeSum s.objs : Int) := by omega
        have u1 : (sizeSum s.objs : Int) ≤ 1000000000 := by omega
        have z1 : (sz : Int) ≤ 1000000000 := by omega
        go_enter Try.func19, Try.ntmps19
        go_wp2_with fail
        with_reducible refine PN.out.mono ?_
        rintro e w1 ⟨rfl, b1⟩
        have B1 := Lib.hid b1
        have H1 := Lib.hid (H.out.below b1)
        clear b1
        go_wp2_with fail
        with_reducible refine (has_any B k m s n w1 H1.out).mono ?_
        rintro e w2 ⟨rfl, b2⟩
        have B2 := Lib.hid (B1.out.trans (b2.mono B1.out.size))
        have H2 := Lib.hid (H1.out.below b2)
        rw [hh]
        clear b2
        go_wp2_with fail
        have PU : Hid (∀ X, ShAt X B k m s → Below w.heap.size w X → Calls Try.prog 15 #[.pointer (some ⟨k, 0, none⟩)] X fun e w' => e = .returned (.int .i64 (sizeSum s.objs : Int)) ∧ ShAt w' B k m s ∧ Below w.heap.size w w') := Lib.hid (fun X hX bX =>
          (used_any B k m s X hX (by omega)).mono fun e w' ⟨he, hb⟩ => ⟨he, hX.below hb, bX.trans (hb.mono bX.size)⟩)
        have c0 := H2.out.c0
        have W1 : IntKind.i64.wrap ((sizeSum s.objs : Int) + (sz : Int)) = (sizeSum s.objs : Int) + (sz : Int) := IntWalk.i64_in _ (by omega)
        go_region_held3 (fun w' => w'.cell? ⟨k, 0, none⟩ = some (.int .i64 s.room))
          (first | assumption | go_keep)
          (first
          | (go_at_call 15
             with_reducible refine (PU.out _ ?_ ?_).mono ?_
             · first | exact H2.out | exact H2.out.drewN 1
             · first | exact B2.out | exact below_drewN B2.out 1
             rintro e w3 ⟨rfl, h3, b3⟩
             have s3 : w3.cell? ⟨k, 0, none⟩ = some (.int .i64 s.room) := h3.c0
             have H3 := Lib.hid h3
             have B3 := Lib.hid b3
             clear h3 b3))
        have c1 := H3.out.c1
        have ql := fun ty => H3.out.len ty
        clear c0 W1 PU
        by_cases hr : s.room < (sizeSum s.objs : Int) + (sz : Int)
        · have E2 : Hid (takesE s n sz = 8) := Lib.hid (by rw [E.out, if_pos (Or.inl (by omega))])
          go_wp2_with fail
          go_ret
          exact ⟨ret_i64 E2.out.symm, B3.out⟩
        · by_cases hc : 2000 ≤ s.objs.length
          · have E2 : Hid (takesE s n sz = 8) := Lib.hid (by rw [E.out, if_pos (Or.inr hc)])
            have qc : (2000 : Int) ≤ (s.objs.length : Int) := by omega
            go_wp2_with fail
            go_ret
            exact ⟨ret_i64 E2.out.symm, B3.out⟩
          · have E2 : Hid (takesE s n sz = 0) := Lib.hid (by rw [E.out, if_neg (by omega)])
            have qc : ¬ (2000 : Int) ≤ (s.objs.length : Int) := by omega
            go_wp2_with fail
            go_ret
            exact ⟨ret_i64 E2.out.symm, B3.out⟩
def putE (s : Sh) (n y : List UInt8) : Int := if s.off then 9 else if takesE s n y.length = 0 then spentE s else takesE s n y.length
def putS (s : Sh) (n y : List UInt8) : Sh := if s.off then s else if takesE s n y.length = 0 then (if spentE s = 0 then { spent s with objs := put s.objs n (y, false) } else spent s) else s
theorem takesE_not9 (s : Sh) (n : List UInt8) (sz : Nat) : takesE s n sz ≠ 9 := by
  unfold takesE
  repeat' split
  all_goals decide
set_option maxRecDepth 100000 in
set_option maxHeartbeats 4000000 in
theorem put_any (B k : Nat) (m : Option Nat) (s : Sh) (n : List UInt8) (a : Option Addr) (Ps : List Part) (c : Nat) (w : World) (h : ShAt w B k m s) (ok : ShOk s) (hn : n.length ≤ 9223372036854775807) (hz : (partsJoin Ps).length ≤ 1000000) (hps : Ps.length ≤ 1000000)
    (hu : sizeSum s.objs ≤ 1000000000) (hl : s.objs.length ≤ 900000) (hp : ∀ m' w', Step k m w m' w' → partsIn w' a Ps) :
    Calls Try.prog 8 #[.pointer (some ⟨k, 0, none⟩), .string (str n), .slice a Ps.length c] w fun e w' => e = .returned (.int .i64 (putE s n (partsJoin Ps))) ∧ ∃ m', ShAt w' B k m' (putS s n (partsJoin Ps)) ∧ Step k m w m' w' := by
  have H := Lib.hid h
  have OK := Lib.hid ok
  have HP := Lib.hid hp
  have HU := Lib.hid hu
  have HL := Lib.hid hl
  have HN := Lib.hid hn
  have HZ := Lib.hid hz
  have HQ := Lib.hid hps
  clear h ok hp hu hl hn hz hps
  cases ho : s.off with
  | true =>
    have E1 : Hid (putE s n (partsJoin Ps) = 9) := Lib.hid (by simp [putE, ho])
    have E2 : Hid (putS s n (partsJoin Ps) = s) := Lib.hid (by simp [putS, ho])
    go_enter Try.func8, Try.ntmps8
    go_wp2_with fail
    with_reducible refine (ready_any B k m s w H.out).mono ?_
    rintro e w' ⟨rfl, rfl⟩
    rw [ho]
    go_wp2_with fail
    go_ret
    exact ⟨ret_i64 E1.out.symm, m, by rw [E2.out]; exact H.out, Step.refl _ _ _⟩
  | false =>
    have PT := Lib.hid (fun X (hX : ShAt X B k m s) => takes_any B k m s n (partsJoin Ps).length X hX OK.out HN.out (by have := HZ.out; omega) HU.out HL.out)
    by_cases ht : takesE s n (partsJoin Ps).length = 0
    · rw [ht] at PT
      go_enter Try.func8, Try.ntmps8
      go_wp2_with fail
      with_reducible refine (ready_any B k m s w H.out).mono ?_
      rintro e w' ⟨rfl, rfl⟩
      rw [ho]
      go_wp2_with fail
      with_reducible refine (size_any a Ps c w (HP.out m w (Step.refl _ _ _)) HZ.out HQ.out).mono ?_
      rintro e w' ⟨rfl, rfl⟩
      go_wp2_with fail
      with_reducible refine (PT.out w H.out).mono ?_
      rintro e w1 ⟨rfl, b1⟩
      have H1 := Lib.hid (H.out.below b1)
      have S1 := Lib.hid (Step.of_below (k := k) (m := m) b1)
      clear b1
      go_wp2_with fail
      with_reducible refine (spend_any B k m s w1 H1.out OK.out).mono ?_
      rintro e w2 ⟨rfl, h2, s2⟩
      have H2 := Lib.hid h2
      have S2 := Lib.hid (S1.out.trans s2)
      clear h2 s2
      by_cases h9 : spentE s = 0
      · have E1 : Hid (putE s n (partsJoin Ps) = 0) := Lib.hid (by simp [putE, ho, ht, h9])
        have E2 : Hid (putS s n (partsJoin Ps) = { spent s with objs := put (spent s).objs n (partsJoin Ps, false) }) := Lib.hid (by simp [putS, ho, ht, h9, spent_objs])
        rw [h9]
        clear h9
        go_wp2_with fail
        with_reducible refine (joined_any a Ps c w2 (HP.out m w2 S2.out) HZ.out HQ.out).mono ?_
        rintro e w3 ⟨rfl, b3⟩
        have H3 := Lib.hid (H2.out.below b3)
        have S3 := Lib.hid (S2.out.trans (Step.of_below (k := k) (m := m) b3))
        clear b3
        go_wp2_with fail
        with_reducible refine (set_any B k m (spent s) n (partsJoin Ps) false w3 H3.out).mono ?_
        rintro e w4 ⟨rfl, m4, h4, s4⟩
        have H4 := Lib.hid h4
        have S4 := Lib.hid (S3.out.trans s4)
        clear h4 s4
        go_wp2_with fail
        go_ret
        exact ⟨ret_i64 E1.out.symm, m4, by rw [E2.out]; exact H4.out, S4.out⟩
      · have h9' : spentE s = 9 := by
          unfold spentE at h9 ⊢
          split
          · rfl
          · rename_i h
            rw [if_neg h] at h9
            exact absurd rfl h9
        have E1 : Hid (putE s n (partsJoin Ps) = 9) := Lib.hid (by simp [putE, ho, ht, h9'])
        have E2 : Hid (putS s n (partsJoin Ps) = spent s) := Lib.hid (by simp [putS, ho, ht, h9'])
        rw [h9']
        clear h9 h9'
        go_wp2_with fail
        go_ret
        exact ⟨ret_i64 E1.out.symm, m, by rw [E2.out]; exact H2.out, S2.out⟩
    · have E1 : Hid (putE s n (partsJoin Ps) = takesE s n (partsJoin Ps).length) := Lib.hid (by simp [putE, ho, ht])
      have E2 : Hid (putS s n (partsJoin Ps) = s) := Lib.hid (by simp [putS, ho, ht])
      have t1 : (takesE s n (partsJoin Ps).length == 0) = false := by simpa using ht
      generalize takesE s n (partsJoin Ps).length = x at *
      go_enter Try.func8, Try.ntmps8
      go_wp2_with fail
      with_reducible refine (ready_any B k m s w H.out).mono ?_
      rintro e w' ⟨rfl, rfl⟩
      rw [ho]
      go_wp2_with fail
      with_reducible refine (size_any a Ps c w (HP.out m w (Step.refl _ _ _)) HZ.out HQ.out).mono ?_
      rintro e w' ⟨rfl, rfl⟩
      go_wp2_with fail
      with_reducible refine (PT.out w H.out).mono ?_
      rintro e w1 ⟨rfl, b1⟩
      have H1 := Lib.hid (H.out.below b1)
      have S1 := Lib.hid (Step.of_below (k := k) (m := m) b1)
      clear b1
      go_wp2_with fail
      go_ret
      exact ⟨ret_i64 E1.out.symm, m, by rw [E2.out]; exact H1.out, S1.out⟩
end Go.Proofs.Ythefledeoiegjaa
