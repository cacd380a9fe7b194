/- The contracts of Get, List, Rename, Sync. -/
import Derived.Test.YthefledeoiegjaaCi
namespace Go.Proofs.Ythefledeoiegjaa
open Go.RowKit Go.MapKept

def getE (s : Sh) (n : List UInt8) : Int := if s.off then 9 else if has s.objs n then 0 else 6
def getB (s : Sh) (n : List UInt8) : List UInt8 := if s.off then [] else if has s.objs n then (obOr (get s.objs n)).1 else []
/-- A call gives these bytes, in memory that is new, and this number. -/
def GotBytes (w : World) (l : List UInt8) (n : Int) (e : Ending) (w' : World) : Prop := ∃ a c, e = .returned (.tuple #[.slice a l.length c, .int .i64 n]) ∧ bytesIn w' a l ∧ Below w.heap.size w w'
set_option maxRecDepth 100000 in
set_option maxHeartbeats 2000000 in
theorem get_any (B k : Nat) (m : Option Nat) (s : Sh) (n : List UInt8) (w : World) (h : ShAt w B k m s) :
    Calls Try.prog 12 #[.pointer (some ⟨k, 0, none⟩), .string (str n)] w (GotBytes w (getB s n) (getE s n)) := by
  have H := Lib.hid h
  have c1 := h.c1
  have hlt := h.is.lt
  unfold getE getB
  cases ho : s.off with
  | true =>
    clear h
    go_enter Try.func12, Try.ntmps12
    go_wp2_with fail
    with_reducible refine (ready_any B k m s w H.out).mono ?_
    rintro e w' ⟨rfl, rfl⟩
    rw [ho]
    go_wp2_with fail
    go_ret2
    exact ⟨none, 0, rfl, Or.inl rfl, Below.refl _ _⟩
  | false =>
    have q := h.look true n
    simp only [if_true] at q
    clear h
    cases hh : has s.objs n with
    | false =>
      rw [hh] at q
      generalize (obOr (get s.objs n)).1 = b at *
      generalize (obOr (get s.objs n)).2 = f at *
      go_enter Try.func12, Try.ntmps12
      go_wp2_with fail
      with_reducible refine (ready_any B k m s w H.out).mono ?_
      rintro e w' ⟨rfl, rfl⟩
      rw [ho]
      go_wp2_with fail
      go_ret2
      exact ⟨none, 0, rfl, Or.inl rfl, (Below.refl _ _).alloc (Nat.le_refl _) _⟩
    | true =>
      rw [hh] at q
      generalize (obOr (get s.objs n)).1 = b at *
      generalize (obOr (get s.objs n)).2 = f at *
      obtain ⟨c, w0, hrun, hin, hb⟩ := conv_bytes (w.alloc (.cells #[.string (str b), .bool f] 58 (0, 0))) b
      have I : Hid (bytesIn w0 (some ⟨w.heap.size + 1, 0, none⟩) b) := Lib.hid (by simpa using hin)
      have B0 := Lib.hid (((Below.refl w.heap.size w).alloc (Nat.le_refl _) (.cells #[.string (str b), .bool f] 58 (0, 0))).trans (hb.mono (by simp)))
      clear hin hb
      go_enter Try.func12, Try.ntmps12
      go_wp2_with fail
      with_reducible refine (ready_any B k m s w H.out).mono ?_
      rintro e w' ⟨rfl, rfl⟩
      rw [ho]
      go_wp2_with fail
      go_ret2
      exact ⟨_, _, rfl, I.out, B0.out⟩
def listE (s : Sh) : Int := if s.off then 9 else 0
def listN (s : Sh) (pre : List UInt8) : List (List UInt8) := if s.off then [] else namesOf s.objs pre
set_option maxRecDepth 100000 in
set_option maxHeartbeats 2000000 in
theorem list_any (B k : Nat) (m : Option Nat) (s : Sh) (pre : List UInt8) (w : World) (h : ShAt w B k m s) (hl : s.objs.length ≤ 900000) :
    Calls Try.prog 13 #[.pointer (some ⟨k, 0, none⟩), .string (str pre)] w fun e w' => ∃ v, e = .returned (.tuple #[v, .int .i64 (listE s)]) ∧ rowV w' w.heap.size 9 v (svals (listN s pre)) ∧ Below w.heap.size w w' := by
  have H := Lib.hid h
  have HL := Lib.hid hl
  clear h hl
  unfold listE listN
  cases ho : s.off with
  | true =>
    go_enter Try.func13, Try.ntmps13
    go_wp2_with fail
    with_reducible refine (ready_any B k m s w H.out).mono ?_
    rintro e w' ⟨rfl, rfl⟩
    rw [ho]
    go_wp2_with fail
    go_ret2
    exact ⟨_, rfl, rowV.nil _ _ _, Below.refl _ _⟩
  | false =>
    go_enter Try.func13, Try.ntmps13
    go_wp2_with fail
    with_reducible refine (ready_any B k m s w H.out).mono ?_
    rintro e w' ⟨rfl, rfl⟩
    rw [ho]
    go_wp2_with fail
    with_reducible refine (names_any B k m s pre w H.out HL.out).mono ?_
    rintro e w1 ⟨v, rfl, hr, hb⟩
    have R := Lib.hid hr
    have B1 := Lib.hid hb
    clear hr hb
    go_wp2_with fail
    go_ret2
    exact ⟨_, rfl, R.out, B1.out⟩
def renamedE (s : Sh) (f t : List UInt8) : Int := if s.off then 9 else if isName t = false then 5 else if has s.objs f = false then 6 else if has s.objs t = true ∧ t ≠ f then 7 else spentE s
def renamedS (s : Sh) (f t : List UInt8) : Sh := if s.off then s else if isName t = false then s else if has s.objs f = false then s else if has s.objs t = true ∧ t ≠ f then s else
  if spentE s = 0 then { spent s with objs := put (del s.objs f) t (obOr (get s.objs f)) } else spent s
theorem str_toList (l : List UInt8) : (str l).toList = l := by
  rw [ByteArray.toList_eq]; simp [str]
set_option maxRecDepth 100000 in
set_option maxHeartbeats 4000000 in
theorem rename_any (B k : Nat) (m : Option Nat) (s : Sh) (f t : List UInt8) (w : World) (h : ShAt w B k m s) (ok : ShOk s) (ht : t.length ≤ 9223372036854775807) :
    Calls Try.prog 10 #[.pointer (some ⟨k, 0, none⟩), .string (str f), .string (str t)] w fun e w' => e = .returned (.int .i64 (renamedE s f t)) ∧ ∃ m', ShAt w' B k m' (renamedS s f t) ∧ Step k m w m' w' := by
  have H := Lib.hid h
  have OK := Lib.hid ok
  have PN := Lib.hid (isName_any t w ht)
  clear ok ht
  cases ho : s.off with
  | true =>
    have E1 : Hid (renamedE s f t = 9) := Lib.hid (by simp [renamedE, ho])
    have E2 : Hid (renamedS s f t = s) := Lib.hid (by simp [renamedS, ho])
    clear h
    go_enter Try.func10, Try.ntmps10
    go_wp2_with fail
    with_reducible refine (ready_any B k m s w H.out).mono ?_
    rintro e w' ⟨rfl, rfl⟩
    rw [ho]
    go_wp2_with fail
    go_ret
    exact ⟨ret_i64 E1.out.symm, m, by rw [E2.out]; exact H.out, Step.refl _ _ _⟩
  | false =>
    cases hi : isName t with
    | false =>
      rw [hi] at PN
      have E1 : Hid (renamedE s f t = 5) := Lib.hid (by simp [renamedE, ho, hi])
      have E2 : Hid (renamedS s f t = s) := Lib.hid (by simp [renamedS, ho, hi])
      clear h
      go_enter Try.func10, Try.ntmps10
      go_wp2_with fail
      with_reducible refine (ready_any B k m s w H.out).mono ?_
      rintro e w' ⟨rfl, rfl⟩
      rw [ho]
      go_wp2_with fail
      with_reducible refine PN.out.mono ?_
      rintro e w1 ⟨rfl, b1⟩
      have H1 := Lib.hid (H.out.below b1)
      have S1 := Lib.hid (Step.of_below (k := k) (m := m) b1)
      clear b1
      go_wp2_with fail
      go_ret
      exact ⟨ret_i64 E1.out.symm, m, by rw [E2.out]; exact H1.out, S1.out⟩
    | true =>
      rw [hi] at PN
      cases hf : has s.objs f with
      | false =>
        have E1 : Hid (renamedE s f t = 6) := Lib.hid (by simp [renamedE, ho, hi, hf])
        have E2 : Hid (renamedS s f t = s) := Lib.hid (by simp [renamedS, ho, hi, hf])
        clear h
        go_enter Try.func10, Try.ntmps10
        go_wp2_with fail
        with_reducible refine (ready_any B k m s w H.out).mono ?_
        rintro e w' ⟨rfl, rfl⟩
        rw [ho]
        go_wp2_with fail
        with_reducible refine PN.out.mono ?_
        rintro e w1 ⟨rfl, b1⟩
        have H1 := Lib.hid (H.out.below b1)
        have S1 := Lib.hid (Step.of_below (k := k) (m := m) b1)
        clear b1
        go_wp2_with fail
        with_reducible refine (has_any B k m s f w1 H1.out).mono ?_
        rintro e w2 ⟨rfl, b2⟩
        have H2 := Lib.hid (H1.out.below b2)
        have S2 := Lib.hid (S1.out.trans (Step.of_below (k := k) (m := m) b2))
        rw [hf]
        clear b2
        go_wp2_with fail
        go_ret
        exact ⟨ret_i64 E1.out.symm, m, by rw [E2.out]; exact H2.out, S2.out⟩
      | true =>
        obtain ⟨g, rfl⟩ := h.some_map hf
        clear h
        by_cases h7 : has s.objs t = true ∧ t ≠ f
        · have E1 : Hid (renamedE s f t = 7) := Lib.hid (by unfold renamedE; rw [if_neg (by simp [ho]), if_neg (by simp [hi]), if_neg (by simp [hf]), if_pos h7])
          have E2 : Hid (renamedS s f t = s) := Lib.hid (by unfold renamedS; rw [if_neg (by simp [ho]), if_neg (by simp [hi]), if_neg (by simp [hf]), if_pos h7])
          obtain ⟨hh, hne⟩ := h7
          have q1 : ((str t).toList == (str f).toList) = false := by rw [str_toList, str_toList]; simpa using hne
          have q2 : ((str t).toList != (str f).toList) = true := by rw [str_toList, str_toList]; simpa using hne
          clear hne
          go_enter Try.func10, Try.ntmps10
          go_wp2_with fail
          with_reducible refine (ready_any B k (some g) s w H.out).mono ?_
          rintro e w' ⟨rfl, rfl⟩
          rw [ho]
          go_wp2_with fail
          with_reducible refine PN.out.mono ?_
          rintro e w1 ⟨rfl, b1⟩
          have H1 := Lib.hid (H.out.below b1)
          have S1 := Lib.hid (Step.of_below (k := k) (m := some g) b1)
          clear b1
          go_wp2_with fail
          with_reducible refine (has_any B k (some g) s f w1 H1.out).mono ?_
          rintro e w2 ⟨rfl, b2⟩
          have H2 := Lib.hid (H1.out.below b2)
          have S2 := Lib.hid (S1.out.trans (Step.of_below (k := k) (m := some g) b2))
          rw [hf]
          clear b2
          go_wp2_with fail
          with_reducible refine (has_any B k (some g) s t w2 H2.out).mono ?_
          rintro e w3 ⟨rfl, b3⟩
          have H3 := Lib.hid (H2.out.below b3)
          have S3 := Lib.hid (S2.out.trans (Step.of_below (k := k) (m := some g) b3))
          rw [hh]
          clear b3
          go_wp2_with fail
          go_ret
          exact ⟨ret_i64 E1.out.symm, some g, by rw [E2.out]; exact H3.out, S3.out⟩
        · have E1 : Hid (renamedE s f t = spentE s) := Lib.hid (by unfold renamedE; rw [if_neg (by simp [ho]), if_neg (by simp [hi]), if_neg (by simp [hf]), if_neg h7])
          have E2 : Hid (renamedS s f t = if spentE s = 0 then { spent s with objs := put (del (spent s).objs f) t (obOr (get (spent s).objs f)) } else spent s) := Lib.hid (by unfold renamedS; rw [if_neg (by simp [ho]), if_neg (by simp [hi]), if_neg (by simp [hf]), if_neg h7, spent_objs])
          have TL : Hid (has s.objs t = true → t = f) := Lib.hid (fun hh => Classical.byContradiction fun hne => h7 ⟨hh, hne⟩)
          clear h7
          cases hh : has s.objs t with
          | false =>
            clear TL
            go_enter Try.func10, Try.ntmps10
            go_wp2_with fail
            with_reducible refine (ready_any B k (some g) s w H.out).mono ?_
            rintro e w' ⟨rfl, rfl⟩
            rw [ho]
            go_wp2_with fail
            with_reducible refine PN.out.mono ?_
            rintro e w1 ⟨rfl, b1⟩
            have H1 := Lib.hid (H.out.below b1)
            have S1 := Lib.hid (Step.of_below (k := k) (m := some g) b1)
            clear b1
            go_wp2_with fail
            with_reducible refine (has_any B k (some g) s f w1 H1.out).mono ?_
            rintro e w2 ⟨rfl, b2⟩
            have H2 := Lib.hid (H1.out.below b2)
            have S2 := Lib.hid (S1.out.trans (Step.of_below (k := k) (m := some g) b2))
            rw [hf]
            clear b2
            go_wp2_with fail
            with_reducible refine (has_any B k (some g) s t w2 H2.out).mono ?_
            rintro e w3 ⟨rfl, b3⟩
            have H3 := Lib.hid (H2.out.below b3)
            have S3 := Lib.hid (S2.out.trans (Step.of_below (k := k) (m := some g) b3))
            rw [hh]
            clear b3
            go_wp2_with fail
            with_reducible refine (spend_any B k (some g) s w3 H3.out OK.out).mono ?_
            rintro e w4 ⟨rfl, h4, s4⟩
            have H4 := Lib.hid h4
            have S4 := Lib.hid (S3.out.trans s4)
            have c1 := H4.out.c1
            have hlt := h4.is.lt
            have qk := h4.look false f
            simp only [Bool.false_eq_true, if_false] at qk
            have HA := Lib.hid (h4.below ((Below.refl w4.heap.size w4).alloc (Nat.le_refl _) (.cells #[.string (str (obOr (get (spent s).objs f)).1), .bool (obOr (get (spent s).objs f)).2] 58 (0, 0))))
            have HO : Hid (({ spent s with objs := put (del (spent s).objs f) t (obOr (get (spent s).objs f)) } : Sh) = { spent s with objs := put (del (spent s).objs f) t ((obOr (get (spent s).objs f)).1, (obOr (get (spent s).objs f)).2) }) := Lib.hid rfl
            clear h4 s4
            rcases spentE_or s with h9 | h9
            · rw [h9] at E1 E2 ⊢
              rw [if_pos rfl] at E2
              generalize (obOr (get (spent s).objs f)).1 = ob at *
              generalize (obOr (get (spent s).objs f)).2 = of at *
              have D0 : Hid ((w4.alloc (.cells #[.string (str ob), .bool of] 58 (0, 0))).cell? ⟨w4.heap.size, 0, none⟩ = some (.string (str ob))) := Lib.hid (by rw [World.cell?_alloc_at _ _ _ _ rfl]; rfl)
              have D1 : Hid ((w4.alloc (.cells #[.string (str ob), .bool of] 58 (0, 0))).cell? ⟨w4.heap.size, 1, none⟩ = some (.bool of)) := Lib.hid (by rw [World.cell?_alloc_at _ _ _ _ rfl]; rfl)
              have NE : Hid (w4.heap.size ≠ g) := Lib.hid (by have := (H4.out.map g rfl).2.lt; omega)
              go_wp2_with (at_delete
                           refine at_del rfl _ _ rfl g (spent s).objs f rfl rfl (HA.out.map g rfl).2 (fun w5 P1 P2 => ?_)
                           have d0 : w5.cell? ⟨w4.heap.size, 0, none⟩ = some (.string (str ob)) := P2.out.cell D0.out NE.out
                           have d1 : w5.cell? ⟨w4.heap.size, 1, none⟩ = some (.bool of) := P2.out.cell D1.out NE.out)
              have H5 := Lib.hid (HA.out.turn P2.out P1.out)
              have S5 := Lib.hid ((S4.out.alloc (.cells #[.string (str ob), .bool of] 58 (0, 0))).trans (Step.of_but P2.out))
              with_reducible refine (set_any B k (some g) _ t ob of w5 H5.out).mono ?_
              rintro e w6 ⟨rfl, m6, h6, s6⟩
              have H6 := Lib.hid h6
              have S6 := Lib.hid (S5.out.trans s6)
              clear h6 s6 d0 d1
              go_wp2_with fail
              go_ret
              exact ⟨ret_i64 E1.out.symm, m6, by rw [E2.out, HO.out]; exact H6.out, S6.out⟩
            · rw [h9] at E1 E2 ⊢
              rw [if_neg (by decide)] at E2
              go_wp2_with fail
              go_ret
              exact ⟨ret_i64 E1.out.symm, some g, by rw [E2.out]; exact H4.out, S4.out⟩
          | true =>
            have q1 : ((str t).toList == (str f).toList) = true := by rw [TL.out hh]; simp
            have q2 : ((str t).toList != (str f).toList) = false := by rw [TL.out hh]; simp
            clear TL
            go_enter Try.func10, Try.ntmps10
            go_wp2_with fail
            with_reducible refine (ready_any B k (some g) s w H.out).mono ?_
            rintro e w' ⟨rfl, rfl⟩
            rw [ho]
            go_wp2_with fail
            with_reducible refine PN.out.mono ?_
            rintro e w1 ⟨rfl, b1⟩
            have H1 := Lib.hid (H.out.below b1)
            have S1 := Lib.hid (Step.of_below (k := k) (m := some g) b1)
            clear b1
            go_wp2_with fail
            with_reducible refine (has_any B k (some g) s f w1 H1.out).mono ?_
            rintro e w2 ⟨rfl, b2⟩
            have H2 := Lib.hid (H1.out.below b2)
            have S2 := Lib.hid (S1.out.trans (Step.of_below (k := k) (m := some g) b2))
            rw [hf]
            clear b2
            go_wp2_with fail
            with_reducible refine (has_any B k (some g) s t w2 H2.out).mono ?_
            rintro e w3 ⟨rfl, b3⟩
            have H3 := Lib.hid (H2.out.below b3)
            have S3 := Lib.hid (S2.out.trans (Step.of_below (k := k) (m := some g) b3))
            rw [hh]
            clear b3
            go_wp2_with fail
            with_reducible refine (spend_any B k (some g) s w3 H3.out OK.out).mono ?_
            rintro e w4 ⟨rfl, h4, s4⟩
            have H4 := Lib.hid h4
            have S4 := Lib.hid (S3.out.trans s4)
            have c1 := H4.out.c1
            have hlt := h4.is.lt
            have qk := h4.look false f
            simp only [Bool.false_eq_true, if_false] at qk
            have HA := Lib.hid (h4.below ((Below.refl w4.heap.size w4).alloc (Nat.le_refl _) (.cells #[.string (str (obOr (get (spent s).objs f)).1), .bool (obOr (get (spent s).objs f)).2] 58 (0, 0))))
            have HO : Hid (({ spent s with objs := put (del (spent s).objs f) t (obOr (get (spent s).objs f)) } : Sh) = { spent s with objs := put (del (spent s).objs f) t ((obOr (get (spent s).objs f)).1, (obOr (get (spent s).objs f)).2) }) := Lib.hid rfl
            clear h4 s4
            rcases spentE_or s with h9 | h9
            · rw [h9] at E1 E2 ⊢
              rw [if_pos rfl] at E2
              generalize (obOr (get (spent s).objs f)).1 = ob at *
              generalize (obOr (get (spent s).objs f)).2 = of at *
              have D0 : Hid ((w4.alloc (.cells #[.string (str ob), .bool of] 58 (0, 0))).cell? ⟨w4.heap.size, 0, none⟩ = some (.string (str ob))) := Lib.hid (by rw [World.cell?_alloc_at _ _ _ _ rfl]; rfl)
              have D1 : Hid ((w4.alloc (.cells #[.string (str ob), .bool of] 58 (0, 0))).cell? ⟨w4.heap.size, 1, none⟩ = some (.bool of)) := Lib.hid (by rw [World.cell?_alloc_at _ _ _ _ rfl]; rfl)
              have NE : Hid (w4.heap.size ≠ g) := Lib.hid (by have := (H4.out.map g rfl).2.lt; omega)
              go_wp2_with (at_delete
                           refine at_del rfl _ _ rfl g (spent s).objs f rfl rfl (HA.out.map g rfl).2 (fun w5 P1 P2 => ?_)
                           have d0 : w5.cell? ⟨w4.heap.size, 0, none⟩ = some (.string (str ob)) := P2.out.cell D0.out NE.out
                           have d1 : w5.cell? ⟨w4.heap.size, 1, none⟩ = some (.bool of) := P2.out.cell D1.out NE.out)
              have H5 := Lib.hid (HA.out.turn P2.out P1.out)
              have S5 := Lib.hid ((S4.out.alloc (.cells #[.string (str ob), .bool of] 58 (0, 0))).trans (Step.of_but P2.out))
              with_reducible refine (set_any B k (some g) _ t ob of w5 H5.out).mono ?_
              rintro e w6 ⟨rfl, m6, h6, s6⟩
              have H6 := Lib.hid h6
              have S6 := Lib.hid (S5.out.trans s6)
              clear h6 s6 d0 d1
              go_wp2_with fail
              go_ret
              exact ⟨ret_i64 E1.out.symm, m6, by rw [E2.out, HO.out]; exact H6.out, S6.out⟩
            · rw [h9] at E1 E2 ⊢
              rw [if_neg (by decide)] at E2
              go_wp2_with fail
              go_ret
              exact ⟨ret_i64 E1.out.symm, some g, by rw [E2.out]; exact H4.out, S4.out⟩
end Go.Proofs.Ythefledeoiegjaa
