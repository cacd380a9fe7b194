/- The contracts of Sync, Photo, Restore. -/
import Derived.Test.YthefledeoiegjaaCk
namespace Go.Proofs.Ythefledeoiegjaa
open Go.RowKit Go.MapKept

/-- Names are synced, in their turn, up to the first that isn't there. -/
def syncGo : List (List UInt8) → List Ent → List Ent × Bool
  | [], L => (L, true)
  | n :: r, L => if has L n then syncGo r (put L n ((obOr (get L n)).1, true)) else (L, false)
def syncedE (s : Sh) (N : List (List UInt8)) : Int := if s.off then 9 else if spentE s = 0 then (if (syncGo N s.objs).2 then 0 else 6) else 9
def syncedS (s : Sh) (N : List (List UInt8)) : Sh := if s.off then s else if spentE s = 0 then { spent s with objs := (syncGo N s.objs).1 } else spent s
theorem sync_hit {N : List (List UInt8)} {L : List Ent} {R : List Ent × Bool} {j : Nat} (hj : j < N.length) (h : syncGo (N.drop j) L = R) (hs : has L (N.getD j []) = true) : syncGo (N.drop (j + 1)) (put L (N.getD j []) ((obOr (get L (N.getD j []))).1, true)) = R := by
  rw [← h, List.drop_eq_getElem_cons hj]
  have : N.getD j [] = N[j] := by simp [hj]
  rw [this] at hs ⊢
  simp [syncGo, hs]
theorem sync_miss {N : List (List UInt8)} {L : List Ent} {R : List Ent × Bool} {j : Nat} (hj : j < N.length) (h : syncGo (N.drop j) L = R) (hs : has L (N.getD j []) = false) : R = (L, false) := by
  rw [← h, List.drop_eq_getElem_cons hj]
  have : N.getD j [] = N[j] := by simp [hj]
  rw [this] at hs
  simp [syncGo, hs]
set_option maxRecDepth 100000 in
set_option maxHeartbeats 4000000 in
theorem sync_any (B k : Nat) (m : Option Nat) (s : Sh) (a : Option Addr) (N : List (List UInt8)) (c : Nat) (w : World) (h : ShAt w B k m s) (ok : ShOk s) (hN : N.length ≤ 1000000) (hv : ∀ m' w', Step k m w m' w' → valsIn w' a (svals N)) :
    Calls Try.prog 9 #[.pointer (some ⟨k, 0, none⟩), .slice a N.length c] w fun e w' => e = .returned (.int .i64 (syncedE s N)) ∧ ∃ m', ShAt w' B k m' (syncedS s N) ∧ Step k m w m' w' := by
  have H := Lib.hid h
  have OK := Lib.hid ok
  have HV := Lib.hid hv
  have hN' : (N.length : Int) ≤ 1000000 := by omega
  clear h ok hv
  cases ho : s.off with
  | true =>
    have E1 : Hid (syncedE s N = 9) := Lib.hid (by simp [syncedE, ho])
    have E2 : Hid (syncedS s N = s) := Lib.hid (by simp [syncedS, ho])
    go_enter Try.func9, Try.ntmps9
    go_wp2_with fail
    with_reducible refine (ready_any B k m s w H.out).mono ?_
    rintro e w' ⟨rfl, rfl⟩
    rw [ho]
    go_wp2_with fail
    go_ret
    exact ⟨ret_i64 E1.out.symm, m, by rw [E2.out]; exact H.out, Step.refl _ _ _⟩
  | false =>
    rcases spentE_or s with h9 | h9
    · have E1 : Hid (syncedE s N = if (syncGo N s.objs).2 then 0 else 6) := Lib.hid (by simp [syncedE, ho, h9])
      have E2 : Hid (syncedS s N = { spent s with objs := (syncGo N s.objs).1 }) := Lib.hid (by simp [syncedS, ho, h9])
      go_enter Try.func9, Try.ntmps9
      go_wp2_with fail
      with_reducible refine (ready_any B k m s w H.out).mono ?_
      rintro e w' ⟨rfl, rfl⟩
      rw [ho]
      go_wp2_with fail
      with_reducible refine (spend_any B k m s w H.out OK.out).mono ?_
      rintro e w1 ⟨rfl, h1, s1⟩
      have H1 := Lib.hid h1
      have S1 := Lib.hid s1
      rw [h9]
      clear h1 s1 h9
      go_wp2_with fail
      go_loopw [23] (fun i wr => ∃ (j : Nat) (m' : Option Nat) (L : List Ent), i = .int .i64 (j : Int) ∧ j ≤ N.length ∧ Hid (ShAt wr B k m' { spent s with objs := L }) ∧ Hid (Step k m w m' wr) ∧ Hid (syncGo (N.drop j) L = syncGo N s.objs)) (fun i _ => N.length - (intOf i).toNat)
      case atStart => exact ⟨0, m, s.objs, rfl, Nat.zero_le _, by rw [← spent_objs s]; exact H1, S1, Lib.hid rfl⟩
      case round =>
        obtain ⟨j, m', L, rfl, hj, K1, K2, K3⟩ := hrel
        have p0 : 0 ≤ (j : Int) := by omega
        by_cases hlt : j < N.length
        · have q0 : (j : Int) < (N.length : Int) := by omega
          obtain ⟨bb, bo, hbo, d⟩ := (HV.out m' wr K2.out).at j (by rw [svals_length]; exact hlt)
          have e1 : (svals N)[j]'(by rw [svals_length]; exact hlt) = .string (str (N.getD j [])) := by simp [svals, hlt]
          rw [e1] at d
          subst hbo
          have c1 := K1.out.c1
          have hltk := K1.out.is.lt
          have q := K1.out.look true (N.getD j [])
          simp only [if_true] at q
          have CH := Lib.hid (sync_hit hlt K3.out)
          have CM := Lib.hid (sync_miss hlt K3.out)
          clear e1
          generalize N.getD j [] = n at *
          generalize hof : has L n = of at *
          cases of with
          | true =>
            generalize (obOr (get L n)).1 = ob at *
            generalize (obOr (get L n)).2 = og at *
            have X1 := Lib.hid (K1.out.below ((Below.refl _ _).alloc (Nat.le_refl _) (.cells #[.string (str ob), .bool true] 58 (0, 0))))
            have X2 := Lib.hid (K2.out.alloc (.cells #[.string (str ob), .bool true] 58 (0, 0)))
            go_wp2_with fail
            with_reducible refine (set_any B k m' _ n ob true _ X1.out).mono ?_
            rintro e w2 ⟨rfl, m2, h2, s2⟩
            have Y1 := Lib.hid h2
            have Y2 := Lib.hid (X2.out.trans s2)
            clear h2 s2
            go_wp2_with fail
            go_roundw
            case rel => exact ⟨j + 1, m2, _, by go_num, by omega, Y1, Y2, Lib.hid (CH.out (by first | rfl | exact trivial))⟩
            case measure => simp [intOf]; omega
          | false =>
            have E3 : Hid (syncGo N s.objs = (L, false)) := Lib.hid (CM.out (by first | rfl | exact trivial))
            have X1 := Lib.hid (K1.out.below ((Below.refl _ _).alloc (Nat.le_refl _) (.cells #[.string (str (obOr (get L n)).1), .bool (obOr (get L n)).2] 58 (0, 0))))
            have X2 := Lib.hid (K2.out.alloc (.cells #[.string (str (obOr (get L n)).1), .bool (obOr (get L n)).2] 58 (0, 0)))
            generalize (obOr (get L n)).1 = ob at *
            generalize (obOr (get L n)).2 = og at *
            go_wp2_with fail
            (try rw [Exit.noGoto_ret])
            go_ret
            exact ⟨ret_i64 (by rw [E1.out, E3.out]; rfl), m', by rw [E2.out, E3.out]; exact X1.out, X2.out⟩
        · obtain rfl : j = N.length := by omega
          have E3 : Hid (syncGo N s.objs = (L, true)) := Lib.hid (by have := K3.out; rw [List.drop_length] at this; exact this.symm)
          go_wp2_with fail
          go_ret
          exact ⟨ret_i64 (by rw [E1.out, E3.out]; rfl), m', by rw [E2.out, E3.out]; exact K1.out, K2.out⟩
    · have E1 : Hid (syncedE s N = 9) := Lib.hid (by simp [syncedE, ho, h9])
      have E2 : Hid (syncedS s N = spent s) := Lib.hid (by simp [syncedS, ho, h9])
      go_enter Try.func9, Try.ntmps9
      go_wp2_with fail
      with_reducible refine (ready_any B k m s w H.out).mono ?_
      rintro e w' ⟨rfl, rfl⟩
      rw [ho]
      go_wp2_with fail
      with_reducible refine (spend_any B k m s w H.out OK.out).mono ?_
      rintro e w1 ⟨rfl, h1, s1⟩
      have H1 := Lib.hid h1
      have S1 := Lib.hid s1
      rw [h9]
      clear h1 s1 h9
      go_wp2_with fail
      go_ret
      exact ⟨ret_i64 E1.out.symm, m, by rw [E2.out]; exact H1.out, S1.out⟩
def restoredS (s : Sh) (L : List Ent) : Sh := { s with objs := L }
end Go.Proofs.Ythefledeoiegjaa
