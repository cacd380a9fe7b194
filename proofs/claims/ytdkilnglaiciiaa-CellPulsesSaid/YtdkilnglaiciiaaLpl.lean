/- CellPulses: in every row of calls, with crashes, a cell answers what the chapter says; its number never falls. No condition. -/
import Derived.Test.YtdkilnglaiciiaaChecked
import Derived.Test.YtdkilnglaiciiaaSd
import Derived.Test.YtdkilnglaiciiaaStr
namespace Go.Proofs.Ytdkilnglaiciiaa
open Go.RowKit Go.MapKept
theorem nobody_any (w : World) : Calls Try.prog 30 #[] w fun e w' => e = .returned (.pointer none) ∧ w = w' := by
  go_enter Try.func30, Try.ntmps30
  go_wp2_with fail
  go_ret
  exact ⟨rfl, rfl⟩
theorem cellnew_nil (w : World) : Calls Try.prog 29 #[.pointer none] w fun e w' => e = .returned (.tuple #[.pointer none, .int .i64 1]) ∧ w = w' := by
  go_enter Try.func29, Try.ntmps29
  go_wp2_with fail
  go_ret2
  exact ⟨rfl, rfl⟩
theorem read_nil (w : World) : Calls Try.prog 31 #[.pointer none] w fun e w' => e = .returned (.tuple #[.int .i64 0, .int .i64 1]) ∧ w = w' := by
  go_enter Try.func31, Try.ntmps31
  go_wp2_with fail
  go_ret2
  exact ⟨rfl, rfl⟩
theorem raise_nil (n : Int) (w : World) : Calls Try.prog 33 #[.pointer none, .int .i64 n] w fun e w' => e = .returned (.int .i64 1) ∧ w = w' := by
  go_enter Try.func33, Try.ntmps33
  go_wp2_with fail
  go_ret
  exact ⟨rfl, rfl⟩
theorem photo_nil (B k : Nat) (s : Sh) (w : World) (h : ShAt w B k none s) :
    Calls Try.prog 34 #[.pointer (some ⟨k, 0, none⟩)] w fun e w' => ∃ i, e = .returned (.pointer (some ⟨i, 0, none⟩)) ∧ w.heap.size ≤ i ∧ blockIs w' i [.map none] 92 ∧ Below w.heap.size w w' := by
  have c1 := h.c1
  clear h
  go_enter Try.func34, Try.ntmps34
  go_wp2_with fail
  with_reducible refine (clone_nil w).mono ?_
  rintro e w' ⟨rfl, rfl⟩
  go_wp2_with fail
  go_ret
  exact ⟨w.heap.size, rfl, Nat.le_refl _, blockIs.new w [.map none] _, (Below.refl _ _).alloc (Nat.le_refl _) _⟩
def pSh (O : List Ent) (T : Int) (off arm : Bool) (L : Int) : Sh := ⟨1000, O, T, off, arm, L⟩
def oneA : List Ent := [([97], ([], false))]
theorem pSh_ok {O : List Ent} {T : Int} {off arm : Bool} {L : Int} (h0 : 0 ≤ T) (h1 : T ≤ 1000) (h2 : 0 ≤ L) (h3 : L ≤ 9223372036854775807) : ShOk (pSh O T off arm L) :=
  ⟨⟨by show (0 : Int) ≤ 1000; decide, by show (1000 : Int) ≤ 1073741824; decide⟩, ⟨h0, by show T ≤ 1000000000; omega⟩, ⟨h2, h3⟩⟩
theorem crash_p {O : List Ent} (hO : O = [] ∨ O = oneA) (T : Int) (off arm : Bool) (L : Int) : crashed (pSh O T off arm L) [] = pSh [] T false false 0 := by
  rcases hO with rfl | rfl
  · show ({ pSh [] T off arm L with objs := crashGo (namesOf [] []) [] [], off := false, armed := false, left := 0 } : Sh) = _
    rw [show namesOf [] [] = [] by simp [namesOf, namesIn]]
    rfl
  · show ({ pSh oneA T off arm L with objs := crashGo (namesOf oneA []) [] oneA, off := false, armed := false, left := 0 } : Sh) = _
    rw [show namesOf oneA [] = [[97]] from names_one _ _]
    rfl
theorem small_p {O : List Ent} (hO : O = [] ∨ O = oneA) : O.length ≤ 900000 ∧ Small O 1000000000 ∧ sizeSum O ≤ 1000000000 := by
  rcases hO with rfl | rfl
  · exact ⟨by decide, fun p hp => (by cases hp), by decide⟩
  · exact ⟨by decide, fun p hp => (by simp only [oneA, List.mem_cons, List.not_mem_nil, or_false] at hp; subst hp; decide), by decide⟩
theorem takes_p (O : List Ent) (hO : O = [] ∨ O = oneA) (T : Int) (off arm : Bool) (L : Int) : takesE (pSh O T off arm L) [97] 0 = if O = [] then 0 else 7 := by
  rcases hO with rfl | rfl
  · rfl
  · rfl
theorem crash_pl (B k : Nat) (m : Option Nat) (O : List Ent) (T : Int) (off arm : Bool) (L : Int) (w : World) (hO : O = [] ∨ O = oneA) (h : ShAt w B k m (pSh O T off arm L)) :
    Calls Try.prog 21 #[.pointer (some ⟨k, 0, none⟩), .slice none 0 0] w fun e w' => e = .returned (.tuple #[]) ∧ ∃ m', ShAt w' B k m' (pSh [] T false false 0) ∧ Step k m w m' w' := by
  have P := crash_none B k m (pSh O T off arm L) w h (small_p hO).1 (small_p hO).2.1
  rw [crash_p hO] at P
  exact P
theorem wf_bounds {z : Int} (h : (Lit.int .i64 z).wf = true) : -9223372036854775808 ≤ z ∧ z ≤ 9223372036854775807 := bounds_i64 h
theorem takes_nil (T : Int) (off arm : Bool) (L : Int) : takesE (⟨1000, [], T, off, arm, L⟩ : Sh) [97] 0 = 0 := rfl
set_option maxRecDepth 100000 in
set_option maxHeartbeats 40000000 in
theorem law_cellPulses (a : Option Addr) (c : Nat) (F : List (Int × Int)) (W : World) (hF : rowPulses W a c F) :
    Calls Try.prog 7 #[.slice a F.length c] W fun e w' => e = .returned (.bool true) ∧ Below W.heap.size W w' := by
  have HF := Lib.hid hF
  have hl : (F.length : Int) ≤ 9223372036854775807 := by have := hF.1; have := hF.2.1; omega
  clear hF
  go_enter Try.func7, Try.ntmps7
  go_wp2_with (first
    | (go_at_call 29; (with_reducible refine (cellnew_nil _).mono ?_); rintro e w' ⟨rfl, rfl⟩)
    | (go_at_call 30; (with_reducible refine (nobody_any _).mono ?_); rintro e w' ⟨rfl, rfl⟩)
    | (go_at_call 31; (with_reducible refine (read_nil _).mono ?_); rintro e w' ⟨rfl, rfl⟩))
  with_reducible refine (rises_any W).mono ?_
  rintro e w0 ⟨rfl, b0⟩
  have B0 := Lib.hid b0
  clear b0
  go_wp2_with (first
    | (go_at_call 30; (with_reducible refine (nobody_any _).mono ?_); rintro e w' ⟨rfl, rfl⟩)
    | (go_at_call 33; (with_reducible refine (raise_nil _ _).mono ?_); rintro e w' ⟨rfl, rfl⟩))
  with_reducible refine (new_any 1000 w0 (by decide) (by decide)).mono ?_
  rintro e w1 ⟨k, rfl, h1, b1⟩
  have H1 := Lib.hid (h1.mono B0.out.size)
  have B1 := Lib.hid (B0.out.trans (b1.mono B0.out.size))
  clear h1 b1
  go_wp2_with fail
  with_reducible refine (cellnew_any k w1).mono ?_
  rintro e w2 ⟨q, rfl, hq, h2, b2⟩
  have H2 := Lib.hid (H1.out.below b2)
  have C2 := Lib.hid h2
  have B2 := Lib.hid (B1.out.trans (b2.mono B1.out.size))
  have HQ : Hid (W.heap.size ≤ q) := Lib.hid (Nat.le_trans B1.out.size hq)
  have QK : Hid (q ≠ k) := Lib.hid (h2.ne H2.out)
  clear h2 b2 hq
  go_wp2_with fail
  with_reducible refine (photo_nil W.heap.size k _ w2 H2.out).mono ?_
  rintro e w3 ⟨i, rfl, hi, h3, b3⟩
  have H3 := Lib.hid (H2.out.below b3)
  have C3 : Hid (cellAt w3 q k 0) := Lib.hid (blockIs.below b3 C2.out (blockIs.lt C2.out))
  have I3 := Lib.hid h3
  have B3 := Lib.hid (B2.out.trans (b3.mono B2.out.size))
  have HI : Hid (W.heap.size ≤ i) := Lib.hid (Nat.le_trans B2.out.size hi)
  have IK : Hid (i ≠ k) := Lib.hid (by have := H2.out.is.lt; omega)
  have IQ : Hid (i ≠ q) := Lib.hid (by have := blockIs.lt C2.out; omega)
  clear h3 b3 hi
  go_wp2_with fail
  go_loopw [9, 10, 11, 13] (fun u v t y wr => ∃ (n lv T : Int) (j : Nat) (m : Option Nat) (O : List Ent) (off arm : Bool) (L : Int), u = .int .i64 n ∧ v = .int .i64 lv ∧ t = .int .i64 T ∧ y = .int .i64 (j : Int) ∧ j ≤ F.length ∧ (0 ≤ n ∧ n ≤ 4611686018427387903) ∧ (0 ≤ T ∧ T ≤ (j : Int)) ∧
      Hid ((arm = true ∧ lv = L ∧ 0 ≤ L ∧ L ≤ 9223372036854775807) ∨ (arm = false ∧ lv = -1 ∧ L = 0)) ∧ Hid (O = [] ∨ O = oneA) ∧ Hid (ShAt wr W.heap.size k m (pSh O T off arm L)) ∧ Hid (cellAt wr q k n) ∧ Hid (blockIs wr i [.map none] 92) ∧ Hid (Below W.heap.size W wr)) (fun _ _ _ y _ => F.length - (intOf y).toNat)
  case atStart => exact ⟨0, -1, 0, 0, none, [], false, false, 0, rfl, rfl, rfl, rfl, Nat.zero_le _, by decide, by decide, Lib.hid (Or.inr ⟨rfl, rfl, rfl⟩), Lib.hid (Or.inl rfl), H3, C3, I3, B3⟩
  case round =>
    obtain ⟨n, lv, T, j, m, O, off, arm, L, rfl, rfl, rfl, rfl, hj, ⟨n0, n1⟩, ⟨t0, t1⟩, A0, O0, K0, K1, K2, K3⟩ := hrel
    have p0 : 0 ≤ (j : Int) := by omega
    by_cases hend : j < F.length ∧ (j : Int) < 60
    · obtain ⟨hlt, h60⟩ := hend
      have q0 : (j : Int) < (F.length : Int) := by omega
      obtain ⟨bb, bo, ha, d0, d1, x0, x1⟩ := HF.out.2.2 j hlt
      subst ha
      have e0 := (K3.out.cell (p := ⟨bb, bo + j * 2, none⟩) (block_lt_of_cell d0)).trans d0
      have e1 := (K3.out.cell (p := ⟨bb, bo + j * 2 + 1, none⟩) (block_lt_of_cell d1)).trans d1
      have X0 := Lib.hid x0
      have X1 := Lib.hid x1
      clear d0 d1 x0 x1
      generalize F[j].1 = x at *
      generalize F[j].2 = z at *
      have T1 : Hid (T ≤ 59) := Lib.hid (by omega)
      go_wp2_with fail
      have P0 := Lib.hid (K0.out.below ((Below.refl _ _).alloc (Nat.le_refl _) (.cells #[.int .i64 x, .int .i64 z] 65 (0, 0))))
      have P1 : Hid (cellAt (wr.alloc (.cells #[.int .i64 x, .int .i64 z] 65 (0, 0))) q k n) := Lib.hid (blockIs.alloc K1.out _)
      have P2 := Lib.hid (blockIs.alloc K2.out (.cells #[.int .i64 x, .int .i64 z] 65 (0, 0)))
      have P3 := Lib.hid (K3.out.alloc K3.out.size (.cells #[.int .i64 x, .int .i64 z] 65 (0, 0)))
      have PB := Lib.hid (blockIs.new wr [.int .i64 x, .int .i64 z] 65)
      have PK : Hid (wr.heap.size ≠ k ∧ wr.heap.size ≠ q) := Lib.hid (by have := K0.out.is.lt; have := blockIs.lt K1.out; omega)
      have HL : Hid (0 ≤ L ∧ L ≤ 9223372036854775807) := Lib.hid (by rcases A0.out with h | h <;> omega)
      have g0 : (wr.alloc (.cells #[.int .i64 x, .int .i64 z] 65 (0, 0))).cell? ⟨wr.heap.size, 0, none⟩ = some (.int .i64 x) := by rw [World.cell?_alloc_at _ _ _ _ rfl]; rfl
      have g1 : (wr.alloc (.cells #[.int .i64 x, .int .i64 z] 65 (0, 0))).cell? ⟨wr.heap.size, 1, none⟩ = some (.int .i64 z) := by rw [World.cell?_alloc_at _ _ _ _ rfl]; rfl
      change Hid (blockIs (wr.alloc (.cells #[.int .i64 x, .int .i64 z] 65 (0, 0))) wr.heap.size [.int .i64 x, .int .i64 z] 65) at PB
      clear e0 e1
      generalize wr.alloc (.cells #[.int .i64 x, .int .i64 z] 65 (0, 0)) = wp at *
      generalize wr.heap.size = pb at *
      with_reducible refine (off_any W.heap.size k m _ wp P0.out).mono ?_
      rintro e w' ⟨rfl, rfl⟩
      rw [show (pSh O T off arm L).off = off from rfl]
      cases off with
      | true =>
        by_cases hx1 : x = 1
        · subst hx1
          have P := raise_any W.heap.size k q m (pSh O T true arm L) n z wp P0.out (pSh_ok t0 (by have := T1.out; omega) (by have := HL.out; omega) (by have := HL.out; omega)) P1.out HQ.out
          have e1 : raisedE (pSh O T true arm L) n z = 9 := by simp [raisedE, raisedS, pSh]
          have e2 : raisedS (pSh O T true arm L) n z = (pSh O T true arm L) := by simp [raisedE, raisedS, pSh]
          have e3 : raisedN (pSh O T true arm L) n z = n := by simp [raisedN, e1]
          rw [e1, e2, e3] at P
          clear e1 e2 e3
          go_wp2_with fail
          with_reducible refine P.mono ?_
          clear P
          rintro e w5 ⟨rfl, h5, c5, b5, k5⟩
          have H5 := Lib.hid h5
          have C5 := Lib.hid c5
          have I5 : Hid (blockIs w5 i [.map none] 92) := Lib.hid (k5 i _ _ P2.out IK.out IQ.out)
          have D5 := k5 pb _ _ PB.out PK.out.1 PK.out.2
          have B5 := Lib.hid (P3.out.trans b5)
          have g2 : w5.cell? ⟨pb, 0, none⟩ = some (.int .i64 1) := by rw [D5.cell]; rfl
          have g3 : w5.cell? ⟨pb, 1, none⟩ = some (.int .i64 z) := by rw [D5.cell]; rfl
          clear h5 c5 b5 k5 g0 g1 D5

          have PR : Hid (Calls Try.prog 31 #[.pointer (some ⟨q, 0, none⟩)] w5 fun e w' => e = .returned (.tuple #[.int .i64 0, .int .i64 9]) ∧ w5 = w') := Lib.hid (read_any W.heap.size k q m (pSh O T true arm L) n w5 H5.out C5.out)
          have PO : Hid (Calls Try.prog 24 #[.pointer (some ⟨k, 0, none⟩)] w5 fun e w' => e = .returned (.bool true) ∧ w5 = w') := Lib.hid (off_any W.heap.size k m (pSh O T true arm L) w5 H5.out)
          have PS : Hid (Calls Try.prog 27 #[.pointer (some ⟨k, 0, none⟩)] w5 fun e w' => e = .returned (.int .i64 T) ∧ w5 = w') := Lib.hid (steps_any W.heap.size k m (pSh O T true arm L) w5 H5.out)
          go_wp2_with (first
            | (go_at_call 31; (with_reducible refine PR.out.mono ?_); rintro e w' ⟨rfl, rfl⟩)
            | (go_at_call 24; (with_reducible refine PO.out.mono ?_); rintro e w' ⟨rfl, rfl⟩)
            | (go_at_call 27; (with_reducible refine PS.out.mono ?_); rintro e w' ⟨rfl, rfl⟩))
          go_roundw
          case rel => exact ⟨n, lv, T, j + 1, m, O, true, arm, L, by first | rfl | exact trivial, by first | rfl | exact trivial, by first | rfl | exact trivial, by go_num, by omega, by omega, by omega, A0, O0, H5, C5, I5, B5⟩
          case measure => simp [intOf]; omega
        · by_cases hx2 : x = 2
          · subst hx2
            go_wp2_with fail
            have P := arm_any W.heap.size k m (pSh O T true arm L) z wp P0.out X1.out
            rw [show armedSh (pSh O T true arm L) z = (pSh O T true true (max z 0)) from rfl] at P
            with_reducible refine P.mono ?_
            clear P
            rintro e w5 ⟨rfl, h5, s5⟩
            have H5 := Lib.hid h5
            have C5 : Hid (cellAt w5 q k n) := Lib.hid (P0.out.keeps s5 P1.out QK.out)
            have I5 : Hid (blockIs w5 i [.map none] 92) := Lib.hid (P0.out.keeps s5 P2.out IK.out)
            have D5 := P0.out.keeps s5 PB.out PK.out.1
            have B5 := Lib.hid (P3.out.trans (P0.out.step_below s5))
            have g2 : w5.cell? ⟨pb, 0, none⟩ = some (.int .i64 2) := by rw [D5.cell]; rfl
            have g3 : w5.cell? ⟨pb, 1, none⟩ = some (.int .i64 z) := by rw [D5.cell]; rfl
            have ZB : Hid (z ≤ 9223372036854775807) := Lib.hid (wf_bounds X1.out).2
            clear h5 s5 g0 g1 D5

            have PR : Hid (Calls Try.prog 31 #[.pointer (some ⟨q, 0, none⟩)] w5 fun e w' => e = .returned (.tuple #[.int .i64 0, .int .i64 9]) ∧ w5 = w') := Lib.hid (read_any W.heap.size k q m (pSh O T true true (max z 0)) n w5 H5.out C5.out)
            have PO : Hid (Calls Try.prog 24 #[.pointer (some ⟨k, 0, none⟩)] w5 fun e w' => e = .returned (.bool true) ∧ w5 = w') := Lib.hid (off_any W.heap.size k m (pSh O T true true (max z 0)) w5 H5.out)
            have PS : Hid (Calls Try.prog 27 #[.pointer (some ⟨k, 0, none⟩)] w5 fun e w' => e = .returned (.int .i64 T) ∧ w5 = w') := Lib.hid (steps_any W.heap.size k m (pSh O T true true (max z 0)) w5 H5.out)
            go_wp2_with (first
              | (go_at_call 31; (with_reducible refine PR.out.mono ?_); rintro e w' ⟨rfl, rfl⟩)
              | (go_at_call 24; (with_reducible refine PO.out.mono ?_); rintro e w' ⟨rfl, rfl⟩)
              | (go_at_call 27; (with_reducible refine PS.out.mono ?_); rintro e w' ⟨rfl, rfl⟩))
            go_roundw
            case rel => exact ⟨n, (max z 0), T, j + 1, m, O, true, true, (max z 0), by first | rfl | exact trivial, by first | rfl | exact trivial, by first | rfl | exact trivial, by go_num, by omega, by omega, by omega, Lib.hid (Or.inl ⟨rfl, rfl, by omega, by have := ZB.out; omega⟩), O0, H5, C5, I5, B5⟩
            case measure => simp [intOf]; omega
          · by_cases hx3 : x = 3
            · subst hx3
              go_wp2_with fail
              have P := crash_pl W.heap.size k m O T true arm L wp O0.out P0.out
              with_reducible refine P.mono ?_
              clear P
              rintro e w5 ⟨rfl, m5, h5, s5⟩
              have H5 := Lib.hid h5
              have C5 : Hid (cellAt w5 q k n) := Lib.hid (P0.out.keeps s5 P1.out QK.out)
              have I5 : Hid (blockIs w5 i [.map none] 92) := Lib.hid (P0.out.keeps s5 P2.out IK.out)
              have D5 := P0.out.keeps s5 PB.out PK.out.1
              have B5 := Lib.hid (P3.out.trans (P0.out.step_below s5))
              have g2 : w5.cell? ⟨pb, 0, none⟩ = some (.int .i64 3) := by rw [D5.cell]; rfl
              have g3 : w5.cell? ⟨pb, 1, none⟩ = some (.int .i64 z) := by rw [D5.cell]; rfl
              clear h5 s5 g0 g1 D5

              have PR : Hid (Calls Try.prog 31 #[.pointer (some ⟨q, 0, none⟩)] w5 fun e w' => e = .returned (.tuple #[.int .i64 n, .int .i64 0]) ∧ w5 = w') := Lib.hid (read_any W.heap.size k q m5 (pSh [] T false false 0) n w5 H5.out C5.out)
              have PO : Hid (Calls Try.prog 24 #[.pointer (some ⟨k, 0, none⟩)] w5 fun e w' => e = .returned (.bool false) ∧ w5 = w') := Lib.hid (off_any W.heap.size k m5 (pSh [] T false false 0) w5 H5.out)
              have PS : Hid (Calls Try.prog 27 #[.pointer (some ⟨k, 0, none⟩)] w5 fun e w' => e = .returned (.int .i64 T) ∧ w5 = w') := Lib.hid (steps_any W.heap.size k m5 (pSh [] T false false 0) w5 H5.out)
              go_wp2_with (first
                | (go_at_call 31; (with_reducible refine PR.out.mono ?_); rintro e w' ⟨rfl, rfl⟩)
                | (go_at_call 24; (with_reducible refine PO.out.mono ?_); rintro e w' ⟨rfl, rfl⟩)
                | (go_at_call 27; (with_reducible refine PS.out.mono ?_); rintro e w' ⟨rfl, rfl⟩))
              go_roundw
              case rel => exact ⟨n, (-1), T, j + 1, m5, [], false, false, 0, by first | rfl | exact trivial, by first | rfl | exact trivial, by first | rfl | exact trivial, by go_num, by omega, by omega, by omega, Lib.hid (Or.inr ⟨rfl, rfl, rfl⟩), Lib.hid (Or.inl rfl), H5, C5, I5, B5⟩
              case measure => simp [intOf]; omega
            · by_cases hx4 : x = 4
              · subst hx4
                go_wp2_with fail
                have P := put_none W.heap.size k m (pSh O T true arm L) [97] wp P0.out (pSh_ok t0 (by have := T1.out; omega) (by have := HL.out; omega) (by have := HL.out; omega)) (by decide) (small_p O0.out).2.2 (small_p O0.out).1
                have e1 : putE (pSh O T true arm L) [97] [] = 9 := by simp [putE, putS, pSh]
                have e2 : putS (pSh O T true arm L) [97] [] = (pSh O T true arm L) := by simp [putE, putS, pSh]
                rw [e1, e2] at P
                change Calls _ _ #[.pointer (some ⟨k, 0, none⟩), .string { data := #[97] }, .slice none 0 0] _ _ at P
                clear e1 e2
                with_reducible refine P.mono ?_
                clear P
                rintro e w5 ⟨rfl, m5, h5, s5⟩
                have H5 := Lib.hid h5
                have C5 : Hid (cellAt w5 q k n) := Lib.hid (P0.out.keeps s5 P1.out QK.out)
                have I5 : Hid (blockIs w5 i [.map none] 92) := Lib.hid (P0.out.keeps s5 P2.out IK.out)
                have D5 := P0.out.keeps s5 PB.out PK.out.1
                have B5 := Lib.hid (P3.out.trans (P0.out.step_below s5))
                have g2 : w5.cell? ⟨pb, 0, none⟩ = some (.int .i64 4) := by rw [D5.cell]; rfl
                have g3 : w5.cell? ⟨pb, 1, none⟩ = some (.int .i64 z) := by rw [D5.cell]; rfl
                clear h5 s5 g0 g1 D5

                have PR : Hid (Calls Try.prog 31 #[.pointer (some ⟨q, 0, none⟩)] w5 fun e w' => e = .returned (.tuple #[.int .i64 0, .int .i64 9]) ∧ w5 = w') := Lib.hid (read_any W.heap.size k q m5 (pSh O T true arm L) n w5 H5.out C5.out)
                have PO : Hid (Calls Try.prog 24 #[.pointer (some ⟨k, 0, none⟩)] w5 fun e w' => e = .returned (.bool true) ∧ w5 = w') := Lib.hid (off_any W.heap.size k m5 (pSh O T true arm L) w5 H5.out)
                have PS : Hid (Calls Try.prog 27 #[.pointer (some ⟨k, 0, none⟩)] w5 fun e w' => e = .returned (.int .i64 T) ∧ w5 = w') := Lib.hid (steps_any W.heap.size k m5 (pSh O T true arm L) w5 H5.out)
                go_wp2_with (first
                  | (go_at_call 31; (with_reducible refine PR.out.mono ?_); rintro e w' ⟨rfl, rfl⟩)
                  | (go_at_call 24; (with_reducible refine PO.out.mono ?_); rintro e w' ⟨rfl, rfl⟩)
                  | (go_at_call 27; (with_reducible refine PS.out.mono ?_); rintro e w' ⟨rfl, rfl⟩))
                go_roundw
                case rel => exact ⟨n, lv, T, j + 1, m5, O, true, arm, L, by first | rfl | exact trivial, by first | rfl | exact trivial, by first | rfl | exact trivial, by go_num, by omega, by omega, by omega, A0, O0, H5, C5, I5, B5⟩
                case measure => simp [intOf]; omega
              · by_cases hx5 : x = 5
                · subst hx5
                  go_wp2_with fail
                  have P := restore_any W.heap.size k m (pSh O T true arm L) W.heap.size i none [] wp P0.out ⟨HI.out, P2.out, fun _ => rfl, fun g e => by cases e⟩
                  rw [show restoredS (pSh O T true arm L) [] = (pSh [] T true arm L) from rfl] at P
                  with_reducible refine P.mono ?_
                  clear P
                  rintro e w5 ⟨rfl, m5, h5, s5⟩
                  have H5 := Lib.hid h5
                  have C5 : Hid (cellAt w5 q k n) := Lib.hid (P0.out.keeps s5 P1.out QK.out)
                  have I5 : Hid (blockIs w5 i [.map none] 92) := Lib.hid (P0.out.keeps s5 P2.out IK.out)
                  have D5 := P0.out.keeps s5 PB.out PK.out.1
                  have B5 := Lib.hid (P3.out.trans (P0.out.step_below s5))
                  have g2 : w5.cell? ⟨pb, 0, none⟩ = some (.int .i64 5) := by rw [D5.cell]; rfl
                  have g3 : w5.cell? ⟨pb, 1, none⟩ = some (.int .i64 z) := by rw [D5.cell]; rfl
                  clear h5 s5 g0 g1 D5

                  have PR : Hid (Calls Try.prog 31 #[.pointer (some ⟨q, 0, none⟩)] w5 fun e w' => e = .returned (.tuple #[.int .i64 0, .int .i64 9]) ∧ w5 = w') := Lib.hid (read_any W.heap.size k q m5 (pSh [] T true arm L) n w5 H5.out C5.out)
                  have PO : Hid (Calls Try.prog 24 #[.pointer (some ⟨k, 0, none⟩)] w5 fun e w' => e = .returned (.bool true) ∧ w5 = w') := Lib.hid (off_any W.heap.size k m5 (pSh [] T true arm L) w5 H5.out)
                  have PS : Hid (Calls Try.prog 27 #[.pointer (some ⟨k, 0, none⟩)] w5 fun e w' => e = .returned (.int .i64 T) ∧ w5 = w') := Lib.hid (steps_any W.heap.size k m5 (pSh [] T true arm L) w5 H5.out)
                  go_wp2_with (first
                    | (go_at_call 31; (with_reducible refine PR.out.mono ?_); rintro e w' ⟨rfl, rfl⟩)
                    | (go_at_call 24; (with_reducible refine PO.out.mono ?_); rintro e w' ⟨rfl, rfl⟩)
                    | (go_at_call 27; (with_reducible refine PS.out.mono ?_); rintro e w' ⟨rfl, rfl⟩))
                  go_roundw
                  case rel => exact ⟨n, lv, T, j + 1, m5, [], true, arm, L, by first | rfl | exact trivial, by first | rfl | exact trivial, by first | rfl | exact trivial, by go_num, by omega, by omega, by omega, A0, Lib.hid (Or.inl rfl), H5, C5, I5, B5⟩
                  case measure => simp [intOf]; omega
                · have t1 : (x == 1) = false := by simpa using hx1
                  have t2 : (x == 2) = false := by simpa using hx2
                  have t3 : (x == 3) = false := by simpa using hx3
                  have t4 : (x == 4) = false := by simpa using hx4
                  have t5 : (x == 5) = false := by simpa using hx5

                  have H5 := P0
                  have C5 := P1
                  have I5 := P2
                  have B5 := P3

                  have PR : Hid (Calls Try.prog 31 #[.pointer (some ⟨q, 0, none⟩)] wp fun e w' => e = .returned (.tuple #[.int .i64 0, .int .i64 9]) ∧ wp = w') := Lib.hid (read_any W.heap.size k q m (pSh O T true arm L) n wp H5.out C5.out)
                  have PO : Hid (Calls Try.prog 24 #[.pointer (some ⟨k, 0, none⟩)] wp fun e w' => e = .returned (.bool true) ∧ wp = w') := Lib.hid (off_any W.heap.size k m (pSh O T true arm L) wp H5.out)
                  have PS : Hid (Calls Try.prog 27 #[.pointer (some ⟨k, 0, none⟩)] wp fun e w' => e = .returned (.int .i64 T) ∧ wp = w') := Lib.hid (steps_any W.heap.size k m (pSh O T true arm L) wp H5.out)
                  go_wp2_with (first
                    | (go_at_call 31; (with_reducible refine PR.out.mono ?_); rintro e w' ⟨rfl, rfl⟩)
                    | (go_at_call 24; (with_reducible refine PO.out.mono ?_); rintro e w' ⟨rfl, rfl⟩)
                    | (go_at_call 27; (with_reducible refine PS.out.mono ?_); rintro e w' ⟨rfl, rfl⟩))
                  go_roundw
                  case rel => exact ⟨n, lv, T, j + 1, m, O, true, arm, L, by first | rfl | exact trivial, by first | rfl | exact trivial, by first | rfl | exact trivial, by go_num, by omega, by omega, by omega, A0, O0, H5, C5, I5, B5⟩
                  case measure => simp [intOf]; omega
      | false =>
        by_cases hx1 : x = 1
        · subst hx1
          by_cases hlz : z ≤ n
          · have hlow : lowN n z = true := by simp [lowN]; omega

            have P := raise_any W.heap.size k q m (pSh O T false arm L) n z wp P0.out (pSh_ok t0 (by have := T1.out; omega) (by have := HL.out; omega) (by have := HL.out; omega)) P1.out HQ.out
            have e1 : raisedE (pSh O T false arm L) n z = 1 := by simp [raisedE, raisedS, hlow, pSh]
            have e2 : raisedS (pSh O T false arm L) n z = (pSh O T false arm L) := by simp [raisedE, raisedS, hlow, pSh]
            have e3 : raisedN (pSh O T false arm L) n z = n := by simp [raisedN, e1]
            rw [e1, e2, e3] at P
            clear e1 e2 e3
            go_wp2_with fail
            with_reducible refine P.mono ?_
            clear P
            rintro e w5 ⟨rfl, h5, c5, b5, k5⟩
            have H5 := Lib.hid h5
            have C5 := Lib.hid c5
            have I5 : Hid (blockIs w5 i [.map none] 92) := Lib.hid (k5 i _ _ P2.out IK.out IQ.out)
            have D5 := k5 pb _ _ PB.out PK.out.1 PK.out.2
            have B5 := Lib.hid (P3.out.trans b5)
            have g2 : w5.cell? ⟨pb, 0, none⟩ = some (.int .i64 1) := by rw [D5.cell]; rfl
            have g3 : w5.cell? ⟨pb, 1, none⟩ = some (.int .i64 z) := by rw [D5.cell]; rfl
            clear h5 c5 b5 k5 g0 g1 D5
            clear hlow

            have PR : Hid (Calls Try.prog 31 #[.pointer (some ⟨q, 0, none⟩)] w5 fun e w' => e = .returned (.tuple #[.int .i64 n, .int .i64 0]) ∧ w5 = w') := Lib.hid (read_any W.heap.size k q m (pSh O T false arm L) n w5 H5.out C5.out)
            have PO : Hid (Calls Try.prog 24 #[.pointer (some ⟨k, 0, none⟩)] w5 fun e w' => e = .returned (.bool false) ∧ w5 = w') := Lib.hid (off_any W.heap.size k m (pSh O T false arm L) w5 H5.out)
            have PS : Hid (Calls Try.prog 27 #[.pointer (some ⟨k, 0, none⟩)] w5 fun e w' => e = .returned (.int .i64 T) ∧ w5 = w') := Lib.hid (steps_any W.heap.size k m (pSh O T false arm L) w5 H5.out)
            go_wp2_with (first
              | (go_at_call 31; (with_reducible refine PR.out.mono ?_); rintro e w' ⟨rfl, rfl⟩)
              | (go_at_call 24; (with_reducible refine PO.out.mono ?_); rintro e w' ⟨rfl, rfl⟩)
              | (go_at_call 27; (with_reducible refine PS.out.mono ?_); rintro e w' ⟨rfl, rfl⟩))
            go_roundw
            case rel => exact ⟨n, lv, T, j + 1, m, O, false, arm, L, by first | rfl | exact trivial, by first | rfl | exact trivial, by first | rfl | exact trivial, by go_num, by omega, by omega, by omega, A0, O0, H5, C5, I5, B5⟩
            case measure => simp [intOf]; omega
          · by_cases hhz : 4611686018427387903 < z
            · have hlow : lowN n z = true := by simp [lowN]; omega

              have P := raise_any W.heap.size k q m (pSh O T false arm L) n z wp P0.out (pSh_ok t0 (by have := T1.out; omega) (by have := HL.out; omega) (by have := HL.out; omega)) P1.out HQ.out
              have e1 : raisedE (pSh O T false arm L) n z = 1 := by simp [raisedE, raisedS, hlow, pSh]
              have e2 : raisedS (pSh O T false arm L) n z = (pSh O T false arm L) := by simp [raisedE, raisedS, hlow, pSh]
              have e3 : raisedN (pSh O T false arm L) n z = n := by simp [raisedN, e1]
              rw [e1, e2, e3] at P
              clear e1 e2 e3
              go_wp2_with fail
              with_reducible refine P.mono ?_
              clear P
              rintro e w5 ⟨rfl, h5, c5, b5, k5⟩
              have H5 := Lib.hid h5
              have C5 := Lib.hid c5
              have I5 : Hid (blockIs w5 i [.map none] 92) := Lib.hid (k5 i _ _ P2.out IK.out IQ.out)
              have D5 := k5 pb _ _ PB.out PK.out.1 PK.out.2
              have B5 := Lib.hid (P3.out.trans b5)
              have g2 : w5.cell? ⟨pb, 0, none⟩ = some (.int .i64 1) := by rw [D5.cell]; rfl
              have g3 : w5.cell? ⟨pb, 1, none⟩ = some (.int .i64 z) := by rw [D5.cell]; rfl
              clear h5 c5 b5 k5 g0 g1 D5
              clear hlow

              have PR : Hid (Calls Try.prog 31 #[.pointer (some ⟨q, 0, none⟩)] w5 fun e w' => e = .returned (.tuple #[.int .i64 n, .int .i64 0]) ∧ w5 = w') := Lib.hid (read_any W.heap.size k q m (pSh O T false arm L) n w5 H5.out C5.out)
              have PO : Hid (Calls Try.prog 24 #[.pointer (some ⟨k, 0, none⟩)] w5 fun e w' => e = .returned (.bool false) ∧ w5 = w') := Lib.hid (off_any W.heap.size k m (pSh O T false arm L) w5 H5.out)
              have PS : Hid (Calls Try.prog 27 #[.pointer (some ⟨k, 0, none⟩)] w5 fun e w' => e = .returned (.int .i64 T) ∧ w5 = w') := Lib.hid (steps_any W.heap.size k m (pSh O T false arm L) w5 H5.out)
              go_wp2_with (first
                | (go_at_call 31; (with_reducible refine PR.out.mono ?_); rintro e w' ⟨rfl, rfl⟩)
                | (go_at_call 24; (with_reducible refine PO.out.mono ?_); rintro e w' ⟨rfl, rfl⟩)
                | (go_at_call 27; (with_reducible refine PS.out.mono ?_); rintro e w' ⟨rfl, rfl⟩))
              go_roundw
              case rel => exact ⟨n, lv, T, j + 1, m, O, false, arm, L, by first | rfl | exact trivial, by first | rfl | exact trivial, by first | rfl | exact trivial, by go_num, by omega, by omega, by omega, A0, O0, H5, C5, I5, B5⟩
              case measure => simp [intOf]; omega
            · have hh2 : z ≤ 4611686018427387903 := by omega
              have hh3 : n < z := by omega
              rcases A0.out with ⟨ea, el, la, lb⟩ | ⟨ea, el, la⟩
              · subst ea el
                by_cases hz : lv = 0
                · subst hz
                  have hlow : lowN n z = false := by simp [lowN]; omega

                  have P := raise_any W.heap.size k q m (pSh O T false true 0) n z wp P0.out (pSh_ok t0 (by have := T1.out; omega) (by have := HL.out; omega) (by have := HL.out; omega)) P1.out HQ.out
                  have e1 : raisedE (pSh O T false true 0) n z = 9 := by simp [raisedE, raisedS, hlow, pSh, spent, spentE]
                  have e2 : raisedS (pSh O T false true 0) n z = (pSh O T true true 0) := by simp [raisedE, raisedS, hlow, pSh, spent, spentE]
                  have e3 : raisedN (pSh O T false true 0) n z = n := by simp [raisedN, e1]
                  rw [e1, e2, e3] at P
                  clear e1 e2 e3
                  go_wp2_with fail
                  with_reducible refine P.mono ?_
                  clear P
                  rintro e w5 ⟨rfl, h5, c5, b5, k5⟩
                  have H5 := Lib.hid h5
                  have C5 := Lib.hid c5
                  have I5 : Hid (blockIs w5 i [.map none] 92) := Lib.hid (k5 i _ _ P2.out IK.out IQ.out)
                  have D5 := k5 pb _ _ PB.out PK.out.1 PK.out.2
                  have B5 := Lib.hid (P3.out.trans b5)
                  have g2 : w5.cell? ⟨pb, 0, none⟩ = some (.int .i64 1) := by rw [D5.cell]; rfl
                  have g3 : w5.cell? ⟨pb, 1, none⟩ = some (.int .i64 z) := by rw [D5.cell]; rfl
                  clear h5 c5 b5 k5 g0 g1 D5
                  clear hlow

                  have PR : Hid (Calls Try.prog 31 #[.pointer (some ⟨q, 0, none⟩)] w5 fun e w' => e = .returned (.tuple #[.int .i64 0, .int .i64 9]) ∧ w5 = w') := Lib.hid (read_any W.heap.size k q m (pSh O T true true 0) n w5 H5.out C5.out)
                  have PO : Hid (Calls Try.prog 24 #[.pointer (some ⟨k, 0, none⟩)] w5 fun e w' => e = .returned (.bool true) ∧ w5 = w') := Lib.hid (off_any W.heap.size k m (pSh O T true true 0) w5 H5.out)
                  have PS : Hid (Calls Try.prog 27 #[.pointer (some ⟨k, 0, none⟩)] w5 fun e w' => e = .returned (.int .i64 T) ∧ w5 = w') := Lib.hid (steps_any W.heap.size k m (pSh O T true true 0) w5 H5.out)
                  go_wp2_with (first
                    | (go_at_call 31; (with_reducible refine PR.out.mono ?_); rintro e w' ⟨rfl, rfl⟩)
                    | (go_at_call 24; (with_reducible refine PO.out.mono ?_); rintro e w' ⟨rfl, rfl⟩)
                    | (go_at_call 27; (with_reducible refine PS.out.mono ?_); rintro e w' ⟨rfl, rfl⟩))
                  go_roundw
                  case rel => exact ⟨n, 0, T, j + 1, m, O, true, true, 0, by first | rfl | exact trivial, by first | rfl | exact trivial, by first | rfl | exact trivial, by go_num, by omega, by omega, by omega, Lib.hid (Or.inl ⟨rfl, rfl, by omega, by omega⟩), O0, H5, C5, I5, B5⟩
                  case measure => simp [intOf]; omega
                · have lz : 0 < lv := by omega
                  have tz : (lv == 0) = false := by simp; omega
                  have hlow : lowN n z = false := by simp [lowN]; omega

                  have P := raise_any W.heap.size k q m (pSh O T false true lv) n z wp P0.out (pSh_ok t0 (by have := T1.out; omega) (by have := HL.out; omega) (by have := HL.out; omega)) P1.out HQ.out
                  have e1 : raisedE (pSh O T false true lv) n z = 0 := by simp [raisedE, hlow, pSh, spentE, show ¬ lv = 0 by omega]
                  have e2 : raisedS (pSh O T false true lv) n z = (pSh O (T + 1) false true (lv - 1)) := by simp [raisedS, hlow, pSh, spent, show ¬ lv = 0 by omega]
                  have e3 : raisedN (pSh O T false true lv) n z = z := by simp [raisedN, e1]
                  rw [e1, e2, e3] at P
                  clear e1 e2 e3
                  go_wp2_with fail
                  with_reducible refine P.mono ?_
                  clear P
                  rintro e w5 ⟨rfl, h5, c5, b5, k5⟩
                  have H5 := Lib.hid h5
                  have C5 := Lib.hid c5
                  have I5 : Hid (blockIs w5 i [.map none] 92) := Lib.hid (k5 i _ _ P2.out IK.out IQ.out)
                  have D5 := k5 pb _ _ PB.out PK.out.1 PK.out.2
                  have B5 := Lib.hid (P3.out.trans b5)
                  have g2 : w5.cell? ⟨pb, 0, none⟩ = some (.int .i64 1) := by rw [D5.cell]; rfl
                  have g3 : w5.cell? ⟨pb, 1, none⟩ = some (.int .i64 z) := by rw [D5.cell]; rfl
                  clear h5 c5 b5 k5 g0 g1 D5
                  clear hlow

                  have PR : Hid (Calls Try.prog 31 #[.pointer (some ⟨q, 0, none⟩)] w5 fun e w' => e = .returned (.tuple #[.int .i64 z, .int .i64 0]) ∧ w5 = w') := Lib.hid (read_any W.heap.size k q m (pSh O (T + 1) false true (lv - 1)) z w5 H5.out C5.out)
                  have PO : Hid (Calls Try.prog 24 #[.pointer (some ⟨k, 0, none⟩)] w5 fun e w' => e = .returned (.bool false) ∧ w5 = w') := Lib.hid (off_any W.heap.size k m (pSh O (T + 1) false true (lv - 1)) w5 H5.out)
                  have PS : Hid (Calls Try.prog 27 #[.pointer (some ⟨k, 0, none⟩)] w5 fun e w' => e = .returned (.int .i64 (T + 1)) ∧ w5 = w') := Lib.hid (steps_any W.heap.size k m (pSh O (T + 1) false true (lv - 1)) w5 H5.out)
                  go_wp2_with (first
                    | (go_at_call 31; (with_reducible refine PR.out.mono ?_); rintro e w' ⟨rfl, rfl⟩)
                    | (go_at_call 24; (with_reducible refine PO.out.mono ?_); rintro e w' ⟨rfl, rfl⟩)
                    | (go_at_call 27; (with_reducible refine PS.out.mono ?_); rintro e w' ⟨rfl, rfl⟩))
                  go_roundw
                  case rel => exact ⟨z, (lv - 1), (T + 1), j + 1, m, O, false, true, (lv - 1), by first | rfl | exact trivial, by first | rfl | exact trivial, by first | rfl | exact trivial, by go_num, by omega, by omega, by omega, Lib.hid (Or.inl ⟨rfl, rfl, by omega, by omega⟩), O0, H5, C5, I5, B5⟩
                  case measure => simp [intOf]; omega
              · subst ea el la
                have hlow : lowN n z = false := by simp [lowN]; omega

                have P := raise_any W.heap.size k q m (pSh O T false false 0) n z wp P0.out (pSh_ok t0 (by have := T1.out; omega) (by have := HL.out; omega) (by have := HL.out; omega)) P1.out HQ.out
                have e1 : raisedE (pSh O T false false 0) n z = 0 := by simp [raisedE, raisedS, hlow, pSh, spent, spentE]
                have e2 : raisedS (pSh O T false false 0) n z = (pSh O (T + 1) false false 0) := by simp [raisedE, raisedS, hlow, pSh, spent, spentE]
                have e3 : raisedN (pSh O T false false 0) n z = z := by simp [raisedN, e1]
                rw [e1, e2, e3] at P
                clear e1 e2 e3
                go_wp2_with fail
                with_reducible refine P.mono ?_
                clear P
                rintro e w5 ⟨rfl, h5, c5, b5, k5⟩
                have H5 := Lib.hid h5
                have C5 := Lib.hid c5
                have I5 : Hid (blockIs w5 i [.map none] 92) := Lib.hid (k5 i _ _ P2.out IK.out IQ.out)
                have D5 := k5 pb _ _ PB.out PK.out.1 PK.out.2
                have B5 := Lib.hid (P3.out.trans b5)
                have g2 : w5.cell? ⟨pb, 0, none⟩ = some (.int .i64 1) := by rw [D5.cell]; rfl
                have g3 : w5.cell? ⟨pb, 1, none⟩ = some (.int .i64 z) := by rw [D5.cell]; rfl
                clear h5 c5 b5 k5 g0 g1 D5
                clear hlow

                have PR : Hid (Calls Try.prog 31 #[.pointer (some ⟨q, 0, none⟩)] w5 fun e w' => e = .returned (.tuple #[.int .i64 z, .int .i64 0]) ∧ w5 = w') := Lib.hid (read_any W.heap.size k q m (pSh O (T + 1) false false 0) z w5 H5.out C5.out)
                have PO : Hid (Calls Try.prog 24 #[.pointer (some ⟨k, 0, none⟩)] w5 fun e w' => e = .returned (.bool false) ∧ w5 = w') := Lib.hid (off_any W.heap.size k m (pSh O (T + 1) false false 0) w5 H5.out)
                have PS : Hid (Calls Try.prog 27 #[.pointer (some ⟨k, 0, none⟩)] w5 fun e w' => e = .returned (.int .i64 (T + 1)) ∧ w5 = w') := Lib.hid (steps_any W.heap.size k m (pSh O (T + 1) false false 0) w5 H5.out)
                go_wp2_with (first
                  | (go_at_call 31; (with_reducible refine PR.out.mono ?_); rintro e w' ⟨rfl, rfl⟩)
                  | (go_at_call 24; (with_reducible refine PO.out.mono ?_); rintro e w' ⟨rfl, rfl⟩)
                  | (go_at_call 27; (with_reducible refine PS.out.mono ?_); rintro e w' ⟨rfl, rfl⟩))
                go_roundw
                case rel => exact ⟨z, (-1), (T + 1), j + 1, m, O, false, false, 0, by first | rfl | exact trivial, by first | rfl | exact trivial, by first | rfl | exact trivial, by go_num, by omega, by omega, by omega, Lib.hid (Or.inr ⟨rfl, rfl, rfl⟩), O0, H5, C5, I5, B5⟩
                case measure => simp [intOf]; omega
        · by_cases hx2 : x = 2
          · subst hx2
            go_wp2_with fail
            have P := arm_any W.heap.size k m (pSh O T false arm L) z wp P0.out X1.out
            rw [show armedSh (pSh O T false arm L) z = (pSh O T false true (max z 0)) from rfl] at P
            with_reducible refine P.mono ?_
            clear P
            rintro e w5 ⟨rfl, h5, s5⟩
            have H5 := Lib.hid h5
            have C5 : Hid (cellAt w5 q k n) := Lib.hid (P0.out.keeps s5 P1.out QK.out)
            have I5 : Hid (blockIs w5 i [.map none] 92) := Lib.hid (P0.out.keeps s5 P2.out IK.out)
            have D5 := P0.out.keeps s5 PB.out PK.out.1
            have B5 := Lib.hid (P3.out.trans (P0.out.step_below s5))
            have g2 : w5.cell? ⟨pb, 0, none⟩ = some (.int .i64 2) := by rw [D5.cell]; rfl
            have g3 : w5.cell? ⟨pb, 1, none⟩ = some (.int .i64 z) := by rw [D5.cell]; rfl
            have ZB : Hid (z ≤ 9223372036854775807) := Lib.hid (wf_bounds X1.out).2
            clear h5 s5 g0 g1 D5

            have PR : Hid (Calls Try.prog 31 #[.pointer (some ⟨q, 0, none⟩)] w5 fun e w' => e = .returned (.tuple #[.int .i64 n, .int .i64 0]) ∧ w5 = w') := Lib.hid (read_any W.heap.size k q m (pSh O T false true (max z 0)) n w5 H5.out C5.out)
            have PO : Hid (Calls Try.prog 24 #[.pointer (some ⟨k, 0, none⟩)] w5 fun e w' => e = .returned (.bool false) ∧ w5 = w') := Lib.hid (off_any W.heap.size k m (pSh O T false true (max z 0)) w5 H5.out)
            have PS : Hid (Calls Try.prog 27 #[.pointer (some ⟨k, 0, none⟩)] w5 fun e w' => e = .returned (.int .i64 T) ∧ w5 = w') := Lib.hid (steps_any W.heap.size k m (pSh O T false true (max z 0)) w5 H5.out)
            go_wp2_with (first
              | (go_at_call 31; (with_reducible refine PR.out.mono ?_); rintro e w' ⟨rfl, rfl⟩)
              | (go_at_call 24; (with_reducible refine PO.out.mono ?_); rintro e w' ⟨rfl, rfl⟩)
              | (go_at_call 27; (with_reducible refine PS.out.mono ?_); rintro e w' ⟨rfl, rfl⟩))
            go_roundw
            case rel => exact ⟨n, (max z 0), T, j + 1, m, O, false, true, (max z 0), by first | rfl | exact trivial, by first | rfl | exact trivial, by first | rfl | exact trivial, by go_num, by omega, by omega, by omega, Lib.hid (Or.inl ⟨rfl, rfl, by omega, by have := ZB.out; omega⟩), O0, H5, C5, I5, B5⟩
            case measure => simp [intOf]; omega
          · by_cases hx3 : x = 3
            · subst hx3
              go_wp2_with fail
              have P := crash_pl W.heap.size k m O T false arm L wp O0.out P0.out
              with_reducible refine P.mono ?_
              clear P
              rintro e w5 ⟨rfl, m5, h5, s5⟩
              have H5 := Lib.hid h5
              have C5 : Hid (cellAt w5 q k n) := Lib.hid (P0.out.keeps s5 P1.out QK.out)
              have I5 : Hid (blockIs w5 i [.map none] 92) := Lib.hid (P0.out.keeps s5 P2.out IK.out)
              have D5 := P0.out.keeps s5 PB.out PK.out.1
              have B5 := Lib.hid (P3.out.trans (P0.out.step_below s5))
              have g2 : w5.cell? ⟨pb, 0, none⟩ = some (.int .i64 3) := by rw [D5.cell]; rfl
              have g3 : w5.cell? ⟨pb, 1, none⟩ = some (.int .i64 z) := by rw [D5.cell]; rfl
              clear h5 s5 g0 g1 D5

              have PR : Hid (Calls Try.prog 31 #[.pointer (some ⟨q, 0, none⟩)] w5 fun e w' => e = .returned (.tuple #[.int .i64 n, .int .i64 0]) ∧ w5 = w') := Lib.hid (read_any W.heap.size k q m5 (pSh [] T false false 0) n w5 H5.out C5.out)
              have PO : Hid (Calls Try.prog 24 #[.pointer (some ⟨k, 0, none⟩)] w5 fun e w' => e = .returned (.bool false) ∧ w5 = w') := Lib.hid (off_any W.heap.size k m5 (pSh [] T false false 0) w5 H5.out)
              have PS : Hid (Calls Try.prog 27 #[.pointer (some ⟨k, 0, none⟩)] w5 fun e w' => e = .returned (.int .i64 T) ∧ w5 = w') := Lib.hid (steps_any W.heap.size k m5 (pSh [] T false false 0) w5 H5.out)
              go_wp2_with (first
                | (go_at_call 31; (with_reducible refine PR.out.mono ?_); rintro e w' ⟨rfl, rfl⟩)
                | (go_at_call 24; (with_reducible refine PO.out.mono ?_); rintro e w' ⟨rfl, rfl⟩)
                | (go_at_call 27; (with_reducible refine PS.out.mono ?_); rintro e w' ⟨rfl, rfl⟩))
              go_roundw
              case rel => exact ⟨n, (-1), T, j + 1, m5, [], false, false, 0, by first | rfl | exact trivial, by first | rfl | exact trivial, by first | rfl | exact trivial, by go_num, by omega, by omega, by omega, Lib.hid (Or.inr ⟨rfl, rfl, rfl⟩), Lib.hid (Or.inl rfl), H5, C5, I5, B5⟩
              case measure => simp [intOf]; omega
            · by_cases hx4 : x = 4
              · subst hx4
                rcases O0.out with eo | eo
                · subst eo
                  rcases A0.out with ⟨ea, el, la, lb⟩ | ⟨ea, el, la⟩
                  · subst ea el
                    by_cases hz : lv = 0
                    · subst hz
                      go_wp2_with fail
                      have P := put_none W.heap.size k m (pSh [] T false true 0) [97] wp P0.out (pSh_ok t0 (by have := T1.out; omega) (by have := HL.out; omega) (by have := HL.out; omega)) (by decide) (small_p (Or.inl rfl : ([] : List Ent) = [] ∨ ([] : List Ent) = oneA)).2.2 (small_p (Or.inl rfl : ([] : List Ent) = [] ∨ ([] : List Ent) = oneA)).1
                      have e1 : putE (pSh [] T false true 0) [97] [] = 9 := by simp [putE, putS, takes_nil, pSh, spent, spentE, oneA, put]
                      have e2 : putS (pSh [] T false true 0) [97] [] = (pSh [] T true true 0) := by simp [putE, putS, takes_nil, pSh, spent, spentE, oneA, put]
                      rw [e1, e2] at P
                      change Calls _ _ #[.pointer (some ⟨k, 0, none⟩), .string { data := #[97] }, .slice none 0 0] _ _ at P
                      clear e1 e2
                      with_reducible refine P.mono ?_
                      clear P
                      rintro e w5 ⟨rfl, m5, h5, s5⟩
                      have H5 := Lib.hid h5
                      have C5 : Hid (cellAt w5 q k n) := Lib.hid (P0.out.keeps s5 P1.out QK.out)
                      have I5 : Hid (blockIs w5 i [.map none] 92) := Lib.hid (P0.out.keeps s5 P2.out IK.out)
                      have D5 := P0.out.keeps s5 PB.out PK.out.1
                      have B5 := Lib.hid (P3.out.trans (P0.out.step_below s5))
                      have g2 : w5.cell? ⟨pb, 0, none⟩ = some (.int .i64 4) := by rw [D5.cell]; rfl
                      have g3 : w5.cell? ⟨pb, 1, none⟩ = some (.int .i64 z) := by rw [D5.cell]; rfl
                      clear h5 s5 g0 g1 D5

                      have PR : Hid (Calls Try.prog 31 #[.pointer (some ⟨q, 0, none⟩)] w5 fun e w' => e = .returned (.tuple #[.int .i64 0, .int .i64 9]) ∧ w5 = w') := Lib.hid (read_any W.heap.size k q m5 (pSh [] T true true 0) n w5 H5.out C5.out)
                      have PO : Hid (Calls Try.prog 24 #[.pointer (some ⟨k, 0, none⟩)] w5 fun e w' => e = .returned (.bool true) ∧ w5 = w') := Lib.hid (off_any W.heap.size k m5 (pSh [] T true true 0) w5 H5.out)
                      have PS : Hid (Calls Try.prog 27 #[.pointer (some ⟨k, 0, none⟩)] w5 fun e w' => e = .returned (.int .i64 T) ∧ w5 = w') := Lib.hid (steps_any W.heap.size k m5 (pSh [] T true true 0) w5 H5.out)
                      go_wp2_with (first
                        | (go_at_call 31; (with_reducible refine PR.out.mono ?_); rintro e w' ⟨rfl, rfl⟩)
                        | (go_at_call 24; (with_reducible refine PO.out.mono ?_); rintro e w' ⟨rfl, rfl⟩)
                        | (go_at_call 27; (with_reducible refine PS.out.mono ?_); rintro e w' ⟨rfl, rfl⟩))
                      go_roundw
                      case rel => exact ⟨n, 0, T, j + 1, m5, [], true, true, 0, by first | rfl | exact trivial, by first | rfl | exact trivial, by first | rfl | exact trivial, by go_num, by omega, by omega, by omega, Lib.hid (Or.inl ⟨rfl, rfl, by omega, by omega⟩), Lib.hid (Or.inl rfl), H5, C5, I5, B5⟩
                      case measure => simp [intOf]; omega
                    · have lz : 0 < lv := by omega
                      have tz : (lv == 0) = false := by simp; omega
                      go_wp2_with fail
                      have P := put_none W.heap.size k m (pSh [] T false true lv) [97] wp P0.out (pSh_ok t0 (by have := T1.out; omega) (by have := HL.out; omega) (by have := HL.out; omega)) (by decide) (small_p (Or.inl rfl : ([] : List Ent) = [] ∨ ([] : List Ent) = oneA)).2.2 (small_p (Or.inl rfl : ([] : List Ent) = [] ∨ ([] : List Ent) = oneA)).1
                      have e1 : putE (pSh [] T false true lv) [97] [] = 0 := by simp [putE, takes_nil, pSh, spentE]; omega
                      have e2 : putS (pSh [] T false true lv) [97] [] = (pSh oneA (T + 1) false true (lv - 1)) := by simp [putS, takes_nil, pSh, spent, spentE, oneA, put, show ¬ lv = 0 by omega]
                      rw [e1, e2] at P
                      change Calls _ _ #[.pointer (some ⟨k, 0, none⟩), .string { data := #[97] }, .slice none 0 0] _ _ at P
                      clear e1 e2
                      with_reducible refine P.mono ?_
                      clear P
                      rintro e w5 ⟨rfl, m5, h5, s5⟩
                      have H5 := Lib.hid h5
                      have C5 : Hid (cellAt w5 q k n) := Lib.hid (P0.out.keeps s5 P1.out QK.out)
                      have I5 : Hid (blockIs w5 i [.map none] 92) := Lib.hid (P0.out.keeps s5 P2.out IK.out)
                      have D5 := P0.out.keeps s5 PB.out PK.out.1
                      have B5 := Lib.hid (P3.out.trans (P0.out.step_below s5))
                      have g2 : w5.cell? ⟨pb, 0, none⟩ = some (.int .i64 4) := by rw [D5.cell]; rfl
                      have g3 : w5.cell? ⟨pb, 1, none⟩ = some (.int .i64 z) := by rw [D5.cell]; rfl
                      clear h5 s5 g0 g1 D5

                      have PR : Hid (Calls Try.prog 31 #[.pointer (some ⟨q, 0, none⟩)] w5 fun e w' => e = .returned (.tuple #[.int .i64 n, .int .i64 0]) ∧ w5 = w') := Lib.hid (read_any W.heap.size k q m5 (pSh oneA (T + 1) false true (lv - 1)) n w5 H5.out C5.out)
                      have PO : Hid (Calls Try.prog 24 #[.pointer (some ⟨k, 0, none⟩)] w5 fun e w' => e = .returned (.bool false) ∧ w5 = w') := Lib.hid (off_any W.heap.size k m5 (pSh oneA (T + 1) false true (lv - 1)) w5 H5.out)
                      have PS : Hid (Calls Try.prog 27 #[.pointer (some ⟨k, 0, none⟩)] w5 fun e w' => e = .returned (.int .i64 (T + 1)) ∧ w5 = w') := Lib.hid (steps_any W.heap.size k m5 (pSh oneA (T + 1) false true (lv - 1)) w5 H5.out)
                      go_wp2_with (first
                        | (go_at_call 31; (with_reducible refine PR.out.mono ?_); rintro e w' ⟨rfl, rfl⟩)
                        | (go_at_call 24; (with_reducible refine PO.out.mono ?_); rintro e w' ⟨rfl, rfl⟩)
                        | (go_at_call 27; (with_reducible refine PS.out.mono ?_); rintro e w' ⟨rfl, rfl⟩))
                      go_roundw
                      case rel => exact ⟨n, (lv - 1), (T + 1), j + 1, m5, oneA, false, true, (lv - 1), by first | rfl | exact trivial, by first | rfl | exact trivial, by first | rfl | exact trivial, by go_num, by omega, by omega, by omega, Lib.hid (Or.inl ⟨rfl, rfl, by omega, by omega⟩), Lib.hid (Or.inr rfl), H5, C5, I5, B5⟩
                      case measure => simp [intOf]; omega
                  · subst ea el la
                    go_wp2_with fail
                    have P := put_none W.heap.size k m (pSh [] T false false 0) [97] wp P0.out (pSh_ok t0 (by have := T1.out; omega) (by have := HL.out; omega) (by have := HL.out; omega)) (by decide) (small_p (Or.inl rfl : ([] : List Ent) = [] ∨ ([] : List Ent) = oneA)).2.2 (small_p (Or.inl rfl : ([] : List Ent) = [] ∨ ([] : List Ent) = oneA)).1
                    have e1 : putE (pSh [] T false false 0) [97] [] = 0 := by simp [putE, putS, takes_nil, pSh, spent, spentE, oneA, put]
                    have e2 : putS (pSh [] T false false 0) [97] [] = (pSh oneA (T + 1) false false 0) := by simp [putE, putS, takes_nil, pSh, spent, spentE, oneA, put]
                    rw [e1, e2] at P
                    change Calls _ _ #[.pointer (some ⟨k, 0, none⟩), .string { data := #[97] }, .slice none 0 0] _ _ at P
                    clear e1 e2
                    with_reducible refine P.mono ?_
                    clear P
                    rintro e w5 ⟨rfl, m5, h5, s5⟩
                    have H5 := Lib.hid h5
                    have C5 : Hid (cellAt w5 q k n) := Lib.hid (P0.out.keeps s5 P1.out QK.out)
                    have I5 : Hid (blockIs w5 i [.map none] 92) := Lib.hid (P0.out.keeps s5 P2.out IK.out)
                    have D5 := P0.out.keeps s5 PB.out PK.out.1
                    have B5 := Lib.hid (P3.out.trans (P0.out.step_below s5))
                    have g2 : w5.cell? ⟨pb, 0, none⟩ = some (.int .i64 4) := by rw [D5.cell]; rfl
                    have g3 : w5.cell? ⟨pb, 1, none⟩ = some (.int .i64 z) := by rw [D5.cell]; rfl
                    clear h5 s5 g0 g1 D5

                    have PR : Hid (Calls Try.prog 31 #[.pointer (some ⟨q, 0, none⟩)] w5 fun e w' => e = .returned (.tuple #[.int .i64 n, .int .i64 0]) ∧ w5 = w') := Lib.hid (read_any W.heap.size k q m5 (pSh oneA (T + 1) false false 0) n w5 H5.out C5.out)
                    have PO : Hid (Calls Try.prog 24 #[.pointer (some ⟨k, 0, none⟩)] w5 fun e w' => e = .returned (.bool false) ∧ w5 = w') := Lib.hid (off_any W.heap.size k m5 (pSh oneA (T + 1) false false 0) w5 H5.out)
                    have PS : Hid (Calls Try.prog 27 #[.pointer (some ⟨k, 0, none⟩)] w5 fun e w' => e = .returned (.int .i64 (T + 1)) ∧ w5 = w') := Lib.hid (steps_any W.heap.size k m5 (pSh oneA (T + 1) false false 0) w5 H5.out)
                    go_wp2_with (first
                      | (go_at_call 31; (with_reducible refine PR.out.mono ?_); rintro e w' ⟨rfl, rfl⟩)
                      | (go_at_call 24; (with_reducible refine PO.out.mono ?_); rintro e w' ⟨rfl, rfl⟩)
                      | (go_at_call 27; (with_reducible refine PS.out.mono ?_); rintro e w' ⟨rfl, rfl⟩))
                    go_roundw
                    case rel => exact ⟨n, (-1), (T + 1), j + 1, m5, oneA, false, false, 0, by first | rfl | exact trivial, by first | rfl | exact trivial, by first | rfl | exact trivial, by go_num, by omega, by omega, by omega, Lib.hid (Or.inr ⟨rfl, rfl, rfl⟩), Lib.hid (Or.inr rfl), H5, C5, I5, B5⟩
                    case measure => simp [intOf]; omega
                · subst eo
                  go_wp2_with fail
                  have P := put_none W.heap.size k m (pSh oneA T false arm L) [97] wp P0.out (pSh_ok t0 (by have := T1.out; omega) (by have := HL.out; omega) (by have := HL.out; omega)) (by decide) (small_p (Or.inr rfl : oneA = [] ∨ oneA = oneA)).2.2 (small_p (Or.inr rfl : oneA = [] ∨ oneA = oneA)).1
                  have e1 : putE (pSh oneA T false arm L) [97] [] = 7 := by simp [putE, putS, pSh, takesE, oneA, has, get, show isName [97] = true by decide]
                  have e2 : putS (pSh oneA T false arm L) [97] [] = (pSh oneA T false arm L) := by simp [putE, putS, pSh, takesE, oneA, has, get, show isName [97] = true by decide]
                  rw [e1, e2] at P
                  change Calls _ _ #[.pointer (some ⟨k, 0, none⟩), .string { data := #[97] }, .slice none 0 0] _ _ at P
                  clear e1 e2
                  with_reducible refine P.mono ?_
                  clear P
                  rintro e w5 ⟨rfl, m5, h5, s5⟩
                  have H5 := Lib.hid h5
                  have C5 : Hid (cellAt w5 q k n) := Lib.hid (P0.out.keeps s5 P1.out QK.out)
                  have I5 : Hid (blockIs w5 i [.map none] 92) := Lib.hid (P0.out.keeps s5 P2.out IK.out)
                  have D5 := P0.out.keeps s5 PB.out PK.out.1
                  have B5 := Lib.hid (P3.out.trans (P0.out.step_below s5))
                  have g2 : w5.cell? ⟨pb, 0, none⟩ = some (.int .i64 4) := by rw [D5.cell]; rfl
                  have g3 : w5.cell? ⟨pb, 1, none⟩ = some (.int .i64 z) := by rw [D5.cell]; rfl
                  clear h5 s5 g0 g1 D5

                  have PR : Hid (Calls Try.prog 31 #[.pointer (some ⟨q, 0, none⟩)] w5 fun e w' => e = .returned (.tuple #[.int .i64 n, .int .i64 0]) ∧ w5 = w') := Lib.hid (read_any W.heap.size k q m5 (pSh oneA T false arm L) n w5 H5.out C5.out)
                  have PO : Hid (Calls Try.prog 24 #[.pointer (some ⟨k, 0, none⟩)] w5 fun e w' => e = .returned (.bool false) ∧ w5 = w') := Lib.hid (off_any W.heap.size k m5 (pSh oneA T false arm L) w5 H5.out)
                  have PS : Hid (Calls Try.prog 27 #[.pointer (some ⟨k, 0, none⟩)] w5 fun e w' => e = .returned (.int .i64 T) ∧ w5 = w') := Lib.hid (steps_any W.heap.size k m5 (pSh oneA T false arm L) w5 H5.out)
                  go_wp2_with (first
                    | (go_at_call 31; (with_reducible refine PR.out.mono ?_); rintro e w' ⟨rfl, rfl⟩)
                    | (go_at_call 24; (with_reducible refine PO.out.mono ?_); rintro e w' ⟨rfl, rfl⟩)
                    | (go_at_call 27; (with_reducible refine PS.out.mono ?_); rintro e w' ⟨rfl, rfl⟩))
                  go_roundw
                  case rel => exact ⟨n, lv, T, j + 1, m5, oneA, false, arm, L, by first | rfl | exact trivial, by first | rfl | exact trivial, by first | rfl | exact trivial, by go_num, by omega, by omega, by omega, A0, Lib.hid (Or.inr rfl), H5, C5, I5, B5⟩
                  case measure => simp [intOf]; omega
              · by_cases hx5 : x = 5
                · subst hx5
                  go_wp2_with fail
                  have P := restore_any W.heap.size k m (pSh O T false arm L) W.heap.size i none [] wp P0.out ⟨HI.out, P2.out, fun _ => rfl, fun g e => by cases e⟩
                  rw [show restoredS (pSh O T false arm L) [] = (pSh [] T false arm L) from rfl] at P
                  with_reducible refine P.mono ?_
                  clear P
                  rintro e w5 ⟨rfl, m5, h5, s5⟩
                  have H5 := Lib.hid h5
                  have C5 : Hid (cellAt w5 q k n) := Lib.hid (P0.out.keeps s5 P1.out QK.out)
                  have I5 : Hid (blockIs w5 i [.map none] 92) := Lib.hid (P0.out.keeps s5 P2.out IK.out)
                  have D5 := P0.out.keeps s5 PB.out PK.out.1
                  have B5 := Lib.hid (P3.out.trans (P0.out.step_below s5))
                  have g2 : w5.cell? ⟨pb, 0, none⟩ = some (.int .i64 5) := by rw [D5.cell]; rfl
                  have g3 : w5.cell? ⟨pb, 1, none⟩ = some (.int .i64 z) := by rw [D5.cell]; rfl
                  clear h5 s5 g0 g1 D5

                  have PR : Hid (Calls Try.prog 31 #[.pointer (some ⟨q, 0, none⟩)] w5 fun e w' => e = .returned (.tuple #[.int .i64 n, .int .i64 0]) ∧ w5 = w') := Lib.hid (read_any W.heap.size k q m5 (pSh [] T false arm L) n w5 H5.out C5.out)
                  have PO : Hid (Calls Try.prog 24 #[.pointer (some ⟨k, 0, none⟩)] w5 fun e w' => e = .returned (.bool false) ∧ w5 = w') := Lib.hid (off_any W.heap.size k m5 (pSh [] T false arm L) w5 H5.out)
                  have PS : Hid (Calls Try.prog 27 #[.pointer (some ⟨k, 0, none⟩)] w5 fun e w' => e = .returned (.int .i64 T) ∧ w5 = w') := Lib.hid (steps_any W.heap.size k m5 (pSh [] T false arm L) w5 H5.out)
                  go_wp2_with (first
                    | (go_at_call 31; (with_reducible refine PR.out.mono ?_); rintro e w' ⟨rfl, rfl⟩)
                    | (go_at_call 24; (with_reducible refine PO.out.mono ?_); rintro e w' ⟨rfl, rfl⟩)
                    | (go_at_call 27; (with_reducible refine PS.out.mono ?_); rintro e w' ⟨rfl, rfl⟩))
                  go_roundw
                  case rel => exact ⟨n, lv, T, j + 1, m5, [], false, arm, L, by first | rfl | exact trivial, by first | rfl | exact trivial, by first | rfl | exact trivial, by go_num, by omega, by omega, by omega, A0, Lib.hid (Or.inl rfl), H5, C5, I5, B5⟩
                  case measure => simp [intOf]; omega
                · have t1 : (x == 1) = false := by simpa using hx1
                  have t2 : (x == 2) = false := by simpa using hx2
                  have t3 : (x == 3) = false := by simpa using hx3
                  have t4 : (x == 4) = false := by simpa using hx4
                  have t5 : (x == 5) = false := by simpa using hx5

                  have H5 := P0
                  have C5 := P1
                  have I5 := P2
                  have B5 := P3

                  have PR : Hid (Calls Try.prog 31 #[.pointer (some ⟨q, 0, none⟩)] wp fun e w' => e = .returned (.tuple #[.int .i64 n, .int .i64 0]) ∧ wp = w') := Lib.hid (read_any W.heap.size k q m (pSh O T false arm L) n wp H5.out C5.out)
                  have PO : Hid (Calls Try.prog 24 #[.pointer (some ⟨k, 0, none⟩)] wp fun e w' => e = .returned (.bool false) ∧ wp = w') := Lib.hid (off_any W.heap.size k m (pSh O T false arm L) wp H5.out)
                  have PS : Hid (Calls Try.prog 27 #[.pointer (some ⟨k, 0, none⟩)] wp fun e w' => e = .returned (.int .i64 T) ∧ wp = w') := Lib.hid (steps_any W.heap.size k m (pSh O T false arm L) wp H5.out)
                  go_wp2_with (first
                    | (go_at_call 31; (with_reducible refine PR.out.mono ?_); rintro e w' ⟨rfl, rfl⟩)
                    | (go_at_call 24; (with_reducible refine PO.out.mono ?_); rintro e w' ⟨rfl, rfl⟩)
                    | (go_at_call 27; (with_reducible refine PS.out.mono ?_); rintro e w' ⟨rfl, rfl⟩))
                  go_roundw
                  case rel => exact ⟨n, lv, T, j + 1, m, O, false, arm, L, by first | rfl | exact trivial, by first | rfl | exact trivial, by first | rfl | exact trivial, by go_num, by omega, by omega, by omega, A0, O0, H5, C5, I5, B5⟩
                  case measure => simp [intOf]; omega
    · by_cases hlt : j < F.length
      · have q0 : (j : Int) < (F.length : Int) := by omega
        have q1 : ¬ (j : Int) < 60 := by omega
        clear hend
        go_wp2_with fail
        with_reducible refine (crash_pl W.heap.size k m O T off arm L wr O0.out K0.out).mono ?_
        rintro e w5 ⟨rfl, m5, h5, s5⟩
        have H5 := Lib.hid h5
        have C5 : Hid (cellAt w5 q k n) := Lib.hid (K0.out.keeps s5 K1.out QK.out)
        have B5 := Lib.hid (K3.out.trans (K0.out.step_below s5))
        clear h5 s5
        go_wp2_with fail
        have PR := read_any W.heap.size k q m5 _ n w5 H5.out C5.out
        rw [show (pSh [] T false false 0).off = false from rfl] at PR
        with_reducible refine PR.mono ?_
        clear PR
        rintro e w9 ⟨rfl, rfl⟩
        go_wp2_with fail
        go_ret
        exact ⟨rfl, B5.out⟩
      · have q0 : ¬ (j : Int) < (F.length : Int) := by omega
        clear hend
        go_wp2_with fail
        with_reducible refine (crash_pl W.heap.size k m O T off arm L wr O0.out K0.out).mono ?_
        rintro e w5 ⟨rfl, m5, h5, s5⟩
        have H5 := Lib.hid h5
        have C5 : Hid (cellAt w5 q k n) := Lib.hid (K0.out.keeps s5 K1.out QK.out)
        have B5 := Lib.hid (K3.out.trans (K0.out.step_below s5))
        clear h5 s5
        go_wp2_with fail
        have PR := read_any W.heap.size k q m5 _ n w5 H5.out C5.out
        rw [show (pSh [] T false false 0).off = false from rfl] at PR
        with_reducible refine PR.mono ?_
        clear PR
        rintro e w9 ⟨rfl, rfl⟩
        go_wp2_with fail
        go_ret
        exact ⟨rfl, B5.out⟩

end Go.Proofs.Ytdkilnglaiciiaa
