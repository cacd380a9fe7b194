/- CellOrders: for every row of numbers, raised one behind the other, a cell has the greatest that may be, told at each time; those that aren't above it are refused. No condition. -/
import Derived.Test.YtdkilnglaiciiaaChecked
import Derived.Test.YtdkilnglaiciiaaLti
namespace Go.Proofs.Ytdkilnglaiciiaa
open Go.RowKit Go.MapKept
/-- A store without objects that was never armed. -/
def plainSh (t : Int) : Sh := ⟨10, [], t, false, false, 0⟩
theorem plain_ok (t : Int) (h0 : 0 ≤ t) (h1 : t ≤ 1000000000) : ShOk (plainSh t) := ⟨⟨by show (0 : Int) ≤ 10; decide, by show (10 : Int) ≤ 1073741824; decide⟩, ⟨h0, h1⟩, ⟨by show (0 : Int) ≤ 0; decide, by show (0 : Int) ≤ 9223372036854775807; decide⟩⟩
theorem namesOf_nil (p : List UInt8) : namesOf [] p = [] := by simp [namesOf, namesIn]
theorem plain_crashed (t : Int) : crashed (plainSh t) [] = plainSh t := by
  show ({ plainSh t with objs := crashGo (namesOf [] []) [] [], off := false, armed := false, left := 0 } : Sh) = plainSh t
  rw [namesOf_nil]
  rfl
theorem crash_plain (B k : Nat) (m : Option Nat) (t : Int) (w : World) (h : ShAt w B k m (plainSh t)) :
    Calls Try.prog 21 #[.pointer (some ⟨k, 0, none⟩), .slice none 0 0] w fun e w' => e = .returned (.tuple #[]) ∧ ∃ m', ShAt w' B k m' (plainSh t) ∧ Step k m w m' w' := by
  have P := crash_none B k m (plainSh t) w h (Nat.zero_le _) (fun p hp => absurd hp (List.not_mem_nil))
  rw [plain_crashed] at P
  exact P
set_option maxRecDepth 100000 in
set_option maxHeartbeats 4000000 in
theorem law_cellOrders (a : Option Addr) (c : Nat) (F : List Int) (W : World) (hF : rowInts W a c F) :
    Calls Try.prog 10 #[.slice a F.length c] W fun e w' => e = .returned (.bool true) ∧ Below W.heap.size W w' := by
  have HF := Lib.hid hF
  have hl : (F.length : Int) ≤ 9223372036854775807 := by have := hF.1; have := hF.2.1; omega
  clear hF
  go_enter Try.func10, Try.ntmps10
  go_wp2_with fail
  with_reducible refine (new_any 10 W (by decide) (by decide)).mono ?_
  rintro e w1 ⟨k, rfl, h1, b1⟩
  have H1 := Lib.hid h1
  have B1 := Lib.hid b1
  clear h1 b1
  go_wp2_with fail
  with_reducible refine (cellnew_any k w1).mono ?_
  rintro e w2 ⟨q, rfl, hc, h2, b2⟩
  have H2 := Lib.hid (H1.out.below b2)
  have C2 := Lib.hid h2
  have B2 := Lib.hid (B1.out.trans (b2.mono B1.out.size))
  have HC : Hid (W.heap.size ≤ q) := Lib.hid (Nat.le_trans B1.out.size hc)
  clear h2 b2 hc
  go_wp2_with fail
  with_reducible refine (rises_any w2).mono ?_
  rintro e w3 ⟨rfl, b3⟩
  have H3 := Lib.hid (H2.out.below b3)
  have C3 : Hid (cellAt w3 q k 0) := Lib.hid (blockIs.below b3 C2.out (blockIs.lt C2.out))
  have B3 := Lib.hid (B2.out.trans (b3.mono B2.out.size))
  clear b3
  go_wp2_with fail
  go_loopw [7, 8] (fun u v wr => ∃ (n t : Int) (j : Nat) (m : Option Nat), u = .int .i64 n ∧ v = .int .i64 (j : Int) ∧ j ≤ F.length ∧ (0 ≤ n ∧ n ≤ 4611686018427387903) ∧ (0 ≤ t ∧ t ≤ (j : Int)) ∧ Hid (ShAt wr W.heap.size k m (plainSh t)) ∧ Hid (cellAt wr q k n) ∧ Hid (Below W.heap.size W wr)) (fun _ v _ => F.length - (intOf v).toNat)
  case atStart => exact ⟨0, 0, 0, none, rfl, rfl, Nat.zero_le _, by decide, by decide, H3, C3, B3⟩
  case round =>
    obtain ⟨n, t, j, m, rfl, rfl, hj, ⟨n0, n1⟩, ⟨t0, t1⟩, K0, K1, K2⟩ := hrel
    have p0 : 0 ≤ (j : Int) := by omega
    by_cases hlt : j < F.length
    · by_cases h60 : (j : Int) < 60
      · have q0 : (j : Int) < (F.length : Int) := by omega
        obtain ⟨bb, bo, ha, d, hwf⟩ := ints_at HF.out j hlt
        subst ha
        have d1 := (K2.out.cell (p := ⟨bb, bo + j, none⟩) (block_lt_of_cell d)).trans d
        have XB : Hid (-4611686018427387904 < (F.getD j 0).tmod 4611686018427387904 ∧ (F.getD j 0).tmod 4611686018427387904 < 4611686018427387904) := Lib.hid (by
          have a1 := Int.tmod_lt_of_pos (F.getD j 0) (show (0 : Int) < 4611686018427387904 by decide)
          have a2 := Int.lt_tmod_of_pos (F.getD j 0) (show (0 : Int) < 4611686018427387904 by decide)
          exact ⟨a2, a1⟩)
        clear d hwf
        generalize F.getD j 0 = x at *
        go_wp2_with fail
        obtain ⟨x1, x2⟩ := XB.out
        generalize x.tmod 4611686018427387904 = y at *
        have P := raise_any W.heap.size k q m (plainSh t) n y wr K0.out (plain_ok t t0 (by omega)) K1.out HC.out
        by_cases hy : n < y
        · have hlow : lowN n y = false := by simp [lowN]; omega
          have e1 : raisedE (plainSh t) n y = 0 := by simp [raisedE, hlow, plainSh, spentE]
          have e2 : raisedS (plainSh t) n y = plainSh (t + 1) := by simp [raisedS, hlow, plainSh, spent]
          have e3 : raisedN (plainSh t) n y = y := by simp [raisedN, e1]
          rw [e1, e2, e3] at P
          have MX : max n y = y := by omega
          clear e1 e2 e3 hlow
          with_reducible refine P.mono ?_
          clear P
          rintro e w4 ⟨rfl, h4, c4, b4, -⟩
          have A4 := Lib.hid h4
          have C4 := Lib.hid c4
          have B4 := Lib.hid (K2.out.trans b4)
          clear h4 c4 b4 d1
          by_cases h5 : (j : Int) % 5 = 4
          · have t5 : ((j : Int) % 5 == 4) = true := by simpa using h5
            clear h5
            go_wp2_with fail
            with_reducible refine (crash_plain W.heap.size k m _ w4 A4.out).mono ?_
            rintro e w5 ⟨rfl, m5, h5, s5⟩
            have A5 := Lib.hid h5
            have C5 := Lib.hid (A4.out.keeps s5 C4.out (C4.out.ne A4.out))
            have B5 := Lib.hid (B4.out.trans (A4.out.step_below s5))
            clear h5 s5
            go_wp2_with fail
            have P := read_any W.heap.size k q m5 _ y w5 A5.out C5.out
            rw [show (plainSh (t + 1)).off = false from rfl] at P
            with_reducible refine P.mono ?_
            clear P
            rintro e w6 ⟨rfl, rfl⟩
            go_wp2_with fail
            go_roundw
            case rel => exact ⟨y, (t + 1), j + 1, m5, by first | rfl | exact trivial | simp [MX], by go_num, by omega, by omega, by omega, A5, C5, B5⟩
            case measure => simp [intOf]; omega
          · have t5 : ((j : Int) % 5 == 4) = false := by simpa using h5
            clear h5
            go_wp2_with fail
            have P := read_any W.heap.size k q m _ y w4 A4.out C4.out
            rw [show (plainSh (t + 1)).off = false from rfl] at P
            with_reducible refine P.mono ?_
            clear P
            rintro e w6 ⟨rfl, rfl⟩
            go_wp2_with fail
            go_roundw
            case rel => exact ⟨y, (t + 1), j + 1, m, by first | rfl | exact trivial | simp [MX], by go_num, by omega, by omega, by omega, A4, C4, B4⟩
            case measure => simp [intOf]; omega
        · have hlow : lowN n y = true := by simp [lowN]; omega
          have e1 : raisedE (plainSh t) n y = 1 := by simp [raisedE, hlow, plainSh]
          have e2 : raisedS (plainSh t) n y = plainSh t := by simp [raisedS, hlow, plainSh]
          have e3 : raisedN (plainSh t) n y = n := by simp [raisedN, e1]
          rw [e1, e2, e3] at P
          have MX : max n y = n := by omega
          clear e1 e2 e3 hlow
          with_reducible refine P.mono ?_
          clear P
          rintro e w4 ⟨rfl, h4, c4, b4, -⟩
          have A4 := Lib.hid h4
          have C4 := Lib.hid c4
          have B4 := Lib.hid (K2.out.trans b4)
          clear h4 c4 b4 d1
          by_cases h5 : (j : Int) % 5 = 4
          · have t5 : ((j : Int) % 5 == 4) = true := by simpa using h5
            clear h5
            go_wp2_with fail
            with_reducible refine (crash_plain W.heap.size k m _ w4 A4.out).mono ?_
            rintro e w5 ⟨rfl, m5, h5, s5⟩
            have A5 := Lib.hid h5
            have C5 := Lib.hid (A4.out.keeps s5 C4.out (C4.out.ne A4.out))
            have B5 := Lib.hid (B4.out.trans (A4.out.step_below s5))
            clear h5 s5
            go_wp2_with fail
            have P := read_any W.heap.size k q m5 _ n w5 A5.out C5.out
            rw [show (plainSh t).off = false from rfl] at P
            with_reducible refine P.mono ?_
            clear P
            rintro e w6 ⟨rfl, rfl⟩
            go_wp2_with fail
            go_roundw
            case rel => exact ⟨n, t, j + 1, m5, by first | rfl | exact trivial | simp [MX], by go_num, by omega, by omega, by omega, A5, C5, B5⟩
            case measure => simp [intOf]; omega
          · have t5 : ((j : Int) % 5 == 4) = false := by simpa using h5
            clear h5
            go_wp2_with fail
            have P := read_any W.heap.size k q m _ n w4 A4.out C4.out
            rw [show (plainSh t).off = false from rfl] at P
            with_reducible refine P.mono ?_
            clear P
            rintro e w6 ⟨rfl, rfl⟩
            go_wp2_with fail
            go_roundw
            case rel => exact ⟨n, t, j + 1, m, by first | rfl | exact trivial | simp [MX], by go_num, by omega, by omega, by omega, A4, C4, B4⟩
            case measure => simp [intOf]; omega
      · have q0 : (j : Int) < (F.length : Int) := by omega
        go_wp2_with fail
        go_ret
        exact ⟨rfl, K2.out⟩
    · have q0 : ¬ (j : Int) < (F.length : Int) := by omega
      go_wp2_with fail
      go_ret
      exact ⟨rfl, K2.out⟩
namespace cellOrders
open Go.ChangeShapes Go.WideShapes Go.ChangeAt Go.RowKit Go.Joins Go.Deep Go.ChangeMaps
set_option maxRecDepth 100000 in
theorem lifted (os : Os) (started : os.Started) (H : Type) (enc : TypeId × Value → H) :
    ReturnsInHanded {} Try.checked os 10 .any (Rows.cellOrdersSpec.pre6 enc Try.prog Try.f10 Rows.cellOrdersRow.domain false) (Rows.cellOrdersSpec.post enc Try.prog Try.f10 false true false false) := by
  refine returnsInHanded_of_change (C := Try.checked) own started (by kernel_rfl) Try.func10
    (ChangeSpec.witness6 (enc := enc) (C := Try.checked) false ⟨#[], #[.slice none 0 0], []⟩ 8 (by kernel_rfl) (by kernel_rfl) (by kernel_rfl) (by kernel_rfl)) ?_
  intro W base args ds gs before hval0 hW hcnd _
  have hval : ∀ (j : Nat) t v, Try.f10.params[j]? = some t → args[j]? = some v → Value.okWide Try.prog W .any base t v := hval0
  have hW' := hW
  obtain ⟨p, q, hA0, hV, rfl, hfz, hnd⟩ := hW
  have hA : DataW.TrodAll enc Try.prog W 0 (fun _ => true) true Try.f10.params.toList args.toList ds p := hA0
  rw [Try.params10] at hA hval
  obtain ⟨v0, vs0, d0, ds0, p0, q0, hargs, rfl, rfl, h0, r0⟩ := trodAll_cons hA
  obtain ⟨rfl, rfl, rfl⟩ := trodAll_nil r0
  obtain rfl : args = #[v0] := by cases args; simp_all
  obtain ⟨rfl, rfl⟩ := trodVars_none hV
  obtain ⟨a0, l0, c0, rfl⟩ := okWide_slice Try.underlying34 (hval 0 34 v0 rfl rfl)
  have h0k := h0
  obtain ⟨n0, g0⟩ := h0
  obtain ⟨b0, k0, F0, e0, hF0⟩ := open_intsz (v := .slice a0 l0 c0) (by simpa [Value.cells] using g0)
  clear hA0 hval0
  simp only [List.append_nil, List.nil_append] at hW'
  have hlt : ∀ x ∈ p0, x.block < W.heap.size := fun x hx => hW'.lt x (by simpa using hx)
  rw [e0]
  refine (law_cellOrders b0 k0 F0 W hF0).mono fun e W' ⟨he, hb⟩ => ?_
  rw [← e0]
  subst he
  refine ⟨_, rfl, [d0], [], p0, [], p0, [], by simpa using hW', ?_, ?_, ?_, hb.frame _, fun h => by cases h⟩
  · exact trodAll_cons_mk (shut_bool Try.underlying4 _) trodAll_mk0
  · have : DataW.TrodAll enc Try.prog W' 0 (fun b => decide (b < W.heap.size)) true _ _ _ _ := (trodAll_cons_mk (Below.trod laidOut (by kernel_rfl) (of_decide_eq_true (by kernel_rfl)) h0k hb (fun x hx => hlt x (by simp [hx]))) trodAll_mk0)
    simp only [List.append_nil, List.nil_append] at this
    exact this
  · rfl

theorem proved : Rows.CellOrdersSaid :=
  OpenClaim.holds_of_wide 10 Try.f10 rfl rfl rfl rfl rfl rfl rfl ⟨rfl, rfl, rfl, rfl, rfl⟩ rfl rfl rfl rfl rfl (by kernel_rfl) Try.func10 (by kernel_rfl)
    (of_decide_eq_true (by kernel_rfl)) (by unfold Func.isWrapper; first | (rw [if_pos (by decide +kernel)]; kernel_rfl) | (rw [if_neg (by decide +kernel)]; exact ⟨rfl, rfl⟩))
    (fun os started H enc _ => lifted os started H enc)
end cellOrders
end Go.Proofs.Ytdkilnglaiciiaa
