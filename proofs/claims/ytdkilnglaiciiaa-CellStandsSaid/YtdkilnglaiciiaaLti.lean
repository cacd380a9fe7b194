/- CellTicks: for every row of numbers a clock tells the sum of its ticks; one that goes back, or too far, is refused. No condition. -/
import Derived.Test.YtdkilnglaiciiaaChecked
import Derived.Test.YtdkilnglaiciiaaRi
import Derived.Test.YtdkilnglaiciiaaOpn
namespace Go.Proofs.Ytdkilnglaiciiaa
open Go.RowKit Go.MapKept
theorem ints_at {W : World} {a : Option Addr} {c : Nat} {F : List Int} (h : rowInts W a c F) (j : Nat) (hj : j < F.length) : ∃ b o, a = some ⟨b, o, none⟩ ∧ W.cell? ⟨b, o + j, none⟩ = some (.int .i64 (F.getD j 0)) ∧ (Lit.int .i64 (F.getD j 0)).wf = true := by
  obtain ⟨b, o, e, d⟩ := h.2.2.2.at j (by rw [zvals_length]; exact hj)
  refine ⟨b, o, e, ?_, ?_⟩
  · rw [d]
    simp [zvals, hj]
  · have : F.getD j 0 = F[j] := by simp [hj]
    rw [this]
    exact h.2.2.1 _ (List.getElem_mem hj)
set_option maxRecDepth 100000 in
set_option maxHeartbeats 4000000 in
theorem law_cellTicks (a : Option Addr) (c : Nat) (F : List Int) (W : World) (hF : rowInts W a c F) :
    Calls Try.prog 8 #[.slice a F.length c] W fun e w' => e = .returned (.bool true) ∧ Below W.heap.size W w' := by
  have HF := Lib.hid hF
  have hl : (F.length : Int) ≤ 9223372036854775807 := by have := hF.1; have := hF.2.1; omega
  clear hF
  go_enter Try.func8, Try.ntmps8
  go_wp2_with fail
  with_reducible refine (rises_any W).mono ?_
  rintro e w1 ⟨rfl, b1⟩
  have B1 := Lib.hid b1
  clear b1
  go_wp2_with (first
    | (go_at_call 36; (with_reducible refine (never_any _).mono ?_); rintro e w' ⟨rfl, rfl⟩)
    | (go_at_call 37; (with_reducible refine (now_nil _).mono ?_); rintro e w' ⟨rfl, rfl⟩)
    | (go_at_call 38; (with_reducible refine (tick_nil _ _).mono ?_); rintro e w' ⟨rfl, rfl⟩))
  have C2 : Hid (clockAt (w1.alloc (.cells #[.int .i64 0] 71 (0, 0))) w1.heap.size 0) := Lib.hid (blockIs.new w1 [.int .i64 0] _)
  have B2 := Lib.hid (B1.out.alloc B1.out.size (.cells #[.int .i64 0] 71 (0, 0)))
  have HQ : Hid (W.heap.size ≤ w1.heap.size) := Lib.hid B1.out.size
  generalize w1.alloc (.cells #[.int .i64 0] 71 (0, 0)) = w2 at *
  generalize w1.heap.size = q at *
  go_loopw [4, 5] (fun u v wr => ∃ (n : Int) (j : Nat), u = .int .i64 n ∧ v = .int .i64 (j : Int) ∧ j ≤ F.length ∧ (0 ≤ n ∧ n ≤ 1099511627776) ∧ Hid (clockAt wr q n) ∧ Hid (Below W.heap.size W wr)) (fun _ v _ => F.length - (intOf v).toNat)
  case atStart => exact ⟨0, 0, rfl, rfl, Nat.zero_le _, by decide, C2, B2⟩
  case round =>
    obtain ⟨n, j, rfl, rfl, hj, ⟨n0, n1⟩, K1, K2⟩ := hrel
    have p0 : 0 ≤ (j : Int) := by omega
    by_cases hlt : j < F.length
    · by_cases h60 : (j : Int) < 60
      · have q0 : (j : Int) < (F.length : Int) := by omega
        obtain ⟨bb, bo, ha, d, hwf⟩ := ints_at HF.out j hlt
        subst ha
        have D0 := Lib.hid d
        have DB : Hid (bb < W.heap.size) := Lib.hid (block_lt_of_cell d)
        have WF := Lib.hid hwf
        clear d hwf
        generalize F.getD j 0 = x at *
        have d1 := (K2.out.cell (p := ⟨bb, bo + j, none⟩) DB.out).trans D0.out
        have T := Lib.hid (tick_any q n x wr K1.out n0 n1)
        cases hb : badTick n x with
        | true =>
          rw [hb] at T
          simp only [if_true] at T
          have hb' : x < 0 ∨ 1099511627776 - n < x := by simpa [badTick] using hb
          clear hb
          by_cases hx : x < 0
          all_goals
            go_wp2_with fail
            with_reducible refine T.out.mono ?_
            rintro e w3 ⟨rfl, h3, b3⟩
            have C3 := Lib.hid h3
            have B3 := Lib.hid (K2.out.trans (b3.below HQ.out K2.out.size))
            have d2 := (B3.out.cell (p := ⟨bb, bo + j, none⟩) DB.out).trans D0.out
            clear h3 b3 d1
            have hx2 : ¬ x < 0 → 1099511627776 - n < x := by omega
            try have hx3 := hx2 hx
            clear hx2
            go_wp2_with (go_at_call 37; (with_reducible refine (now_any q n _ C3.out).mono ?_); rintro e w' ⟨rfl, rfl⟩)
            go_roundw
            case rel => exact ⟨n, j + 1, by first | rfl | exact trivial, by go_num, by omega, by omega, C3, B3⟩
            case measure => simp [intOf]; omega
        | false =>
          rw [hb] at T
          simp only [Bool.false_eq_true, if_false] at T
          have hb' : 0 ≤ x ∧ x ≤ 1099511627776 - n := by simpa [badTick] using hb
          obtain ⟨hb1, hb2⟩ := hb'
          clear hb
          go_wp2_with fail
          with_reducible refine T.out.mono ?_
          rintro e w3 ⟨rfl, h3, b3⟩
          have C3 := Lib.hid h3
          have B3 := Lib.hid (K2.out.trans (b3.below HQ.out K2.out.size))
          have d2 := (B3.out.cell (p := ⟨bb, bo + j, none⟩) DB.out).trans D0.out
          clear h3 b3 d1
          go_wp2_with (go_at_call 37; (with_reducible refine (now_any q (n + x) _ C3.out).mono ?_); rintro e w' ⟨rfl, rfl⟩)
          go_roundw
          case rel => exact ⟨n + x, j + 1, by first | rfl | exact trivial, by go_num, by omega, by omega, C3, B3⟩
          case measure => simp [intOf]; omega
      · have q0 : (j : Int) < (F.length : Int) := by omega
        go_wp2_with fail
        go_ret
        exact ⟨rfl, K2.out⟩
    · have q0 : ¬ (j : Int) < (F.length : Int) := by omega
      go_wp2_with fail
      go_ret
      exact ⟨rfl, K2.out⟩
namespace cellTicks
open Go.ChangeShapes Go.WideShapes Go.ChangeAt Go.RowKit Go.Joins Go.Deep Go.ChangeMaps
set_option maxRecDepth 100000 in
theorem lifted (os : Os) (started : os.Started) (H : Type) (enc : TypeId × Value → H) :
    ReturnsInHanded {} Try.checked os 8 .any (Rows.cellTicksSpec.pre6 enc Try.prog Try.f8 Rows.cellTicksRow.domain false) (Rows.cellTicksSpec.post enc Try.prog Try.f8 false true false false) := by
  refine returnsInHanded_of_change (C := Try.checked) own started (by kernel_rfl) Try.func8
    (ChangeSpec.witness6 (enc := enc) (C := Try.checked) false ⟨#[], #[.slice none 0 0], []⟩ 8 (by kernel_rfl) (by kernel_rfl) (by kernel_rfl) (by kernel_rfl)) ?_
  intro W base args ds gs before hval0 hW hcnd _
  have hval : ∀ (j : Nat) t v, Try.f8.params[j]? = some t → args[j]? = some v → Value.okWide Try.prog W .any base t v := hval0
  have hW' := hW
  obtain ⟨p, q, hA0, hV, rfl, hfz, hnd⟩ := hW
  have hA : DataW.TrodAll enc Try.prog W 0 (fun _ => true) true Try.f8.params.toList args.toList ds p := hA0
  rw [Try.params8] at hA hval
  obtain ⟨v0, vs0, d0, ds0, p0, q0, hargs, rfl, rfl, h0, r0⟩ := trodAll_cons hA
  obtain ⟨rfl, rfl, rfl⟩ := trodAll_nil r0
  obtain rfl : args = #[v0] := by cases args; simp_all
  obtain ⟨rfl, rfl⟩ := trodVars_none hV
  obtain ⟨a0, l0, c0, rfl⟩ := okWide_slice Try.underlying34 (hval 0 34 v0 rfl rfl)
  have h0k := h0
  obtain ⟨n0, g0⟩ := h0
  obtain ⟨b0, k0, F0, e0, hF0⟩ := open_intsz (v := .slice a0 l0 c0) (by simpa [Value.cells] using g0)
  clear hA0 hval0
  simp only [List.append_nil, List.nil_append] at hW'
  have hlt : ∀ x ∈ p0, x.block < W.heap.size := fun x hx => hW'.lt x (by simpa using hx)
  rw [e0]
  refine (law_cellTicks b0 k0 F0 W hF0).mono fun e W' ⟨he, hb⟩ => ?_
  rw [← e0]
  subst he
  refine ⟨_, rfl, [d0], [], p0, [], p0, [], by simpa using hW', ?_, ?_, ?_, hb.frame _, fun h => by cases h⟩
  · exact trodAll_cons_mk (shut_bool Try.underlying4 _) trodAll_mk0
  · have : DataW.TrodAll enc Try.prog W' 0 (fun b => decide (b < W.heap.size)) true _ _ _ _ := (trodAll_cons_mk (Below.trod laidOut (by kernel_rfl) (of_decide_eq_true (by kernel_rfl)) h0k hb (fun x hx => hlt x (by simp [hx]))) trodAll_mk0)
    simp only [List.append_nil, List.nil_append] at this
    exact this
  · rfl

theorem proved : Rows.CellTicksSaid :=
  OpenClaim.holds_of_wide 8 Try.f8 rfl rfl rfl rfl rfl rfl rfl ⟨rfl, rfl, rfl, rfl, rfl⟩ rfl rfl rfl rfl rfl (by kernel_rfl) Try.func8 (by kernel_rfl)
    (of_decide_eq_true (by kernel_rfl)) (by unfold Func.isWrapper; first | (rw [if_pos (by decide +kernel)]; kernel_rfl) | (rw [if_neg (by decide +kernel)]; exact ⟨rfl, rfl⟩))
    (fun os started H enc _ => lifted os started H enc)
end cellTicks
end Go.Proofs.Ytdkilnglaiciiaa
