/- CutBounds: for every rule and all bytes the law returns true, and its arguments read as before. No condition. -/
import Derived.Test.YtefienlfpclekaaCuts
import Derived.Lib.SmallJoins
namespace Go.Proofs.Ytefienlfpclekaa
open Go.RowKit

set_option maxRecDepth 100000 in
set_option maxHeartbeats 2000000 in
theorem law_cutBounds (la ma ba : Int) (po : W) (a : Option Addr) (c : Nat) (L : List UInt8) (w : World) (h1 : (Lit.int .i64 la).wf = true) (h2 : (Lit.int .i64 ma).wf = true) (h3 : (Lit.int .i64 ba).wf = true) (hl : L.length ≤ c) (hin : bytesIn w a L) (hz : a = none → c = 0) :
    Calls Try.prog 5 #[.agg #[.int .i64 la, .int .i64 ma, .int .i64 ba, .int .u64 (U po)], .slice a L.length c] w fun e w' => e = .returned (.bool true) ∧ Below w.heap.size w w' := by
  have H := Lib.hid (hin.take 2500)
  clear hin hz
  have B0 := Lib.hid (blockIs.new w (ruleCells la ma ba po) 24)
  have c0 : (w.alloc (.cells (ruleCells la ma ba po).toArray 24 (0, 0))).cell? ⟨w.heap.size, 0, none⟩ = some (.int .i64 la) := B0.out.cell 0
  have c1 : (w.alloc (.cells (ruleCells la ma ba po).toArray 24 (0, 0))).cell? ⟨w.heap.size, 1, none⟩ = some (.int .i64 ma) := B0.out.cell 1
  have c2 : (w.alloc (.cells (ruleCells la ma ba po).toArray 24 (0, 0))).cell? ⟨w.heap.size, 2, none⟩ = some (.int .i64 ba) := B0.out.cell 2
  have c3 : (w.alloc (.cells (ruleCells la ma ba po).toArray 24 (0, 0))).cell? ⟨w.heap.size, 3, none⟩ = some (.int .u64 (U po)) := B0.out.cell 3
  go_enter Try.func5, Try.ntmps5
  go_wp2_with fail
  go_region_law
    (first
    | (go_simp; go_at_call 10
       with_reducible refine (bytes_any _ _ _ _ hl).mono ?_
       rintro e w2 ⟨rfl, rfl⟩)
    | (go_simp; go_at_call 18
       with_reducible refine (tame_any la ma ba po _ h1 h2 h3).mono ?_
       rintro e w2 ⟨r, hr, rfl, hb⟩
       have B2 := Lib.hid (B0.out.below hb (by simp))
       have c5 : w2.cell? ⟨w.heap.size, 0, none⟩ = some (.int .i64 la) := B2.out.cell 0
       have c6 : w2.cell? ⟨w.heap.size, 1, none⟩ = some (.int .i64 ma) := B2.out.cell 1
       have c7 : w2.cell? ⟨w.heap.size, 2, none⟩ = some (.int .i64 ba) := B2.out.cell 2
       have c8 : w2.cell? ⟨w.heap.size, 3, none⟩ = some (.int .u64 (U po)) := B2.out.cell 3
       have f5 := B2.out.free 0
       have f6 := B2.out.free 1
       have f7 := B2.out.free 2
       have f8 := B2.out.free 3))
  all_goals
    have B3 := Lib.hid ((((B2.out.set 0 (.int .i64 (r.least : Int))).set 1 (.int .i64 (r.most : Int))).set 2 (.int .i64 (r.bits : Int))).set 3 (.int .u64 (U r.poly)))
    have H3 : Hid (Below w.heap.size w ((((w2.setCell ⟨w.heap.size, 0, none⟩ (.int .i64 (r.least : Int))).setCell ⟨w.heap.size, 1, none⟩ (.int .i64 (r.most : Int))).setCell ⟨w.heap.size, 2, none⟩ (.int .i64 (r.bits : Int))).setCell ⟨w.heap.size, 3, none⟩ (.int .u64 (U r.poly)))) := Lib.hid ((((((((Below.refl w.heap.size w).alloc (Nat.le_refl _) (.cells (ruleCells la ma ba po).toArray 24 (0, 0))).drew).trans (hb.mono (by simp))).setCell (Nat.le_refl _) _).setCell (Nat.le_refl _) _).setCell (Nat.le_refl _) _).setCell (Nat.le_refl _) _)
    generalize ((((w2.setCell ⟨w.heap.size, 0, none⟩ (.int .i64 (r.least : Int))).setCell ⟨w.heap.size, 1, none⟩ (.int .i64 (r.most : Int))).setCell ⟨w.heap.size, 2, none⟩ (.int .i64 (r.bits : Int))).setCell ⟨w.heap.size, 3, none⟩ (.int .u64 (U r.poly))) = w3 at *
    clear hb B2 c0 c1 c2 c3 c5 c6 c7 c8 f5 f6 f7 f8 B0
    have c0 : w3.cell? ⟨w.heap.size, 0, none⟩ = some (.int .i64 (r.least : Int)) := B3.out.cell 0
    have c1 : w3.cell? ⟨w.heap.size, 1, none⟩ = some (.int .i64 (r.most : Int)) := B3.out.cell 1
    have c2 : w3.cell? ⟨w.heap.size, 2, none⟩ = some (.int .i64 (r.bits : Int)) := B3.out.cell 2
    have c3 : w3.cell? ⟨w.heap.size, 3, none⟩ = some (.int .u64 (U r.poly)) := B3.out.cell 3
    have e4 : min L.length 2500 = (L.take 2500).length := by rw [List.length_take]; omega
    have e5 : (L.take 2500).length ≤ 2500 := by rw [List.length_take]; omega
    have e6 : (L.take 2500).length ≤ c := by rw [List.length_take]; omega
    rw [e4]
    clear e4
    generalize L.take 2500 = l at *
    go_wp2_with fail
    refine (to_any _ _ _ _ _).mono ?_
    rintro e w4 ⟨rfl, hb⟩
    have H4 := Lib.hid (H3.out.trans (hb.mono H3.out.size))
    have B4 := Lib.hid (B3.out.below hb B3.out.lt)
    clear hb H3 B3 c0 c1 c2 c3
    go_wp2_with fail
    refine (sizes_any r hr a l c w4 e6 (by omega) (H.out.below H4.out (Nat.le_refl _))).mono ?_
    rintro e w5 ⟨v, rfl, hrow, hb⟩
    have H5 := Lib.hid (H4.out.trans (hb.mono H4.out.size))
    have B5 := Lib.hid (B4.out.below hb B4.out.lt)
    obtain ⟨sa, sc, rfl, l1, hv, hz⟩ := hrow.vals
    have V5 := Lib.hid hv
    clear hb hrow hv hz H4 B4
    rw [ivals_length] at l1 ⊢
    go_wp2_with fail
    refine (cuts_any _).mono ?_
    rintro e w6 ⟨rfl, hb⟩
    have H6 := Lib.hid (H5.out.trans (hb.mono H5.out.size))
    have B6 := Lib.hid (B5.out.below hb B5.out.lt)
    have V6 := Lib.hid (V5.out.below hb (Nat.le_refl _))
    clear hb H5 B5 V5
    have HS : Hid (∀ i, i < (r.sizes l).length → 1 ≤ (r.sizes l).getD i 0 ∧ (r.sizes l).getD i 0 ≤ r.most ∧ (i + 1 < (r.sizes l).length → r.least ≤ (r.sizes l).getD i 0) ∧ ((r.sizes l).take i).sum + (r.sizes l).getD i 0 ≤ l.length) := Lib.hid (fun i hi => r.sizes_piece hr l i hi)
    have HL := Lib.hid (r.sizes_len l)
    have HQ := Lib.hid (r.sizes_sum l)
    generalize r.sizes l = S at *
    go_wp2_with fail
    go_loopw [7, 8] (fun t i wr => ∃ j : Nat, j ≤ S.length ∧ i = .int .i64 (j : Int) ∧ t = .int .i64 ((S.take j).sum : Int) ∧ Hid (Below w.heap.size w wr) ∧ Hid (blockIs wr w.heap.size (ruleCells (r.least : Int) (r.most : Int) (r.bits : Int) r.poly) 24) ∧ Hid (valsIn wr sa (ivals S))) (fun _ i _ => S.length - (intOf i).toNat)
    case atStart => exact ⟨0, Nat.zero_le _, rfl, rfl, H6, B6, V6⟩
    case round =>
      obtain ⟨j, hj, rfl, rfl, K1, K2, K3⟩ := hrel
      clear H6 B6 V6
      have p0 : 0 ≤ (j : Int) := by omega
      by_cases hlt : j < S.length
      · have q0 : (j : Int) < (S.length : Int) := by omega
        obtain ⟨b1, o1, rfl, d1⟩ := K3.out.at j (by rw [ivals_length]; exact hlt)
        have e1 : (ivals S)[j]'(by rw [ivals_length]; exact hlt) = .int .i64 ((S.getD j 0 : Nat) : Int) := by simp [ivals, hlt]
        rw [e1] at d1
        clear e1
        have T1 := Lib.hid (sum_take S j hlt)
        obtain ⟨s1, s2, s3, s4⟩ := HS.out j hlt
        have HN := Lib.hid s3
        clear s3
        have c0 : wr.cell? ⟨w.heap.size, 0, none⟩ = some (.int .i64 (r.least : Int)) := K2.out.cell 0
        have c1 : wr.cell? ⟨w.heap.size, 1, none⟩ = some (.int .i64 (r.most : Int)) := K2.out.cell 1
        generalize (S.take j).sum = z at *
        generalize S.getD j 0 = x at *
        have hw : IntKind.i64.wrap ((S.length : Int) - 1) = (S.length : Int) - 1 := by have := HL.out; rw [IntKind.wrap_i64]; omega
        have hw2 : wrap64 ((S.length : Int) - 1) = (S.length : Int) - 1 := by have := HL.out; unfold wrap64; omega
        have x1 : (1 : Int) ≤ (x : Int) := by omega
        have x2 : (x : Int) ≤ (r.most : Int) := by omega
        have HX : Hid ((j : Int) < (S.length : Int) - 1 → (r.least : Int) ≤ (x : Int)) := Lib.hid (fun h => by have := HN.out (by omega); omega)
        have HX2 : Hid ((x : Int) + (z : Int) = ((z + x : Nat) : Int)) := Lib.hid (by omega)
        have x3 : (x : Int) ≤ 2500 := by omega
        have j2 : (j : Int) ≤ 2500 := by have := HL.out; omega
        have z1 : (0 : Int) ≤ (z : Int) := by omega
        have z2 : (z : Int) ≤ 2500 := by omega
        have HL1 : Hid ((S.length : Int) ≤ 2500) := Lib.hid (by have := HL.out; omega)
        generalize hxx : (x : Int) = X at *
        have HXX := Lib.hid hxx
        clear hxx
        generalize (r.most : Int) = M at *
        generalize (r.least : Int) = N at *
        have t1 : decide (X < 1) = false := by simp; omega
        have t2 : decide (M < X) = false := by simp; omega
        by_cases hlast : (j : Int) < (S.length : Int) - 1
        · have t3 : decide ((j : Int) < (S.length : Int) - 1) = true := by simpa using hlast
          have t4 : decide (X < N) = false := by have := HX.out hlast; simp; omega
          go_wp2_with fail
          go_quiet (fail)
          go_wp2_with fail
          go_roundw
          case rel => exact ⟨j + 1, by omega, by go_num, by rw [T1.out, Int.natCast_add, HXX.out], Lib.hid (below_drewN K1.out _), Lib.hid K2.out, Lib.hid K3.out⟩
          case measure => simp [intOf]; omega
        · have t3 : decide ((j : Int) < (S.length : Int) - 1) = false := by simpa using hlast
          go_wp2_with fail
          go_quiet (fail)
          go_wp2_with fail
          go_roundw
          case rel => exact ⟨j + 1, by omega, by go_num, by rw [T1.out, Int.natCast_add, HXX.out], Lib.hid (below_drewN K1.out _), Lib.hid K2.out, Lib.hid K3.out⟩
          case measure => simp [intOf]; omega
      · obtain rfl : j = S.length := by omega
        rw [List.take_length, HQ.out]
        go_wp2_with fail
        go_ret
        exact ⟨ret_bool (by simp), K1.out⟩

namespace cutBounds
open Go.ChangeShapes Go.WideShapes Go.ChangeAt Go.RowKit Go.Joins Go.Deep
set_option maxRecDepth 100000 in
theorem lifted (os : Os) (started : os.Started) (H : Type) (enc : TypeId × Value → H) :
    ReturnsInHanded {} Try.checked os 5 .any (Rows.cutBoundsSpec.pre6 enc Try.prog Try.f5 Rows.cutBoundsRow.domain false) (Rows.cutBoundsSpec.post enc Try.prog Try.f5 false true false false) := by
  refine returnsInHanded_of_change (C := Try.checked) own started (by kernel_rfl) Try.func5
    (ChangeSpec.witness6 (enc := enc) (C := Try.checked) false ⟨#[], #[.agg #[.int .i64 0, .int .i64 0, .int .i64 0, .int .u64 0], .slice none 0 0], []⟩ 8 (by kernel_rfl) (by kernel_rfl) (by kernel_rfl) (by kernel_rfl)) ?_
  intro W base args ds gs before hval0 hW hcnd _
  have hval : ∀ (j : Nat) t v, Try.f5.params[j]? = some t → args[j]? = some v → Value.okWide Try.prog W .any base t v := hval0
  have hW' := hW
  obtain ⟨p, q, hA0, hV, rfl, hfz, hnd⟩ := hW
  have hA : DataW.TrodAll enc Try.prog W 0 (fun _ => true) true Try.f5.params.toList args.toList ds p := hA0
  rw [Try.params5] at hA hval
  obtain ⟨v0, vs0, d0, ds0, p0, q0, hargs, rfl, rfl, h0, r0⟩ := trodAll_cons hA
  obtain ⟨v1, vs1, d1, ds1, p1, q1, rfl, rfl, rfl, h1, r1⟩ := trodAll_cons r0
  obtain ⟨rfl, rfl, rfl⟩ := trodAll_nil r1
  obtain rfl : args = #[v0, v1] := by cases args; simp_all
  obtain ⟨rfl, rfl⟩ := trodVars_none hV
  have h0k := h0
  obtain ⟨u0_0, u1_0, u2_0, u3_0, y0_0, y1_0, y2_0, y3_0, n_0, rfl, hd0, hp0, g0_0, g1_0, g2_0, g3_0⟩ := open_agg4 Try.underlying24 (by kernel_rfl) (by kernel_rfl) (hval 0 24 v0 rfl rfl) h0
  obtain ⟨a0_0, e0_0, _, w0_0⟩ := DataW.trod_int Try.underlying3 g0_0
  obtain rfl : u0_0 = .int .i64 a0_0 := by simpa using e0_0
  obtain ⟨a1_0, e1_0, _, w1_0⟩ := DataW.trod_int Try.underlying3 g1_0
  obtain rfl : u1_0 = .int .i64 a1_0 := by simpa using e1_0
  obtain ⟨a2_0, e2_0, _, w2_0⟩ := DataW.trod_int Try.underlying3 g2_0
  obtain rfl : u2_0 = .int .i64 a2_0 := by simpa using e2_0
  obtain ⟨a3_0, e3_0, _, w3_0⟩ := DataW.trod_int Try.underlying22 g3_0
  obtain rfl : u3_0 = .int .u64 a3_0 := by simpa using e3_0
  obtain ⟨x3_0, rfl⟩ := word_of a3_0 w3_0
  clear hd0 hp0
  obtain ⟨a1, l1, c1, rfl⟩ := okWide_slice Try.underlying25 (hval 1 25 v1 rfl rfl)
  have h1k := h1
  obtain ⟨n1, g1⟩ := h1
  obtain ⟨b1, k1, F1, e1, hF1, hin1, hz1⟩ := open_bytes (v := .slice a1 l1 c1) (by simpa [Value.cells] using g1)
  clear hA0 hval0
  simp only [List.append_nil, List.nil_append] at hW'
  have hlt : ∀ x ∈ p0 ++ p1, x.block < W.heap.size := fun x hx => hW'.lt x (by simpa using hx)
  rw [e1]
  refine (law_cutBounds a0_0 a1_0 a2_0 x3_0 b1 k1 F1 W w0_0 w1_0 w2_0 hF1 hin1 hz1).mono fun e W' ⟨he, hb⟩ => ?_
  rw [← e1]
  subst he
  refine ⟨_, rfl, [d0, d1], [], p0 ++ p1, [], p0 ++ p1, [], by simpa using hW', ?_, ?_, ?_, hb.frame _, fun h => by cases h⟩
  · exact trodAll_cons_mk (shut_bool Try.underlying4 _) trodAll_mk0
  · have := (trodAll_cons_mk (Below.trod laidOut (by kernel_rfl) (of_decide_eq_true (by kernel_rfl)) h0k hb (fun x hx => hlt x (by simp [hx]))) (trodAll_cons_mk (Below.trod laidOut (by kernel_rfl) (of_decide_eq_true (by kernel_rfl)) h1k hb (fun x hx => hlt x (by simp [hx]))) trodAll_mk0))
    simp only [List.append_nil, List.nil_append] at this
    exact this
  · rfl

theorem proved : Rows.CutBoundsSaid :=
  OpenClaim.holds_of_wide 5 Try.f5 rfl rfl rfl rfl rfl rfl rfl ⟨rfl, rfl, rfl, rfl, rfl⟩ rfl rfl rfl rfl rfl (by kernel_rfl) Try.func5 (by kernel_rfl)
    (of_decide_eq_true (by kernel_rfl)) (by unfold Func.isWrapper; first | (rw [if_pos (by decide +kernel)]; kernel_rfl) | (rw [if_neg (by decide +kernel)]; exact ⟨rfl, rfl⟩))
    (fun os started H enc _ => lifted os started H enc)
end cutBounds
end Go.Proofs.Ytefienlfpclekaa
