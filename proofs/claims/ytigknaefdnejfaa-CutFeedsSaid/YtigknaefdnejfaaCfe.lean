/- CutFeeds: for every rule, all bytes and all parts the law returns true, and its arguments read as before. No condition. -/
import Derived.Test.YtigknaefdnejfaaLfe
import Derived.ChangeMaps5
namespace Go.Proofs.Ytigknaefdnejfaa
open Go.RowKit
def rowInts (w : World) (a : Option Addr) (c : Nat) (N : List Int) : Prop := N.length ≤ c ∧ c ≤ 9223372036854775807 ∧ (∀ z ∈ N, (Lit.int .i64 z).wf = true) ∧ valsIn w a (zvals N)
theorem valsIn_of {w : World} {a : Addr} {xs : List Value} (h : ∀ i (hi : i < xs.length), w.cell? (a.add i) = some xs[i]) : valsIn w (some a) xs := by
  by_cases hp : 0 < xs.length
  · obtain ⟨b, off, spot⟩ := a
    have hspot : spot = none := by simpa [Addr.add] using World.cell?_spot (h 0 hp)
    subst hspot
    refine Or.inr ⟨b, off, rfl, fun j hj => ?_⟩
    rw [← Go.WideShapes.add_plain, h j hj]
    simp [hj]
  · exact Or.inl (List.eq_nil_of_length_eq_zero (by omega))
theorem cells_int : Try.prog.cellsOf 3 = 1 := by kernel_rfl
theorem max_len : maxLen = 9223372036854775807 := by decide
section
open Go.RowKit Go.ChangeShapes Go.WideShapes Go.ChangeAt Go.Deep Go.Joins Go.ChangeMaps
variable {H : Type} {enc : TypeId × Value → H} {w : World} {base : Nat}
theorem open_intsz {fuel : Nat} {v : Value} {x : DataW H × List MemPlace} (h : DataW.trod enc Try.prog w base (fun _ => true) true fuel 43 [v] = some x) :
    ∃ (a : Option Addr) (c : Nat) (F : List Int), v = .slice a F.length c ∧ rowInts w a c F := by
  rcases Go.ChangeShapes.open_ints Try.underlying43 Try.underlying3 cells_int h with ⟨hcs, hx⟩ | ⟨a, len, cap, zs, hcs, _, hl, hm, hz, hx, hcell, hw⟩
  · obtain rfl : v = .slice none 0 0 := by simpa using hcs
    exact ⟨none, 0, [], rfl, by simp, by simp, by simp, Or.inl rfl⟩
  · obtain rfl : v = .slice (some a) len cap := by simpa using hcs
    simp only [if_true] at hz
    have hlen : (zs.take len).length = len := by rw [List.length_take]; omega
    rw [max_len] at hm
    refine ⟨some a, cap, zs.take len, by rw [hlen], by omega, hm, fun z hz => hw z (List.mem_of_mem_take hz), valsIn_of fun i hi => ?_⟩
    rw [zvals_length, hlen] at hi
    rw [hcell i (by omega)]
    have h1 : i < zs.length := by omega
    simp [zvals, h1]
end
namespace cutFeeds
open Go.ChangeShapes Go.WideShapes Go.ChangeAt Go.RowKit Go.Joins Go.Deep
set_option maxRecDepth 100000 in
theorem lifted (os : Os) (started : os.Started) (H : Type) (enc : TypeId × Value → H) :
    ReturnsInHanded {} Try.checked os 4 .any (Rows.cutFeedsSpec.pre6 enc Try.prog Try.f4 Rows.cutFeedsRow.domain false) (Rows.cutFeedsSpec.post enc Try.prog Try.f4 false true false false) := by
  refine returnsInHanded_of_change (C := Try.checked) own started (by kernel_rfl) Try.func4
    (ChangeSpec.witness6 (enc := enc) (C := Try.checked) false ⟨#[], #[.agg #[.int .i64 0, .int .i64 0, .int .i64 0, .int .u64 0], .slice none 0 0, .slice none 0 0], []⟩ 8 (by kernel_rfl) (by kernel_rfl) (by kernel_rfl) (by kernel_rfl)) ?_
  intro W base args ds gs before hval0 hW hcnd _
  have hval : ∀ (j : Nat) t v, Try.f4.params[j]? = some t → args[j]? = some v → Value.okWide Try.prog W .any base t v := hval0
  have hW' := hW
  obtain ⟨p, q, hA0, hV, rfl, hfz, hnd⟩ := hW
  have hA : DataW.TrodAll enc Try.prog W 0 (fun _ => true) true Try.f4.params.toList args.toList ds p := hA0
  rw [Try.params4] at hA hval
  obtain ⟨v0, vs0, d0, ds0, p0, q0, hargs, rfl, rfl, h0, r0⟩ := trodAll_cons hA
  obtain ⟨v1, vs1, d1, ds1, p1, q1, rfl, rfl, rfl, h1, r1⟩ := trodAll_cons r0
  obtain ⟨v2, vs2, d2, ds2, p2, q2, rfl, rfl, rfl, h2, r2⟩ := trodAll_cons r1
  obtain ⟨rfl, rfl, rfl⟩ := trodAll_nil r2
  obtain rfl : args = #[v0, v1, v2] := by cases args; simp_all
  obtain ⟨rfl, rfl⟩ := trodVars_none hV
  have h0k := h0
  obtain ⟨u0_0, u1_0, u2_0, u3_0, y0_0, y1_0, y2_0, y3_0, n_0, rfl, hd0, hp0, g0_0, g1_0, g2_0, g3_0⟩ := open_agg4 Try.underlying24 (by kernel_rfl) (by kernel_rfl) (hval 0 24 v0 rfl rfl) h0
  obtain ⟨a0_0, e0_0, _, w0_0⟩ := DataW.trod_int Try.underlying3 g0_0
  obtain rfl : u0_0 = .int .i64 a0_0 := by simpa using e0_0
  obtain ⟨a1_0, e1_0, _, w1_0⟩ := DataW.trod_int Try.underlying3 g1_0
  obtain rfl : u1_0 = .int .i64 a1_0 := by simpa using e1_0
  obtain ⟨a2_0, e2_0, _, w2_0⟩ := DataW.trod_int Try.underlying3 g2_0
  obtain rfl : u2_0 = .int .i64 a2_0 := by simpa using e2_0
  obtain ⟨a3_0, e3_0, _, w3_0⟩ := DataW.trod_int Try.underlying22 g3_0
  obtain rfl : u3_0 = .int .u64 a3_0 := by simpa using e3_0
  obtain ⟨x3_0, rfl⟩ := word_of a3_0 w3_0
  clear hd0 hp0
  obtain ⟨a1, l1, c1, rfl⟩ := okWide_slice Try.underlying25 (hval 1 25 v1 rfl rfl)
  have h1k := h1
  obtain ⟨n1, g1⟩ := h1
  obtain ⟨b1, k1, F1, e1, hF1, hin1, hz1⟩ := open_bytes (v := .slice a1 l1 c1) (by simpa [Value.cells] using g1)
  obtain ⟨a2, l2, c2, rfl⟩ := okWide_slice Try.underlying43 (hval 2 43 v2 rfl rfl)
  have h2k := h2
  obtain ⟨n2, g2⟩ := h2
  obtain ⟨b2, k2, F2, e2, hF2⟩ := open_intsz (v := .slice a2 l2 c2) (by simpa [Value.cells] using g2)
  clear hA0 hval0
  simp only [List.append_nil, List.nil_append] at hW'
  have hlt : ∀ x ∈ p0 ++ p1 ++ p2, x.block < W.heap.size := fun x hx => hW'.lt x (by simpa using hx)
  rw [e1, e2]
  refine (law_cutFeeds a0_0 a1_0 a2_0 x3_0 b1 k1 F1 b2 k2 F2 W w0_0 w1_0 w2_0 hF1 hin1 hz1 hF2.2.2.2).mono fun e W' ⟨he, hb⟩ => ?_
  rw [← e1, ← e2]
  subst he
  refine ⟨_, rfl, [d0, d1, d2], [], p0 ++ (p1 ++ p2), [], p0 ++ (p1 ++ p2), [], by simpa using hW', ?_, ?_, ?_, hb.frame _, fun h => by cases h⟩
  · exact trodAll_cons_mk (shut_bool Try.underlying4 _) trodAll_mk0
  · have : DataW.TrodAll enc Try.prog W' 0 (fun b => decide (b < W.heap.size)) true _ _ _ _ := (trodAll_cons_mk (Below.trod laidOut (by kernel_rfl) (of_decide_eq_true (by kernel_rfl)) h0k hb (fun x hx => hlt x (by simp [hx]))) (trodAll_cons_mk (Below.trod laidOut (by kernel_rfl) (of_decide_eq_true (by kernel_rfl)) h1k hb (fun x hx => hlt x (by simp [hx]))) (trodAll_cons_mk (Below.trod laidOut (by kernel_rfl) (of_decide_eq_true (by kernel_rfl)) h2k hb (fun x hx => hlt x (by simp [hx]))) trodAll_mk0)))
    simp only [List.append_nil, List.nil_append] at this
    exact this
  · rfl

theorem proved : Rows.CutFeedsSaid :=
  OpenClaim.holds_of_wide 4 Try.f4 rfl rfl rfl rfl rfl rfl rfl ⟨rfl, rfl, rfl, rfl, rfl⟩ rfl rfl rfl rfl rfl (by kernel_rfl) Try.func4 (by kernel_rfl)
    (of_decide_eq_true (by kernel_rfl)) (by unfold Func.isWrapper; first | (rw [if_pos (by decide +kernel)]; kernel_rfl) | (rw [if_neg (by decide +kernel)]; exact ⟨rfl, rfl⟩))
    (fun os started H enc _ => lifted os started H enc)
end cutFeeds
end Go.Proofs.Ytigknaefdnejfaa
