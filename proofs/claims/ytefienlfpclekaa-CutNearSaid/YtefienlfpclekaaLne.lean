/- CutNear: for every rule, all bytes and every place the law returns true, and its arguments read as before. No condition. -/
import Derived.Test.YtefienlfpclekaaLme
import Derived.Deep.AppendLies
import Derived.Lib.SmallJoins
namespace Go.Proofs.Ytefienlfpclekaa
open Go.RowKit

theorem V_xor (x y : UInt8) : bits .xor .u8 (V x) (V y) = V (x ^^^ y) := by
  unfold V; rw [u8_xor_nat _ _ x.toNat_lt y.toNat_lt, UInt8.toNat_xor]
theorem V_x5a (x : UInt8) : bits .xor .u8 (V x) 90 = V (x ^^^ 0x5a) := V_xor x 0x5a
/-- Ahead of a byte that is another one the pieces are the same. -/
theorem Rl.near (r : Rl) (b c : List UInt8) (k : Nat) (hl : c.length = b.length) (hk : k < b.length) (he : b.take k = c.take k) (i : Nat) (hi : i < (r.sizes b).length) (ht : (r.sizes b).take i = (r.sizes c).take i) (hs : ((r.sizes b).take i).sum + (r.sizes b).getD i 0 ≤ k) :
    i < (r.sizes c).length ∧ (r.sizes c).getD i 0 = (r.sizes b).getD i 0 := by
  obtain ⟨h1, h2⟩ := r.sizes_at b i hi
  rw [h2] at hs ⊢
  have hd := r.sizes_drop c i
  rw [← ht] at hd
  have hcs : ((r.sizes c).take i).sum = ((r.sizes b).take i).sum := by rw [← ht]
  obtain ⟨s, hs0⟩ : ∃ s, s = ((r.sizes b).take i).sum := ⟨_, rfl⟩
  rw [← hs0] at hs h1 hd hcs ⊢
  have hne : c.drop s ≠ [] := by
    intro h
    have := congrArg List.length h
    rw [List.length_drop, List.length_nil] at this
    omega
  have hi2 : i < (r.sizes c).length := by
    have h3 := r.sizes_ne _ hne
    rw [← hd] at h3
    have h4 : 0 < ((r.sizes c).drop i).length := List.length_pos_iff.2 h3
    rw [List.length_drop] at h4
    omega
  refine ⟨hi2, ?_⟩
  obtain ⟨_, h4⟩ := r.sizes_at c i hi2
  have h6 := r.first_pos _ h1
  rw [h4, hcs]
  refine r.first_local (b.drop s) (c.drop s) (by rw [List.length_drop]; omega) ?_ (by rw [List.length_drop]; omega)
  rw [List.take_drop, List.take_drop]
  have e1 : ∀ n, n ≤ k → b.take n = c.take n := fun n hn => by
    have := congrArg (List.take n) he
    rwa [List.take_take, List.take_take, Nat.min_eq_left hn] at this
  rw [e1 _ (by omega)]
theorem Rl.near_behind (r : Rl) (b c : List UInt8) (k : Nat) (he : b.drop (k + 1) = c.drop (k + 1)) (m n : Nat) (h1 : ((r.sizes b).take m).sum = ((r.sizes c).take n).sum) (h2 : k < ((r.sizes b).take m).sum) : (r.sizes b).drop m = (r.sizes c).drop n := by
  rw [r.sizes_drop, r.sizes_drop, ← h1]
  obtain ⟨t, ht⟩ : ∃ t, ((r.sizes b).take m).sum = (k + 1) + t := ⟨((r.sizes b).take m).sum - (k + 1), by omega⟩
  have e : ∀ X : List UInt8, X.drop (k + 1 + t) = (X.drop (k + 1)).drop t := fun X => by rw [List.drop_drop]
  rw [ht, e b, e c, he]
theorem rowIs.other {w : World} {base : Nat} {v : Value} {l : List UInt8} (h : rowIs w base v l) {a : Addr} (ha : a.block < base) (u : Value) : rowIs (w.setCell a u) base v l := ownsRow_setCell_below h ha u
theorem rowIs.form {w : World} {base : Nat} {v : Value} {l : List UInt8} (h : rowIs w base v l) (hl : l ≠ []) : ∃ g c, v = .slice (some ⟨g, 0, none⟩) l.length c ∧ base ≤ g ∧ g < w.heap.size ∧ l.length ≤ c ∧ ∀ j, j < l.length → w.cell? ⟨g, j, none⟩ = some (.int .u8 (V (l.getD j 0))) ∧ w.frozen? ⟨g, j, none⟩ = false := by
  have hp : 0 < l.length := List.length_pos_iff.2 hl
  obtain ⟨g, c, rfl, h1, h2⟩ := World.ownsRow.form h hp
  obtain ⟨a', c', e, h3, h4, _⟩ := rowIs.bytes h
  cases e
  refine ⟨g, c, rfl, h1, h2, h3, fun j hj => ⟨?_, World.ownsRow.frozenAt h j⟩⟩
  rcases h4 with h4 | ⟨bb, bo, e, h5⟩
  · exact absurd h4 hl
  · cases e
    have := h5 j hj
    rwa [Nat.zero_add] at this
theorem rowIs.stored {w : World} {base g c n : Nat} {l : List UInt8} (h : rowIs w base (.slice (some ⟨g, 0, none⟩) n c) l) (j : Nat) (x : UInt8) : rowIs (w.setCell ⟨g, j, none⟩ (.int .u8 (V x))) base (.slice (some ⟨g, 0, none⟩) n c) (l.set j x) := by
  obtain ⟨a', c', e, h3, h4, _⟩ := rowIs.bytes h
  cases e
  have := (World.ownsRow.stored h j (.int .u8 (V x))).1
  unfold rowIs
  rw [List.length_set]
  unfold bvals at this ⊢
  rw [List.map_set]
  exact this
theorem valsIn.cellAt {w : World} {b o : Nat} {S : List Nat} (h : valsIn w (some ⟨b, o, none⟩) (ivals S)) (j : Nat) (hj : j < S.length) : w.cell? ⟨b, o + j, none⟩ = some (.int .i64 ((S.getD j 0 : Nat) : Int)) := by
  obtain ⟨b', o', e, h2⟩ := h.at j (by rw [ivals_length]; exact hj)
  cases e
  rw [h2]
  simp [ivals, hj]
theorem size_ad (w : World) (o : Obj) : w.heap.size ≤ (w.alloc o).drew.heap.size := by
  show w.heap.size ≤ (w.alloc o).heap.size
  simp
theorem size_a (w : World) (o : Obj) : w.heap.size ≤ (w.alloc o).heap.size := by simp
attribute [local go_sem] V_x5a
set_option maxRecDepth 100000 in
set_option maxHeartbeats 4000000 in
theorem law_cutNear (la ma ba : Int) (po : W) (a1 : Option Addr) (n1 : Nat) (L1 : List UInt8) (at_ : Int) (w : World) (h1 : (Lit.int .i64 la).wf = true) (h2 : (Lit.int .i64 ma).wf = true) (h3 : (Lit.int .i64 ba).wf = true) (hl1 : L1.length ≤ n1) (hin1 : bytesIn w a1 L1) (hz1 : a1 = none → n1 = 0) (hat : (Lit.int .i64 at_).wf = true) :
    Calls Try.prog 9 #[.agg #[.int .i64 la, .int .i64 ma, .int .i64 ba, .int .u64 (U po)], .slice a1 L1.length n1, .int .i64 at_] w fun e w' => e = .returned (.bool true) ∧ Below w.heap.size w w' := by
  have I0 := Lib.hid (hin1.take 2500)
  have Z1 := Lib.hid hz1
  clear hin1 hz1
  have B0 := Lib.hid (blockIs.new w (ruleCells la ma ba po) 24)
  have H0 := Lib.hid ((Below.refl w.heap.size w).alloc (Nat.le_refl _) (.cells (ruleCells la ma ba po).toArray 24 (0, 0)))
  have hsz : (w.alloc (.cells (ruleCells la ma ba po).toArray 24 (0, 0))).heap.size = w.heap.size + 1 := by simp
  unfold ruleCells at H0 hsz
  go_enter Try.func9, Try.ntmps9
  go_upto_region 1 with fail
  have B0 : Hid (blockIs (w.alloc (.cells #[Value.int .i64 la, .int .i64 ma, .int .i64 ba, .int .u64 (U po)] 24 (0, 0))) w.heap.size (ruleCells la ma ba po) 24) := B0
  have HSZ := Lib.hid hsz
  clear hsz
  generalize w.alloc (.cells #[Value.int .i64 la, .int .i64 ma, .int .i64 ba, .int .u64 (U po)] 24 (0, 0)) = w0 at *
  have I1 := Lib.hid (I0.out.below H0.out (Nat.le_refl _))
  have c0 : w0.cell? ⟨w.heap.size, 0, none⟩ = some (.int .i64 la) := B0.out.cell 0
  have c1 : w0.cell? ⟨w.heap.size, 1, none⟩ = some (.int .i64 ma) := B0.out.cell 1
  have c2 : w0.cell? ⟨w.heap.size, 2, none⟩ = some (.int .i64 ba) := B0.out.cell 2
  have c3 : w0.cell? ⟨w.heap.size, 3, none⟩ = some (.int .u64 (U po)) := B0.out.cell 3
  have BA := Lib.hid (B0.out.alloc (.cells #[] 5 (0, 0)))
  have d0 : (w0.alloc (.cells #[] 5 (0, 0))).cell? ⟨w.heap.size, 0, none⟩ = some (.int .i64 la) := BA.out.cell 0
  have d1 : (w0.alloc (.cells #[] 5 (0, 0))).cell? ⟨w.heap.size, 1, none⟩ = some (.int .i64 ma) := BA.out.cell 1
  have d2 : (w0.alloc (.cells #[] 5 (0, 0))).cell? ⟨w.heap.size, 2, none⟩ = some (.int .i64 ba) := BA.out.cell 2
  have d3 : (w0.alloc (.cells #[] 5 (0, 0))).cell? ⟨w.heap.size, 3, none⟩ = some (.int .u64 (U po)) := BA.out.cell 3
  have K := Lib.hid (Below.refl w0.heap.size w0)
  have ML := Lib.hid (Below.refl w0.heap.size w0).drew
  go_cut [1] (fun s1 wx => ∃ r : Rl, r.ok ∧ Hid (rowIs wx w0.heap.size s1 (L1.take 2500)) ∧ Hid (blockIs wx w.heap.size (ruleCells (r.least : Int) (r.most : Int) (r.bits : Int) r.poly) 24) ∧ Hid (Below w.heap.size w wx) ∧ Hid (w0.heap.size ≤ wx.heap.size))
  case first =>
    go_region_law
      (first
      | (go_simp; go_at_call 10
         with_reducible refine (bytes_any a1 _ _ _ hl1).mono ?_
         rintro e wq ⟨rfl, rfl⟩)
      | (go_simp; go_at_call 18
         with_reducible refine (tame_any la ma ba po _ h1 h2 h3).mono ?_
         rintro e wt ⟨r, hr, rfl, hbt⟩
         have ML : Hid (Below w0.heap.size w0 wt) := Lib.hid (by first | exact ML.out.trans (hbt.mono ML.out.size) | exact ((K.out.alloc K.out.size _).drew).trans (hbt.mono (by first | exact Nat.le_trans K.out.size (size_ad _ _) | exact Nat.le_trans K.out.size (size_a _ _))))
         try have R1 := Lib.hid (R1.out.below hbt (Nat.le_refl _))
         try have R0 : Hid (rowIs wt w0.heap.size (.slice (some ⟨w0.heap.size, 0, none⟩) 0 0) []) := Lib.hid (rowIs.below (w := (w0.alloc (.cells #[] 5 (0, 0))).drew) (rowIs.empty w0 w0.heap.size (Nat.le_refl _)) hbt (Nat.le_refl _))
         have BL := Lib.hid (B0.out.below ML.out B0.out.lt)
         have c0 : wt.cell? ⟨w.heap.size, 0, none⟩ = some (.int .i64 la) := BL.out.cell 0
         have c1 : wt.cell? ⟨w.heap.size, 1, none⟩ = some (.int .i64 ma) := BL.out.cell 1
         have c2 : wt.cell? ⟨w.heap.size, 2, none⟩ = some (.int .i64 ba) := BL.out.cell 2
         have c3 : wt.cell? ⟨w.heap.size, 3, none⟩ = some (.int .u64 (U po)) := BL.out.cell 3
         have f0 := BL.out.free 0
         have f1 := BL.out.free 1
         have f2 := BL.out.free 2
         have f3 := BL.out.free 3
         clear hbt)
      | (refine step_append_bytes rfl _ _ rfl w0.heap.size _ [] rfl ?_ a1 _ n1 (L1.take 2500) ?_ rfl Z1.out ?_ ?_ ?_ ?_
         · first | exact R0.out | exact rowIs.empty _ _ ML.out.size | exact rowIs.empty _ _ K.out.size
         · rw [List.length_take]; omega
         · first | exact I1.out.below ML.out (Nat.le_refl _) | exact I1.out.below (ML.out.alloc ML.out.size _) (Nat.le_refl _) | exact I1.out.below ((K.out.alloc K.out.size _).drew) (Nat.le_refl _)
         · simp; omega
         · first | exact ML.out.size | exact Nat.le_trans ML.out.size (size_a _ _) | exact Nat.le_trans ML.out.size (size_ad _ _) | exact Nat.le_trans K.out.size (size_ad _ _)
         intro v1 wa hown hgr
         have ML : Hid (Below w0.heap.size w0 wa) := Lib.hid (by first
           | exact ML.out.trans (R0.out.grew ML.out.size hgr)
           | exact (ML.out.alloc ML.out.size _).trans ((rowIs.empty _ _ ML.out.size).grew (by first | exact Nat.le_trans ML.out.size (size_a _ _) | exact Nat.le_trans ML.out.size (size_ad _ _)) hgr)
           | exact (K.out.alloc K.out.size _).trans ((rowIs.empty _ _ K.out.size).grew (by first | exact Nat.le_trans K.out.size (size_ad _ _) | exact Nat.le_trans K.out.size (size_a _ _)) hgr))
         have R1 := Lib.hid hown
         have BL := Lib.hid (B0.out.below ML.out B0.out.lt)
         have c0 : wa.cell? ⟨w.heap.size, 0, none⟩ = some (.int .i64 la) := BL.out.cell 0
         have c1 : wa.cell? ⟨w.heap.size, 1, none⟩ = some (.int .i64 ma) := BL.out.cell 1
         have c2 : wa.cell? ⟨w.heap.size, 2, none⟩ = some (.int .i64 ba) := BL.out.cell 2
         have c3 : wa.cell? ⟨w.heap.size, 3, none⟩ = some (.int .u64 (U po)) := BL.out.cell 3
         have f0 := BL.out.free 0
         have f1 := BL.out.free 1
         have f2 := BL.out.free 2
         have f3 := BL.out.free 3
         clear hown hgr))
    all_goals
      go_wp2_with fail
      go_meet
      case rel =>
        have hlt : w.heap.size < w0.heap.size := by have := HSZ.out; omega
        refine ⟨r, hr, Lib.hid ((((R1.out.other hlt _).other hlt _).other hlt _).other hlt _), Lib.hid ((((BL.out.set 0 (.int .i64 (r.least : Int))).set 1 (.int .i64 (r.most : Int))).set 2 (.int .i64 (r.bits : Int))).set 3 (.int .u64 (U r.poly))), Lib.hid ?_, Lib.hid ?_⟩
        · exact ((((H0.out.trans (ML.out.mono H0.out.size)).setCell (Nat.le_refl _) _).setCell (Nat.le_refl _) _).setCell (Nat.le_refl _) _).setCell (Nat.le_refl _) _
        · have := ML.out.size
          simpa [World.setCell] using this
  obtain ⟨r, hr, R2, B2, H2, Z2⟩ := hcut
  clear c0 c1 c2 c3 d0 d1 d2 d3 BA K ML I1 B0 I0
  have HSZ2 : Hid (w.heap.size < w0.heap.size) := Lib.hid (by have := HSZ.out; omega)
  have e5 : (L1.take 2500).length ≤ 2500 := by rw [List.length_take]; omega
  generalize L1.take 2500 = l at *
  by_cases hl0 : l = []
  · subst hl0
    obtain ⟨ba, bc, rfl, -, -, -⟩ := rowIs.bytes R2.out
    go_wp2_with fail
    with_reducible refine (cuts_any _).mono ?_
    rintro e w3 ⟨rfl, hb⟩
    have H3 := Lib.hid (H2.out.trans (hb.mono H2.out.size))
    clear hb
    go_wp2_with fail
    go_ret
    exact ⟨rfl, H3.out⟩
  obtain ⟨g, bc, rfl, hg1, hg2, hbc, -⟩ := rowIs.form R2.out hl0
  have GG : Hid (w0.heap.size ≤ g ∧ g < wc.heap.size) := Lib.hid ⟨hg1, hg2⟩
  clear hg1 hg2
  have hpos : 0 < l.length := List.length_pos_iff.2 hl0
  have hposI : (0 : Int) < (l.length : Int) := by omega
  have t0 : ((l.length : Int) == 0) = false := by simp; omega
  have t0n : (l.length == 0) = false := by simp; exact hl0
  have c0 : wc.cell? ⟨w.heap.size, 0, none⟩ = some (.int .i64 (r.least : Int)) := B2.out.cell 0
  have c1 : wc.cell? ⟨w.heap.size, 1, none⟩ = some (.int .i64 (r.most : Int)) := B2.out.cell 1
  have c2 : wc.cell? ⟨w.heap.size, 2, none⟩ = some (.int .i64 (r.bits : Int)) := B2.out.cell 2
  have c3 : wc.cell? ⟨w.heap.size, 3, none⟩ = some (.int .u64 (U r.poly)) := B2.out.cell 3
  go_wp2_with fail
  with_reducible refine (to_any _ _ _ _ _).mono ?_
  rintro e w4 ⟨rfl, hb⟩
  have H4 := Lib.hid (H2.out.trans (hb.mono H2.out.size))
  have B4 := Lib.hid (B2.out.below hb B2.out.lt)
  have R4 := Lib.hid (rowIs.below R2.out hb (Nat.le_refl _))
  have G4 : Hid (g < w4.heap.size) := Lib.hid (Nat.lt_of_lt_of_le GG.out.2 hb.size)
  clear hb c0 c1 c2 c3 B2 H2 R2
  go_wp2_with fail
  have PS : Hid (bytesIn w4 (some ⟨g, 0, none⟩) l) := Lib.hid (by
    obtain ⟨a', c', e, h3, h4, _⟩ := rowIs.bytes R4.out
    cases e
    exact h4)
  with_reducible refine (sizes_any r hr (some ⟨g, 0, none⟩) l bc w4 hbc (by omega) PS.out).mono ?_
  rintro e w5 ⟨v, rfl, hrow, hb⟩
  have H5 := Lib.hid (H4.out.trans (hb.mono H4.out.size))
  have B5 := Lib.hid (B4.out.below hb B4.out.lt)
  have R5 := Lib.hid (rowIs.below R4.out hb (Nat.le_refl _))
  have hrow2 := Lib.hid hrow
  obtain ⟨xa, xc, rfl, xl, -, -⟩ := hrow.vals
  rw [ivals_length] at xl ⊢
  have G5 : Hid (g < w5.heap.size) := Lib.hid (Nat.lt_of_lt_of_le G4.out hb.size)
  clear hb hrow B4 H4 R4 PS
  obtain ⟨k, hk, hk1⟩ : ∃ k : Nat, wrap64 ((IntKind.u64.wrap at_).tmod (l.length : Int)) = (k : Int) ∧ k < l.length := by
    have h2 : 0 ≤ IntKind.u64.wrap at_ := by rw [IntKind.wrap_u64]; omega
    rw [Int.tmod_eq_emod_of_nonneg h2]
    have h3 : 0 ≤ IntKind.u64.wrap at_ % (l.length : Int) ∧ IntKind.u64.wrap at_ % (l.length : Int) < (l.length : Int) := ⟨Int.emod_nonneg _ (by omega), Int.emod_lt_of_pos _ hposI⟩
    generalize IntKind.u64.wrap at_ % (l.length : Int) = y at *
    exact ⟨y.toNat, by unfold wrap64; omega, by omega⟩
  have hk0 : 0 ≤ (k : Int) := by omega
  have hk2 : (k : Int) < (l.length : Int) := by omega
  obtain ⟨g', bc', e', -, -, -, hcell⟩ := rowIs.form R5.out hl0
  cases e'
  obtain ⟨d1, f1⟩ := hcell k hk1
  clear hcell
  have HB : Hid (∀ y : UInt8, (l.set k y).length = l.length ∧ l.take k = (l.set k y).take k ∧ l.drop (k + 1) = (l.set k y).drop (k + 1)) := Lib.hid (fun y => ⟨List.length_set, (List.take_set_of_le (Nat.le_refl k)).symm, (List.drop_set_of_lt (by omega)).symm⟩)
  generalize l.getD k 0 = x0 at *
  have HGW : Hid (w.heap.size ≠ g) := Lib.hid (by have := HSZ2.out; have := GG.out.1; omega)
  have HGL : Hid (w.heap.size ≤ g) := Lib.hid (by have := HSZ2.out; have := GG.out.1; omega)
  go_upto_region 7 with fail
  have H6 := Lib.hid (H5.out.setCell (p := ⟨g, k, none⟩) HGL.out (.int .u8 (V (x0 ^^^ 0x5a))))
  have B6 := Lib.hid (B5.out.other ⟨g, k, none⟩ (.int .u8 (V (x0 ^^^ 0x5a))) HGW.out)
  have R6 := Lib.hid (rowIs.stored R5.out k (x0 ^^^ 0x5a))
  have X6 : Hid (rowV (w5.setCell ⟨g, k, none⟩ (.int .u8 (V (x0 ^^^ 0x5a)))) w4.heap.size 3 (.slice xa (r.sizes l).length xc) (ivals (r.sizes l))) := Lib.hid (ownsRow_setCell_below (by have := hrow2.out; rw [ivals_length] at this; exact this) G4.out _)
  clear H5 B5 R5 hrow2 d1 f1
  generalize w5.setCell ⟨g, k, none⟩ (.int .u8 (V (x0 ^^^ 0x5a))) = w6 at *
  have V6 := Lib.hid X6.out.of.2.2.1
  clear X6
  have HB2 := Lib.hid (HB.out (x0 ^^^ 0x5a))
  clear HB
  generalize l.set k (x0 ^^^ 0x5a) = m at *
  have c0 : w6.cell? ⟨w.heap.size, 0, none⟩ = some (.int .i64 (r.least : Int)) := B6.out.cell 0
  have c1 : w6.cell? ⟨w.heap.size, 1, none⟩ = some (.int .i64 (r.most : Int)) := B6.out.cell 1
  have c2 : w6.cell? ⟨w.heap.size, 2, none⟩ = some (.int .i64 (r.bits : Int)) := B6.out.cell 2
  have c3 : w6.cell? ⟨w.heap.size, 3, none⟩ = some (.int .u64 (U r.poly)) := B6.out.cell 3
  go_wp2_with fail
  with_reducible refine (to_any _ _ _ _ _).mono ?_
  rintro e w7 ⟨rfl, hb⟩
  have H7 := Lib.hid (H6.out.trans (hb.mono H6.out.size))
  have R7 := Lib.hid (rowIs.below R6.out hb (Nat.le_refl _))
  have V7 := Lib.hid (V6.out.below hb (Nat.le_refl _))
  clear hb c0 c1 c2 c3 B6 H6 R6 V6
  go_wp2_with fail
  have PS : Hid (bytesIn w7 (some ⟨g, 0, none⟩) m) := Lib.hid (by
    obtain ⟨a', c', e, h3, h4, _⟩ := rowIs.bytes R7.out
    simp only [Value.slice.injEq] at e
    obtain ⟨rfl, -, -⟩ := e
    exact h4)
  have P := sizes_any r hr (some ⟨g, 0, none⟩) m bc w7 (by rw [HB2.out.1]; exact hbc) (by rw [HB2.out.1]; omega) PS.out
  rw [HB2.out.1] at P
  with_reducible refine P.mono ?_
  clear P
  rintro e w8 ⟨v, rfl, hrow, hb⟩
  have H8 := Lib.hid (H7.out.trans (hb.mono H7.out.size))
  have V8 := Lib.hid (V7.out.below hb (Nat.le_refl _))
  obtain ⟨ya, yc, rfl, yl, hv, -⟩ := hrow.vals
  have Y8 := Lib.hid hv
  rw [ivals_length] at yl ⊢
  clear hb hrow hv H7 R7 V7 PS
  go_wp2_with fail
  with_reducible refine (cuts_any _).mono ?_
  rintro e w9 ⟨rfl, hb⟩
  have H9 := Lib.hid (H8.out.trans (hb.mono H8.out.size))
  have X9 := Lib.hid (V8.out.below hb (Nat.le_refl _))
  have Y9 := Lib.hid (Y8.out.below hb (Nat.le_refl _))
  clear hb H8 V8 Y8
  have HN := Lib.hid (r.near l m k HB2.out.1 hk1 HB2.out.2.1)
  have HM := Lib.hid (r.near_behind l m k HB2.out.2.2)
  have HLX : Hid ((r.sizes l).sum ≤ 2500 ∧ (r.sizes l).length ≤ 2500) := Lib.hid (by have := r.sizes_sum l; have := r.sizes_len l; omega)
  have HLY : Hid ((r.sizes m).sum ≤ 2500 ∧ (r.sizes m).length ≤ 2500) := Lib.hid (by have := r.sizes_sum m; have := r.sizes_len m; have := HB2.out.1; omega)
  have X0 : 0 < (r.sizes l).length := List.length_pos_iff.2 (r.sizes_ne l hl0)
  have Y0 : 0 < (r.sizes m).length := List.length_pos_iff.2 (r.sizes_ne m (by intro h; have := HB2.out.1; rw [h] at this; simp at this; omega))
  generalize r.sizes l = X at *
  generalize r.sizes m = Y at *
  clear hk
  obtain ⟨b1, o1, rfl, -⟩ := X9.out.at 0 (by rw [ivals_length]; exact X0)
  obtain ⟨b2, o2, rfl, -⟩ := Y9.out.at 0 (by rw [ivals_length]; exact Y0)
  have xl5 : (X.length : Int) ≤ 2500 := by have := HLX.out.2; omega
  have yl5 : (Y.length : Int) ≤ 2500 := by have := HLY.out.2; omega
  go_wp2_with fail
  go_loopw [12, 13] (fun u1 u2 wr => ∃ i : Nat, i ≤ X.length ∧ u1 = .int .i64 (i : Int) ∧ u2 = .int .i64 ((X.take i).sum : Int) ∧ Hid (X.take i = Y.take i) ∧ Hid (Below w9.heap.size w9 wr)) (fun u1 _ _ => X.length - (intOf u1).toNat)
  case atStart => exact ⟨0, Nat.zero_le _, rfl, rfl, Lib.hid rfl, Lib.hid (Below.refl _ _)⟩
  case round =>
    obtain ⟨i, hi, rfl, rfl, E1, K1⟩ := hrel
    have p0 : 0 ≤ (i : Int) := by omega
    have HIY : Hid (i ≤ Y.length) := Lib.hid (by
      have := congrArg List.length E1.out
      rw [List.length_take, List.length_take] at this
      omega)
    have HSE : Hid ((X.take i).sum = (Y.take i).sum) := Lib.hid (by rw [E1.out])
    by_cases hgo : i < X.length ∧ (X.take i).sum + X.getD i 0 ≤ k
    · obtain ⟨hlt, hle⟩ := hgo
      obtain ⟨hyl, hye⟩ := HN.out i hlt E1.out hle
      have q0 : (i : Int) < (X.length : Int) := by omega
      have q1 : (i : Int) < (Y.length : Int) := by omega
      have T1 := Lib.hid (sum_take X i hlt)
      have T2 : Hid (X.take (i + 1) = Y.take (i + 1)) := Lib.hid (by
        rw [List.take_succ_eq_append_getElem hlt, List.take_succ_eq_append_getElem hyl, E1.out]
        have e1 : X[i] = X.getD i 0 := by simp [hlt]
        have e2 : Y[i] = Y.getD i 0 := by simp [hyl]
        rw [e1, e2, hye])
      have d1 := (X9.out.below K1.out (Nat.le_refl _)).cellAt i hlt
      have d2 := (Y9.out.below K1.out (Nat.le_refl _)).cellAt i hyl
      rw [hye] at d2
      clear hye
      generalize hp : (X.take i).sum = p at *
      have HP := Lib.hid hp
      clear hp
      generalize X.getD i 0 = x at *
      have t1 : decide (Y.length ≤ i) = false := by simp; omega
      have t2 : decide ((p : Int) + (x : Int) ≤ (k : Int)) = true := by simp; omega
      have pk : (p : Int) + (x : Int) ≤ (k : Int) := by omega
      have k5 : (k : Int) < 2500 := by omega
      go_wp2_with fail
      all_goals first
        | (exfalso; omega)
        | (go_quiet (fail)
           go_wp2_with fail
           go_roundw
           case rel => exact ⟨i + 1, by omega, by go_num, by rw [T1.out]; go_num, T2, Lib.hid (below_drewN K1.out _)⟩
           case measure => simp [intOf]; omega)
    · by_cases hlt : i < X.length
      · have hnle : ¬ (X.take i).sum + X.getD i 0 ≤ k := fun h => hgo ⟨hlt, h⟩
        have q0 : (i : Int) < (X.length : Int) := by omega
        have d1 := (X9.out.below K1.out (Nat.le_refl _)).cellAt i hlt
        have T1 := sum_take X i hlt
        have T3 := sum_le X (i + 1)
        have T4 := HLX.out.1
        rw [T1] at T3
        have px : ((X.take i).sum : Int) + (X.getD i 0 : Int) ≤ 2500 := by omega
        clear T1 T3 T4 hgo
        generalize X.getD i 0 = x at *
        have pk : ¬ ((X.take i).sum : Int) + (x : Int) ≤ (k : Int) := by omega
        have pk2 : ((X.take i).sum : Int) ≤ 2500 := by omega
        go_wp2_with fail
        all_goals first
          | (exfalso; omega)
          | skip
        go_loopw [14, 15, 16, 17] (fun u1 u2 u3 u4 ws => ∃ mi ni : Nat, mi ≤ X.length ∧ ni ≤ Y.length ∧ u1 = .int .i64 (mi : Int) ∧ u2 = .int .i64 (ni : Int) ∧ u3 = .int .i64 ((X.take mi).sum : Int) ∧ u4 = .int .i64 ((Y.take ni).sum : Int) ∧ Hid (Below w9.heap.size w9 ws)) (fun u1 u2 _ _ _ => (X.length - (intOf u1).toNat) + (Y.length - (intOf u2).toNat))
        case atStart => exact ⟨i, i, hi, HIY.out, rfl, rfl, rfl, by rw [HSE.out], K1⟩
        case round =>
          obtain ⟨mi, ni, hmi, hni, rfl, rfl, rfl, rfl, K2⟩ := hrel
          have p1 : 0 ≤ (mi : Int) := by omega
          have p2 : 0 ≤ (ni : Int) := by omega
          by_cases hlt : mi < X.length ∧ ni < Y.length
          · obtain ⟨hi2, hk2⟩ := hlt
            have q0 : (mi : Int) < (X.length : Int) := by omega
            have q1 : (ni : Int) < (Y.length : Int) := by omega
            have HTS := Lib.hid (sum_take X mi hi2)
            have HTT := Lib.hid (sum_take Y ni hk2)
            have s1 := sum_le X (mi + 1)
            have s2 := sum_le Y (ni + 1)
            rw [HTS.out] at s1
            rw [HTT.out] at s2
            have s3 : (X.take mi).sum + X.getD mi 0 ≤ 2500 := Nat.le_trans s1 HLX.out.1
            have s4 : (Y.take ni).sum + Y.getD ni 0 ≤ 2500 := Nat.le_trans s2 HLY.out.1
            clear s1 s2
            have HMM : Hid ((X.take mi).sum = (Y.take ni).sum → k < (X.take mi).sum → X.drop mi = Y.drop ni) := Lib.hid (HM.out mi ni)
            have d1 := (X9.out.below K2.out (Nat.le_refl _)).cellAt mi hi2
            have d2 := (Y9.out.below K2.out (Nat.le_refl _)).cellAt ni hk2
            have cs : ¬ xc = mi := by omega
            have ct : ¬ yc = ni := by omega
            have is1 : (mi : Int) ≤ (xc : Int) := by omega
            have is2 : (ni : Int) ≤ (yc : Int) := by omega
            have PI : Hid (∀ w', Below wr.heap.size wr w' → Calls Try.prog 21 #[.slice (some ⟨b1, o1 + mi, none⟩) (X.length - mi) (xc - mi), .slice (some ⟨b2, o2 + ni, none⟩) (Y.length - ni) (yc - ni)] w' fun e w'' => e = .returned (.bool (decide (X.drop mi = Y.drop ni))) ∧ Below w'.heap.size w' w'') := Lib.hid (fun w' hb => by
              have P := ints_any (some ⟨b1, o1 + mi, none⟩) (xc - mi) (X.drop mi) (some ⟨b2, o2 + ni, none⟩) (yc - ni) (Y.drop ni) w' (by
                  have := ((X9.out.below K2.out (Nat.le_refl _)).drop mi).below hb (Nat.le_refl _)
                  rw [show Option.map (fun x : Addr => x.add mi) (some ⟨b1, o1, none⟩) = some ⟨b1, o1 + mi, none⟩ by show some (Addr.add _ mi) = _; rw [Addr.add_lit]] at this
                  rw [show (ivals X).drop mi = ivals (X.drop mi) by simp [ivals]] at this
                  exact this) (by
                  have := ((Y9.out.below K2.out (Nat.le_refl _)).drop ni).below hb (Nat.le_refl _)
                  rw [show Option.map (fun x : Addr => x.add ni) (some ⟨b2, o2, none⟩) = some ⟨b2, o2 + ni, none⟩ by show some (Addr.add _ ni) = _; rw [Addr.add_lit]] at this
                  rw [show (ivals Y).drop ni = ivals (Y.drop ni) by simp [ivals]] at this
                  exact this) (by rw [List.length_drop]; omega)
              rw [List.length_drop, List.length_drop] at P
              exact P)
            generalize hp : (X.take mi).sum = p at *
            generalize hq : (Y.take ni).sum = q at *
            have HP := Lib.hid hp
            have HQ := Lib.hid hq
            clear hp hq
            generalize X.getD mi 0 = x at *
            generalize Y.getD ni 0 = y at *
            by_cases hhit : p = q ∧ k < p
            · obtain ⟨hh1, hh2⟩ := hhit
              have hf : decide (X.drop mi = Y.drop ni) = true := decide_eq_true (HMM.out hh1 hh2)
              rw [hf] at PI
              subst hh1
              have t1 : decide ((k : Int) < (p : Int)) = true := by simp; omega
              have t2 : decide (k < p) = true := by simp; omega
              go_wp2_with fail
              go_region_held3 (fun _ => True) (trivial)
                (first
                | (go_at_call 21
                   with_reducible refine (PI.out _ (Below.refl _ _).drew).mono ?_
                   rintro e w14 ⟨rfl, hb14⟩))
              all_goals
                go_wp2_with fail
                go_ret
                exact ⟨rfl, H9.out.trans ((K2.out.trans (((Below.refl wr.heap.size wr).drew.trans hb14).mono K2.out.size)).mono H9.out.size)⟩
            · have hh : ¬ (p = q ∧ k < p) := hhit
              go_wp2_with fail
              all_goals first
                | (exfalso; simp at *; omega)
                | (go_roundw
                   case rel =>
                     first
                     | exact ⟨mi + 1, ni, by omega, by omega, by go_num, rfl, by rw [HTS.out]; go_num, by rw [HQ.out], K2⟩
                     | exact ⟨mi, ni + 1, by omega, by omega, rfl, by go_num, by rw [HP.out], by rw [HTT.out]; go_num, K2⟩
                   case measure => simp [intOf]; omega)
          · go_wp2_with fail
            all_goals
              go_ret
              exact ⟨rfl, H9.out.trans (K2.out.mono H9.out.size)⟩
      · go_wp2_with fail
        go_loopw [14, 15, 16, 17] (fun u1 u2 u3 u4 ws => ∃ mi ni : Nat, mi ≤ X.length ∧ ni ≤ Y.length ∧ u1 = .int .i64 (mi : Int) ∧ u2 = .int .i64 (ni : Int) ∧ u3 = .int .i64 ((X.take mi).sum : Int) ∧ u4 = .int .i64 ((Y.take ni).sum : Int) ∧ Hid (Below w9.heap.size w9 ws)) (fun u1 u2 _ _ _ => (X.length - (intOf u1).toNat) + (Y.length - (intOf u2).toNat))
        case atStart => exact ⟨i, i, hi, HIY.out, rfl, rfl, rfl, by rw [HSE.out], K1⟩
        case round =>
          obtain ⟨mi, ni, hmi, hni, rfl, rfl, rfl, rfl, K2⟩ := hrel
          have p1 : 0 ≤ (mi : Int) := by omega
          have p2 : 0 ≤ (ni : Int) := by omega
          by_cases hlt : mi < X.length ∧ ni < Y.length
          · obtain ⟨hi2, hk2⟩ := hlt
            have q0 : (mi : Int) < (X.length : Int) := by omega
            have q1 : (ni : Int) < (Y.length : Int) := by omega
            have HTS := Lib.hid (sum_take X mi hi2)
            have HTT := Lib.hid (sum_take Y ni hk2)
            have s1 := sum_le X (mi + 1)
            have s2 := sum_le Y (ni + 1)
            rw [HTS.out] at s1
            rw [HTT.out] at s2
            have s3 : (X.take mi).sum + X.getD mi 0 ≤ 2500 := Nat.le_trans s1 HLX.out.1
            have s4 : (Y.take ni).sum + Y.getD ni 0 ≤ 2500 := Nat.le_trans s2 HLY.out.1
            clear s1 s2
            have HMM : Hid ((X.take mi).sum = (Y.take ni).sum → k < (X.take mi).sum → X.drop mi = Y.drop ni) := Lib.hid (HM.out mi ni)
            have d1 := (X9.out.below K2.out (Nat.le_refl _)).cellAt mi hi2
            have d2 := (Y9.out.below K2.out (Nat.le_refl _)).cellAt ni hk2
            have cs : ¬ xc = mi := by omega
            have ct : ¬ yc = ni := by omega
            have is1 : (mi : Int) ≤ (xc : Int) := by omega
            have is2 : (ni : Int) ≤ (yc : Int) := by omega
            have PI : Hid (∀ w', Below wr.heap.size wr w' → Calls Try.prog 21 #[.slice (some ⟨b1, o1 + mi, none⟩) (X.length - mi) (xc - mi), .slice (some ⟨b2, o2 + ni, none⟩) (Y.length - ni) (yc - ni)] w' fun e w'' => e = .returned (.bool (decide (X.drop mi = Y.drop ni))) ∧ Below w'.heap.size w' w'') := Lib.hid (fun w' hb => by
              have P := ints_any (some ⟨b1, o1 + mi, none⟩) (xc - mi) (X.drop mi) (some ⟨b2, o2 + ni, none⟩) (yc - ni) (Y.drop ni) w' (by
                  have := ((X9.out.below K2.out (Nat.le_refl _)).drop mi).below hb (Nat.le_refl _)
                  rw [show Option.map (fun x : Addr => x.add mi) (some ⟨b1, o1, none⟩) = some ⟨b1, o1 + mi, none⟩ by show some (Addr.add _ mi) = _; rw [Addr.add_lit]] at this
                  rw [show (ivals X).drop mi = ivals (X.drop mi) by simp [ivals]] at this
                  exact this) (by
                  have := ((Y9.out.below K2.out (Nat.le_refl _)).drop ni).below hb (Nat.le_refl _)
                  rw [show Option.map (fun x : Addr => x.add ni) (some ⟨b2, o2, none⟩) = some ⟨b2, o2 + ni, none⟩ by show some (Addr.add _ ni) = _; rw [Addr.add_lit]] at this
                  rw [show (ivals Y).drop ni = ivals (Y.drop ni) by simp [ivals]] at this
                  exact this) (by rw [List.length_drop]; omega)
              rw [List.length_drop, List.length_drop] at P
              exact P)
            generalize hp : (X.take mi).sum = p at *
            generalize hq : (Y.take ni).sum = q at *
            have HP := Lib.hid hp
            have HQ := Lib.hid hq
            clear hp hq
            generalize X.getD mi 0 = x at *
            generalize Y.getD ni 0 = y at *
            by_cases hhit : p = q ∧ k < p
            · obtain ⟨hh1, hh2⟩ := hhit
              have hf : decide (X.drop mi = Y.drop ni) = true := decide_eq_true (HMM.out hh1 hh2)
              rw [hf] at PI
              subst hh1
              have t1 : decide ((k : Int) < (p : Int)) = true := by simp; omega
              have t2 : decide (k < p) = true := by simp; omega
              go_wp2_with fail
              go_region_held3 (fun _ => True) (trivial)
                (first
                | (go_at_call 21
                   with_reducible refine (PI.out _ (Below.refl _ _).drew).mono ?_
                   rintro e w14 ⟨rfl, hb14⟩))
              all_goals
                go_wp2_with fail
                go_ret
                exact ⟨rfl, H9.out.trans ((K2.out.trans (((Below.refl wr.heap.size wr).drew.trans hb14).mono K2.out.size)).mono H9.out.size)⟩
            · have hh : ¬ (p = q ∧ k < p) := hhit
              go_wp2_with fail
              all_goals first
                | (exfalso; simp at *; omega)
                | (go_roundw
                   case rel =>
                     first
                     | exact ⟨mi + 1, ni, by omega, by omega, by go_num, rfl, by rw [HTS.out]; go_num, by rw [HQ.out], K2⟩
                     | exact ⟨mi, ni + 1, by omega, by omega, rfl, by go_num, by rw [HP.out], by rw [HTT.out]; go_num, K2⟩
                   case measure => simp [intOf]; omega)
          · go_wp2_with fail
            all_goals
              go_ret
              exact ⟨rfl, H9.out.trans (K2.out.mono H9.out.size)⟩

namespace cutNear
open Go.ChangeShapes Go.WideShapes Go.ChangeAt Go.RowKit Go.Joins Go.Deep
set_option maxRecDepth 100000 in
theorem lifted (os : Os) (started : os.Started) (H : Type) (enc : TypeId × Value → H) :
    ReturnsInHanded {} Try.checked os 9 .any (Rows.cutNearSpec.pre6 enc Try.prog Try.f9 Rows.cutNearRow.domain false) (Rows.cutNearSpec.post enc Try.prog Try.f9 false true false false) := by
  refine returnsInHanded_of_change (C := Try.checked) own started (by kernel_rfl) Try.func9
    (ChangeSpec.witness6 (enc := enc) (C := Try.checked) false ⟨#[], #[.agg #[.int .i64 0, .int .i64 0, .int .i64 0, .int .u64 0], .slice none 0 0, .int .i64 0], []⟩ 8 (by kernel_rfl) (by kernel_rfl) (by kernel_rfl) (by kernel_rfl)) ?_
  intro W base args ds gs before hval0 hW hcnd _
  have hval : ∀ (j : Nat) t v, Try.f9.params[j]? = some t → args[j]? = some v → Value.okWide Try.prog W .any base t v := hval0
  have hW' := hW
  obtain ⟨p, q, hA0, hV, rfl, hfz, hnd⟩ := hW
  have hA : DataW.TrodAll enc Try.prog W 0 (fun _ => true) true Try.f9.params.toList args.toList ds p := hA0
  rw [Try.params9] at hA hval
  obtain ⟨v0, vs0, d0, ds0, p0, q0, hargs, rfl, rfl, h0, r0⟩ := trodAll_cons hA
  obtain ⟨v1, vs1, d1, ds1, p1, q1, rfl, rfl, rfl, h1, r1⟩ := trodAll_cons r0
  obtain ⟨v2, vs2, d2, ds2, p2, q2, rfl, rfl, rfl, h2, r2⟩ := trodAll_cons r1
  obtain ⟨rfl, rfl, rfl⟩ := trodAll_nil r2
  obtain rfl : args = #[v0, v1, v2] := by cases args; simp_all
  obtain ⟨rfl, rfl⟩ := trodVars_none hV
  have h0k := h0
  obtain ⟨u0_0, u1_0, u2_0, u3_0, y0_0, y1_0, y2_0, y3_0, n_0, rfl, hd0, hp0, g0_0, g1_0, g2_0, g3_0⟩ := open_agg4 Try.underlying24 (by kernel_rfl) (by kernel_rfl) (hval 0 24 v0 rfl rfl) h0
  obtain ⟨a0_0, e0_0, _, w0_0⟩ := DataW.trod_int Try.underlying3 g0_0
  obtain rfl : u0_0 = .int .i64 a0_0 := by simpa using e0_0
  obtain ⟨a1_0, e1_0, _, w1_0⟩ := DataW.trod_int Try.underlying3 g1_0
  obtain rfl : u1_0 = .int .i64 a1_0 := by simpa using e1_0
  obtain ⟨a2_0, e2_0, _, w2_0⟩ := DataW.trod_int Try.underlying3 g2_0
  obtain rfl : u2_0 = .int .i64 a2_0 := by simpa using e2_0
  obtain ⟨a3_0, e3_0, _, w3_0⟩ := DataW.trod_int Try.underlying22 g3_0
  obtain rfl : u3_0 = .int .u64 a3_0 := by simpa using e3_0
  obtain ⟨x3_0, rfl⟩ := word_of a3_0 w3_0
  clear hd0 hp0
  obtain ⟨a1, l1, c1, rfl⟩ := okWide_slice Try.underlying25 (hval 1 25 v1 rfl rfl)
  have h1k := h1
  obtain ⟨n1, g1⟩ := h1
  obtain ⟨b1, k1, F1, e1, hF1, hin1, hz1⟩ := open_bytes (v := .slice a1 l1 c1) (by simpa [Value.cells] using g1)
  obtain ⟨a2, rfl, rfl, rfl, w2⟩ := open_int Try.underlying3 (hval 2 3 v2 rfl rfl) h2
  clear hA0 hval0
  simp only [List.append_nil, List.nil_append] at hW'
  have hlt : ∀ x ∈ p0 ++ p1, x.block < W.heap.size := fun x hx => hW'.lt x (by simpa using hx)
  rw [e1]
  refine (law_cutNear a0_0 a1_0 a2_0 x3_0 b1 k1 F1 a2 W w0_0 w1_0 w2_0 hF1 hin1 hz1 w2).mono fun e W' ⟨he, hb⟩ => ?_
  rw [← e1]
  subst he
  refine ⟨_, rfl, [d0, d1, _], [], p0 ++ p1, [], p0 ++ p1, [], by simpa using hW', ?_, ?_, ?_, hb.frame _, fun h => by cases h⟩
  · exact trodAll_cons_mk (shut_bool Try.underlying4 _) trodAll_mk0
  · have := (trodAll_cons_mk (Below.trod laidOut (by kernel_rfl) (of_decide_eq_true (by kernel_rfl)) h0k hb (fun x hx => hlt x (by simp [hx]))) (trodAll_cons_mk (Below.trod laidOut (by kernel_rfl) (of_decide_eq_true (by kernel_rfl)) h1k hb (fun x hx => hlt x (by simp [hx]))) (trodAll_cons_mk (shut_int Try.underlying3 w2) trodAll_mk0)))
    simp only [List.append_nil, List.nil_append] at this
    exact this
  · rfl

theorem proved : Rows.CutNearSaid :=
  OpenClaim.holds_of_wide 9 Try.f9 rfl rfl rfl rfl rfl rfl rfl ⟨rfl, rfl, rfl, rfl, rfl⟩ rfl rfl rfl rfl rfl (by kernel_rfl) Try.func9 (by kernel_rfl)
    (of_decide_eq_true (by kernel_rfl)) (by unfold Func.isWrapper; first | (rw [if_pos (by decide +kernel)]; kernel_rfl) | (rw [if_neg (by decide +kernel)]; exact ⟨rfl, rfl⟩))
    (fun os started H enc _ => lifted os started H enc)
end cutNear
end Go.Proofs.Ytefienlfpclekaa
