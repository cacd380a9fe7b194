/- CutSizes: for every rule and all bytes the law returns true, and its arguments read as before. No condition. -/
import Derived.Test.YtefienlfpclekaaDsz
import Derived.Lib.SmallJoins
import Derived.Deep.DeepCutAuto
namespace Go.Proofs.Ytefienlfpclekaa
open Go.RowKit

/-- What Sizes tells of any rule. -/
def szAns (a b c : Int) (m : W) (l : List UInt8) : List Nat × Int := if okRule a b c m then ((Rl.mk a.toNat b.toNat c.toNat m).sizes l, 0) else ([], 1)
theorem ok_of {a b c : Int} {m : W} (h : okRule a b c m) : ∃ r : Rl, r.ok ∧ a = (r.least : Int) ∧ b = (r.most : Int) ∧ c = (r.bits : Int) ∧ m = r.poly ∧ r = Rl.mk a.toNat b.toNat c.toNat m := by
  unfold okRule at h
  refine ⟨⟨a.toNat, b.toNat, c.toNat, m⟩, ⟨?_, ?_, ?_, ?_, ?_, ?_⟩, ?_, ?_, ?_, rfl, rfl⟩ <;> first | (show _ ≤ _; dsimp only; omega) | (dsimp only; omega) | exact h.2.2.2.2.2
theorem szAns_len (a b c : Int) (m : W) (l : List UInt8) : (szAns a b c m l).1.length ≤ l.length := by
  unfold szAns
  split
  · exact Rl.sizes_len _ _
  · simp
theorem sizes_all (a b c : Int) (m : W) (x : Option Addr) (l : List UInt8) (n : Nat) (w : World) (hlc : l.length ≤ n) (hc : l.length ≤ 500000) (h : bytesIn w x l) :
    Calls Try.prog 19 #[.agg #[.int .i64 a, .int .i64 b, .int .i64 c, .int .u64 (U m)], .slice x l.length n] w fun e w' => ∃ v, e = .returned (.tuple #[v, .int .i64 (szAns a b c m l).2]) ∧ rowV w' w.heap.size 3 v (ivals (szAns a b c m l).1) ∧ Below w.heap.size w w' := by
  by_cases hk : okRule a b c m
  · have e1 : szAns a b c m l = ((Rl.mk a.toNat b.toNat c.toNat m).sizes l, 0) := if_pos hk
    obtain ⟨r, hr, ha, hb, hcc, hm, e⟩ := ok_of hk
    rw [e1, ← e, ha, hb, hcc, hm]
    exact sizes_any r hr x l n w hlc hc h
  · have e1 : szAns a b c m l = ([], 1) := if_neg hk
    rw [e1]
    refine (sizes_bad a b c m x l.length n w hk).mono ?_
    rintro e w' ⟨rfl, hb⟩
    exact ⟨_, rfl, rowV.nil _ _ _, hb⟩
theorem docsizes_all (a b c : Int) (m : W) (x : Option Addr) (l : List UInt8) (n : Nat) (w : World) (hlc : l.length ≤ n) (hc : l.length ≤ 500000) (h : bytesIn w x l) :
    Calls Try.prog 20 #[.agg #[.int .i64 a, .int .i64 b, .int .i64 c, .int .u64 (U m)], .slice x l.length n] w fun e w' => ∃ v, e = .returned (.tuple #[v, .int .i64 (szAns a b c m l).2]) ∧ rowV w' w.heap.size 3 v (ivals (szAns a b c m l).1) ∧ Below w.heap.size w w' := by
  by_cases hk : okRule a b c m
  · have e1 : szAns a b c m l = ((Rl.mk a.toNat b.toNat c.toNat m).sizes l, 0) := if_pos hk
    obtain ⟨r, hr, ha, hb, hcc, hm, e⟩ := ok_of hk
    rw [e1, ← e, ha, hb, hcc, hm]
    exact docsizes_any r hr x l n w hlc hc h
  · have e1 : szAns a b c m l = ([], 1) := if_neg hk
    rw [e1]
    refine (docsizes_bad a b c m x l.length n w hk).mono ?_
    rintro e w' ⟨rfl, hb⟩
    exact ⟨_, rfl, rowV.nil _ _ _, hb⟩
/-- New tells by its error, and by its pointer, whether it is a rule. -/
theorem cutnew_all (a b c : Int) (m : W) (w : World) :
    Calls Try.prog 11 #[.agg #[.int .i64 a, .int .i64 b, .int .i64 c, .int .u64 (U m)]] w fun e w' => (∃ k, e = .returned (.tuple #[.pointer k, .int .i64 (if okRule a b c m then 0 else 1)]) ∧ (k = none ↔ ¬ okRule a b c m)) ∧ Below w.heap.size w w' := by
  by_cases hk : okRule a b c m
  · obtain ⟨r, hr, ha, hb, hcc, hm, e⟩ := ok_of hk
    have := cutnew_any r hr w
    rw [← ha, ← hb, ← hcc, ← hm] at this
    refine this.mono ?_
    rintro e w' ⟨k, g, b', rfl, _, _, _, _, hbe⟩
    exact ⟨⟨_, by rw [if_pos hk], by simp [hk]⟩, hbe⟩
  · refine (cutnew_bad a b c m w hk).mono ?_
    rintro e w' ⟨rfl, hb⟩
    exact ⟨⟨none, by rw [if_neg hk], by simp [hk]⟩, hb⟩
set_option maxRecDepth 100000 in
set_option maxHeartbeats 4000000 in
theorem law_cutSizes (la ma ba : Int) (po : W) (a1 : Option Addr) (n1 : Nat) (L1 : List UInt8) (w : World) (h1 : (Lit.int .i64 la).wf = true) (h2 : (Lit.int .i64 ma).wf = true) (h3 : (Lit.int .i64 ba).wf = true) (hl1 : L1.length ≤ n1) (hin1 : bytesIn w a1 L1) (hz1 : a1 = none → n1 = 0) :
    Calls Try.prog 3 #[.agg #[.int .i64 la, .int .i64 ma, .int .i64 ba, .int .u64 (U po)], .slice a1 L1.length n1] w fun e w' => e = .returned (.bool true) ∧ Below w.heap.size w w' := by
  have I1 := Lib.hid (hin1.take 2500)
  clear hin1 hz1
  have B0 := Lib.hid (blockIs.new w (ruleCells la ma ba po) 24)
  have H0 := Lib.hid ((Below.refl w.heap.size w).alloc (Nat.le_refl _) (.cells (ruleCells la ma ba po).toArray 24 (0, 0)))
  unfold ruleCells at H0
  go_enter Try.func3, Try.ntmps3
  go_wp2_with fail
  with_reducible refine (bytes_any a1 _ _ _ hl1).mono ?_
  rintro e wq ⟨rfl, rfl⟩
  have B0 : Hid (blockIs (w.alloc (.cells #[Value.int .i64 la, .int .i64 ma, .int .i64 ba, .int .u64 (U po)] 24 (0, 0))) w.heap.size (ruleCells la ma ba po) 24) := B0
  generalize w.alloc (.cells #[Value.int .i64 la, .int .i64 ma, .int .i64 ba, .int .u64 (U po)] 24 (0, 0)) = w0 at *
  have e4 : min L1.length 2500 = (L1.take 2500).length := by rw [List.length_take]; omega
  have e5 : (L1.take 2500).length ≤ 2500 := by rw [List.length_take]; omega
  have e6 : (L1.take 2500).length ≤ n1 := by rw [List.length_take]; omega
  rw [e4]
  clear e4
  generalize L1.take 2500 = l at *
  have c0 : w0.cell? ⟨w.heap.size, 0, none⟩ = some (.int .i64 la) := B0.out.cell 0
  have c1 : w0.cell? ⟨w.heap.size, 1, none⟩ = some (.int .i64 ma) := B0.out.cell 1
  have c2 : w0.cell? ⟨w.heap.size, 2, none⟩ = some (.int .i64 ba) := B0.out.cell 2
  have c3 : w0.cell? ⟨w.heap.size, 3, none⟩ = some (.int .u64 (U po)) := B0.out.cell 3
  go_wp2_with fail
  with_reducible refine (to_any _ _ _ _ _).mono ?_
  rintro e w1 ⟨rfl, hb⟩
  have H1 := Lib.hid (H0.out.trans (hb.mono H0.out.size))
  have B1 := Lib.hid (B0.out.below hb B0.out.lt)
  clear hb H0 B0 c0 c1 c2 c3
  go_wp2_with fail
  by_cases hk : okRule la ma ba po
  · have tR : decide (okRule la ma ba po) = true := by simpa using hk
    have P := cutnew_all la ma ba po w1
    rw [if_pos hk] at P
    with_reducible refine P.mono ?_
    clear P
    rintro e w2 ⟨⟨kp, rfl, hkp⟩, hb⟩
    obtain ⟨ka, rfl⟩ : ∃ ka, kp = some ka := by
      cases kp with
      | none => exact absurd hk (hkp.1 rfl)
      | some ka => exact ⟨ka, rfl⟩
    have H2 := Lib.hid (H1.out.trans (hb.mono H1.out.size))
    have B2 := Lib.hid (B1.out.below hb B1.out.lt)
    clear hb H1 B1 hkp hk
    go_wp2_with fail
    with_reducible refine (none_any _).mono ?_
    rintro e wn ⟨rfl, rfl⟩
    go_wp2_with fail
    with_reducible refine (end_none _).mono ?_
    rintro e wn ⟨rfl, rfl⟩
    go_wp2_with fail
    with_reducible refine (cuts_any _).mono ?_
    rintro e w3 ⟨rfl, hb⟩
    have H3 := Lib.hid (H2.out.trans (hb.mono H2.out.size))
    have B3 := Lib.hid (B2.out.below hb B2.out.lt)
    clear hb H2 B2
    have c0 : w3.cell? ⟨w.heap.size, 0, none⟩ = some (.int .i64 la) := B3.out.cell 0
    have c1 : w3.cell? ⟨w.heap.size, 1, none⟩ = some (.int .i64 ma) := B3.out.cell 1
    have c2 : w3.cell? ⟨w.heap.size, 2, none⟩ = some (.int .i64 ba) := B3.out.cell 2
    have c3 : w3.cell? ⟨w.heap.size, 3, none⟩ = some (.int .u64 (U po)) := B3.out.cell 3
    go_wp2_with fail
    with_reducible refine (refRight_any _ _ _ _ _).mono ?_
    rintro e w4 ⟨rfl, hb⟩
    have H4 := Lib.hid (H3.out.trans (hb.mono H3.out.size))
    have B4 := Lib.hid (B3.out.below hb B3.out.lt)
    clear hb H3 B3 c0 c1 c2 c3
    rw [tR]
    go_wp2_with fail
    with_reducible refine (none_any _).mono ?_
    rintro e wn ⟨rfl, rfl⟩
    go_wp2_with fail
    with_reducible refine (feed_none _ _ _ _).mono ?_
    rintro e wn ⟨rfl, rfl⟩
    have H5 := Lib.hid (H4.out.alloc H4.out.size (.cells #[.slice a1 l.length n1] 25 (0, 0)))
    have B5 := Lib.hid (B4.out.alloc (.cells #[.slice a1 l.length n1] 25 (0, 0)))
    clear H4 B4
    generalize w4.alloc (.cells #[.slice a1 l.length n1] 25 (0, 0)) = w5 at *
    go_wp2_with fail
    go_loopw [9] (fun i wr => ∃ j : Nat, j ≤ 2 ∧ i = .int .i64 (j : Int) ∧ Hid (j ≤ 1 → blockIs wr w.heap.size (ruleCells la ma ba po) 24) ∧ Hid (Below w.heap.size w wr)) (fun i _ => 2 - (intOf i).toNat)
    case atStart => exact ⟨0, by omega, rfl, Lib.hid (fun _ => B5.out), H5⟩
    case round =>
      obtain ⟨j, hj, rfl, KB, K1⟩ := hrel
      clear H5 B5
      match j, hj with
      | 0, _ =>
        have B6 := Lib.hid (KB.out (by omega))
        have c0 : wr.cell? ⟨w.heap.size, 0, none⟩ = some (.int .i64 la) := B6.out.cell 0
        have c1 : wr.cell? ⟨w.heap.size, 1, none⟩ = some (.int .i64 ma) := B6.out.cell 1
        have c2 : wr.cell? ⟨w.heap.size, 2, none⟩ = some (.int .i64 ba) := B6.out.cell 2
        have c3 : wr.cell? ⟨w.heap.size, 3, none⟩ = some (.int .u64 (U po)) := B6.out.cell 3
        have H6 := K1
        go_wp2_with fail
        with_reducible refine (to_any _ _ _ _ _).mono ?_
        rintro e w7 ⟨rfl, hb⟩
        have H7 := Lib.hid (H6.out.trans (hb.mono H6.out.size))
        have B7 := Lib.hid (B6.out.below hb B6.out.lt)
        clear hb H6
        go_wp2_with fail
        with_reducible refine (sizes_all la ma ba po a1 l n1 w7 e6 (by omega) (I1.out.below H7.out (Nat.le_refl _))).mono ?_
        rintro e w8 ⟨v, rfl, hrow, hb⟩
        have H8 := Lib.hid (H7.out.trans (hb.mono H7.out.size))
        have B8 := Lib.hid (B7.out.below hb B7.out.lt)
        obtain ⟨xa, xc, rfl, xl, hv, -⟩ := hrow.vals
        have X8 := Lib.hid hv
        rw [ivals_length] at xl ⊢
        clear hb hrow hv H7 B7
        clear c0 c1 c2 c3
        have c0 : w8.cell? ⟨w.heap.size, 0, none⟩ = some (.int .i64 la) := B8.out.cell 0
        have c1 : w8.cell? ⟨w.heap.size, 1, none⟩ = some (.int .i64 ma) := B8.out.cell 1
        have c2 : w8.cell? ⟨w.heap.size, 2, none⟩ = some (.int .i64 ba) := B8.out.cell 2
        have c3 : w8.cell? ⟨w.heap.size, 3, none⟩ = some (.int .u64 (U po)) := B8.out.cell 3
        go_wp2_with fail
        with_reducible refine (docsizes_all la ma ba po a1 l n1 w8 e6 (by omega) (I1.out.below H8.out (Nat.le_refl _))).mono ?_
        rintro e w9 ⟨v, rfl, hrow, hb⟩
        have H9 := Lib.hid (H8.out.trans (hb.mono H8.out.size))
        have B9 := Lib.hid (B8.out.below hb B8.out.lt)
        have X9 := Lib.hid (X8.out.below hb (Nat.le_refl _))
        obtain ⟨ya, yc, rfl, yl, hv, -⟩ := hrow.vals
        have Y9 := Lib.hid hv
        rw [ivals_length] at yl ⊢
        clear hb hrow hv H8 B8 X8
        clear c0 c1 c2 c3
        have HLN := Lib.hid (szAns_len la ma ba po l)
        generalize (szAns la ma ba po l).1 = S at *
        generalize (szAns la ma ba po l).2 = er at *
        go_wp2_with fail
        with_reducible refine (ints_any xa xc S ya yc S w9 X9.out Y9.out (by have := HLN.out; omega)).mono ?_
        rintro e w10 ⟨rfl, hb⟩
        have H10 := Lib.hid (H9.out.trans (hb.mono H9.out.size))
        have B10 := Lib.hid (B9.out.below hb B9.out.lt)
        clear hb H9 B9 X9 Y9
        have tS : decide (S = S) = true := decide_eq_true rfl
        rw [tS]
        have tE : (er == er) = true := by simp
        go_wp2_with fail
        go_roundw
        case rel => exact ⟨1, by omega, rfl, Lib.hid (fun _ => B10.out), H10⟩
        case measure => simp [intOf]
      | 1, _ =>
        have B6 := Lib.hid (KB.out (by omega))
        have c0 : wr.cell? ⟨w.heap.size, 0, none⟩ = some (.int .i64 la) := B6.out.cell 0
        have c1 : wr.cell? ⟨w.heap.size, 1, none⟩ = some (.int .i64 ma) := B6.out.cell 1
        have c2 : wr.cell? ⟨w.heap.size, 2, none⟩ = some (.int .i64 ba) := B6.out.cell 2
        have c3 : wr.cell? ⟨w.heap.size, 3, none⟩ = some (.int .u64 (U po)) := B6.out.cell 3
        have f0 := B6.out.free 0
        have f1 := B6.out.free 1
        have f2 := B6.out.free 2
        have f3 := B6.out.free 3
        go_wp2_with fail
        with_reducible refine (tame_any la ma ba po _ h1 h2 h3).mono ?_
        rintro e wt ⟨r, hr, rfl, hb⟩
        have HT := Lib.hid (K1.out.trans (hb.mono K1.out.size))
        have BT := Lib.hid (B6.out.below hb B6.out.lt)
        clear hb c0 c1 c2 c3 f0 f1 f2 f3 B6
        have c0 : wt.cell? ⟨w.heap.size, 0, none⟩ = some (.int .i64 la) := BT.out.cell 0
        have c1 : wt.cell? ⟨w.heap.size, 1, none⟩ = some (.int .i64 ma) := BT.out.cell 1
        have c2 : wt.cell? ⟨w.heap.size, 2, none⟩ = some (.int .i64 ba) := BT.out.cell 2
        have c3 : wt.cell? ⟨w.heap.size, 3, none⟩ = some (.int .u64 (U po)) := BT.out.cell 3
        have f0 := BT.out.free 0
        have f1 := BT.out.free 1
        have f2 := BT.out.free 2
        have f3 := BT.out.free 3
        go_upto_region 11 with fail
        have H6 : Hid (Below w.heap.size w ((((wt.setCell ⟨w.heap.size, 0, none⟩ (.int .i64 (r.least : Int))).setCell ⟨w.heap.size, 1, none⟩ (.int .i64 (r.most : Int))).setCell ⟨w.heap.size, 2, none⟩ (.int .i64 (r.bits : Int))).setCell ⟨w.heap.size, 3, none⟩ (.int .u64 (U r.poly)))) := Lib.hid ((((HT.out.setCell (Nat.le_refl _) _).setCell (Nat.le_refl _) _).setCell (Nat.le_refl _) _).setCell (Nat.le_refl _) _)
        have B6 := Lib.hid ((((BT.out.set 0 (.int .i64 (r.least : Int))).set 1 (.int .i64 (r.most : Int))).set 2 (.int .i64 (r.bits : Int))).set 3 (.int .u64 (U r.poly)))
        clear c0 c1 c2 c3 f0 f1 f2 f3 BT HT
        generalize ((((wt.setCell ⟨w.heap.size, 0, none⟩ (.int .i64 (r.least : Int))).setCell ⟨w.heap.size, 1, none⟩ (.int .i64 (r.most : Int))).setCell ⟨w.heap.size, 2, none⟩ (.int .i64 (r.bits : Int))).setCell ⟨w.heap.size, 3, none⟩ (.int .u64 (U r.poly))) = w6 at *
        have c0 : w6.cell? ⟨w.heap.size, 0, none⟩ = some (.int .i64 (r.least : Int)) := B6.out.cell 0
        have c1 : w6.cell? ⟨w.heap.size, 1, none⟩ = some (.int .i64 (r.most : Int)) := B6.out.cell 1
        have c2 : w6.cell? ⟨w.heap.size, 2, none⟩ = some (.int .i64 (r.bits : Int)) := B6.out.cell 2
        have c3 : w6.cell? ⟨w.heap.size, 3, none⟩ = some (.int .u64 (U r.poly)) := B6.out.cell 3
        go_wp2_with fail
        with_reducible refine (to_any _ _ _ _ _).mono ?_
        rintro e w7 ⟨rfl, hb⟩
        have H7 := Lib.hid (H6.out.trans (hb.mono H6.out.size))
        have B7 := Lib.hid (B6.out.below hb B6.out.lt)
        clear hb H6
        go_wp2_with fail
        with_reducible refine (sizes_all (r.least : Int) (r.most : Int) (r.bits : Int) r.poly a1 l n1 w7 e6 (by omega) (I1.out.below H7.out (Nat.le_refl _))).mono ?_
        rintro e w8 ⟨v, rfl, hrow, hb⟩
        have H8 := Lib.hid (H7.out.trans (hb.mono H7.out.size))
        have B8 := Lib.hid (B7.out.below hb B7.out.lt)
        obtain ⟨xa, xc, rfl, xl, hv, -⟩ := hrow.vals
        have X8 := Lib.hid hv
        rw [ivals_length] at xl ⊢
        clear hb hrow hv H7 B7
        clear c0 c1 c2 c3
        have c0 : w8.cell? ⟨w.heap.size, 0, none⟩ = some (.int .i64 (r.least : Int)) := B8.out.cell 0
        have c1 : w8.cell? ⟨w.heap.size, 1, none⟩ = some (.int .i64 (r.most : Int)) := B8.out.cell 1
        have c2 : w8.cell? ⟨w.heap.size, 2, none⟩ = some (.int .i64 (r.bits : Int)) := B8.out.cell 2
        have c3 : w8.cell? ⟨w.heap.size, 3, none⟩ = some (.int .u64 (U r.poly)) := B8.out.cell 3
        go_wp2_with fail
        with_reducible refine (docsizes_all (r.least : Int) (r.most : Int) (r.bits : Int) r.poly a1 l n1 w8 e6 (by omega) (I1.out.below H8.out (Nat.le_refl _))).mono ?_
        rintro e w9 ⟨v, rfl, hrow, hb⟩
        have H9 := Lib.hid (H8.out.trans (hb.mono H8.out.size))
        have B9 := Lib.hid (B8.out.below hb B8.out.lt)
        have X9 := Lib.hid (X8.out.below hb (Nat.le_refl _))
        obtain ⟨ya, yc, rfl, yl, hv, -⟩ := hrow.vals
        have Y9 := Lib.hid hv
        rw [ivals_length] at yl ⊢
        clear hb hrow hv H8 B8 X8
        clear c0 c1 c2 c3
        have HLN := Lib.hid (szAns_len (r.least : Int) (r.most : Int) (r.bits : Int) r.poly l)
        generalize (szAns (r.least : Int) (r.most : Int) (r.bits : Int) r.poly l).1 = S at *
        generalize (szAns (r.least : Int) (r.most : Int) (r.bits : Int) r.poly l).2 = er at *
        go_wp2_with fail
        with_reducible refine (ints_any xa xc S ya yc S w9 X9.out Y9.out (by have := HLN.out; omega)).mono ?_
        rintro e w10 ⟨rfl, hb⟩
        have H10 := Lib.hid (H9.out.trans (hb.mono H9.out.size))
        have B10 := Lib.hid (B9.out.below hb B9.out.lt)
        clear hb H9 B9 X9 Y9
        have tS : decide (S = S) = true := decide_eq_true rfl
        rw [tS]
        have tE : (er == er) = true := by simp
        go_wp2_with fail
        go_roundw
        case rel => exact ⟨2, by omega, rfl, Lib.hid (fun h => by omega), H10⟩
        case measure => simp [intOf]
      | 2, _ =>
        go_wp2_with fail
        go_ret
        exact ⟨rfl, K1.out⟩
  · have tR : decide (okRule la ma ba po) = false := by simpa using hk
    have P := cutnew_all la ma ba po w1
    rw [if_neg hk] at P
    with_reducible refine P.mono ?_
    clear P
    rintro e w2 ⟨⟨kp, rfl, hkp⟩, hb⟩
    obtain rfl : kp = none := hkp.2 hk
    have H2 := Lib.hid (H1.out.trans (hb.mono H1.out.size))
    have B2 := Lib.hid (B1.out.below hb B1.out.lt)
    clear hb H1 B1 hkp hk
    go_wp2_with fail
    with_reducible refine (none_any _).mono ?_
    rintro e wn ⟨rfl, rfl⟩
    go_wp2_with fail
    with_reducible refine (end_none _).mono ?_
    rintro e wn ⟨rfl, rfl⟩
    go_wp2_with fail
    with_reducible refine (cuts_any _).mono ?_
    rintro e w3 ⟨rfl, hb⟩
    have H3 := Lib.hid (H2.out.trans (hb.mono H2.out.size))
    have B3 := Lib.hid (B2.out.below hb B2.out.lt)
    clear hb H2 B2
    have c0 : w3.cell? ⟨w.heap.size, 0, none⟩ = some (.int .i64 la) := B3.out.cell 0
    have c1 : w3.cell? ⟨w.heap.size, 1, none⟩ = some (.int .i64 ma) := B3.out.cell 1
    have c2 : w3.cell? ⟨w.heap.size, 2, none⟩ = some (.int .i64 ba) := B3.out.cell 2
    have c3 : w3.cell? ⟨w.heap.size, 3, none⟩ = some (.int .u64 (U po)) := B3.out.cell 3
    go_wp2_with fail
    with_reducible refine (refRight_any _ _ _ _ _).mono ?_
    rintro e w4 ⟨rfl, hb⟩
    have H4 := Lib.hid (H3.out.trans (hb.mono H3.out.size))
    have B4 := Lib.hid (B3.out.below hb B3.out.lt)
    clear hb H3 B3 c0 c1 c2 c3
    rw [tR]
    go_wp2_with fail
    with_reducible refine (none_any _).mono ?_
    rintro e wn ⟨rfl, rfl⟩
    go_wp2_with fail
    with_reducible refine (feed_none _ _ _ _).mono ?_
    rintro e wn ⟨rfl, rfl⟩
    have H5 := Lib.hid (H4.out.alloc H4.out.size (.cells #[.slice a1 l.length n1] 25 (0, 0)))
    have B5 := Lib.hid (B4.out.alloc (.cells #[.slice a1 l.length n1] 25 (0, 0)))
    clear H4 B4
    generalize w4.alloc (.cells #[.slice a1 l.length n1] 25 (0, 0)) = w5 at *
    go_wp2_with fail
    go_loopw [9] (fun i wr => ∃ j : Nat, j ≤ 2 ∧ i = .int .i64 (j : Int) ∧ Hid (j ≤ 1 → blockIs wr w.heap.size (ruleCells la ma ba po) 24) ∧ Hid (Below w.heap.size w wr)) (fun i _ => 2 - (intOf i).toNat)
    case atStart => exact ⟨0, by omega, rfl, Lib.hid (fun _ => B5.out), H5⟩
    case round =>
      obtain ⟨j, hj, rfl, KB, K1⟩ := hrel
      clear H5 B5
      match j, hj with
      | 0, _ =>
        have B6 := Lib.hid (KB.out (by omega))
        have c0 : wr.cell? ⟨w.heap.size, 0, none⟩ = some (.int .i64 la) := B6.out.cell 0
        have c1 : wr.cell? ⟨w.heap.size, 1, none⟩ = some (.int .i64 ma) := B6.out.cell 1
        have c2 : wr.cell? ⟨w.heap.size, 2, none⟩ = some (.int .i64 ba) := B6.out.cell 2
        have c3 : wr.cell? ⟨w.heap.size, 3, none⟩ = some (.int .u64 (U po)) := B6.out.cell 3
        have H6 := K1
        go_wp2_with fail
        with_reducible refine (to_any _ _ _ _ _).mono ?_
        rintro e w7 ⟨rfl, hb⟩
        have H7 := Lib.hid (H6.out.trans (hb.mono H6.out.size))
        have B7 := Lib.hid (B6.out.below hb B6.out.lt)
        clear hb H6
        go_wp2_with fail
        with_reducible refine (sizes_all la ma ba po a1 l n1 w7 e6 (by omega) (I1.out.below H7.out (Nat.le_refl _))).mono ?_
        rintro e w8 ⟨v, rfl, hrow, hb⟩
        have H8 := Lib.hid (H7.out.trans (hb.mono H7.out.size))
        have B8 := Lib.hid (B7.out.below hb B7.out.lt)
        obtain ⟨xa, xc, rfl, xl, hv, -⟩ := hrow.vals
        have X8 := Lib.hid hv
        rw [ivals_length] at xl ⊢
        clear hb hrow hv H7 B7
        clear c0 c1 c2 c3
        have c0 : w8.cell? ⟨w.heap.size, 0, none⟩ = some (.int .i64 la) := B8.out.cell 0
        have c1 : w8.cell? ⟨w.heap.size, 1, none⟩ = some (.int .i64 ma) := B8.out.cell 1
        have c2 : w8.cell? ⟨w.heap.size, 2, none⟩ = some (.int .i64 ba) := B8.out.cell 2
        have c3 : w8.cell? ⟨w.heap.size, 3, none⟩ = some (.int .u64 (U po)) := B8.out.cell 3
        go_wp2_with fail
        with_reducible refine (docsizes_all la ma ba po a1 l n1 w8 e6 (by omega) (I1.out.below H8.out (Nat.le_refl _))).mono ?_
        rintro e w9 ⟨v, rfl, hrow, hb⟩
        have H9 := Lib.hid (H8.out.trans (hb.mono H8.out.size))
        have B9 := Lib.hid (B8.out.below hb B8.out.lt)
        have X9 := Lib.hid (X8.out.below hb (Nat.le_refl _))
        obtain ⟨ya, yc, rfl, yl, hv, -⟩ := hrow.vals
        have Y9 := Lib.hid hv
        rw [ivals_length] at yl ⊢
        clear hb hrow hv H8 B8 X8
        clear c0 c1 c2 c3
        have HLN := Lib.hid (szAns_len la ma ba po l)
        generalize (szAns la ma ba po l).1 = S at *
        generalize (szAns la ma ba po l).2 = er at *
        go_wp2_with fail
        with_reducible refine (ints_any xa xc S ya yc S w9 X9.out Y9.out (by have := HLN.out; omega)).mono ?_
        rintro e w10 ⟨rfl, hb⟩
        have H10 := Lib.hid (H9.out.trans (hb.mono H9.out.size))
        have B10 := Lib.hid (B9.out.below hb B9.out.lt)
        clear hb H9 B9 X9 Y9
        have tS : decide (S = S) = true := decide_eq_true rfl
        rw [tS]
        have tE : (er == er) = true := by simp
        go_wp2_with fail
        go_roundw
        case rel => exact ⟨1, by omega, rfl, Lib.hid (fun _ => B10.out), H10⟩
        case measure => simp [intOf]
      | 1, _ =>
        have B6 := Lib.hid (KB.out (by omega))
        have c0 : wr.cell? ⟨w.heap.size, 0, none⟩ = some (.int .i64 la) := B6.out.cell 0
        have c1 : wr.cell? ⟨w.heap.size, 1, none⟩ = some (.int .i64 ma) := B6.out.cell 1
        have c2 : wr.cell? ⟨w.heap.size, 2, none⟩ = some (.int .i64 ba) := B6.out.cell 2
        have c3 : wr.cell? ⟨w.heap.size, 3, none⟩ = some (.int .u64 (U po)) := B6.out.cell 3
        have f0 := B6.out.free 0
        have f1 := B6.out.free 1
        have f2 := B6.out.free 2
        have f3 := B6.out.free 3
        go_wp2_with fail
        with_reducible refine (tame_any la ma ba po _ h1 h2 h3).mono ?_
        rintro e wt ⟨r, hr, rfl, hb⟩
        have HT := Lib.hid (K1.out.trans (hb.mono K1.out.size))
        have BT := Lib.hid (B6.out.below hb B6.out.lt)
        clear hb c0 c1 c2 c3 f0 f1 f2 f3 B6
        have c0 : wt.cell? ⟨w.heap.size, 0, none⟩ = some (.int .i64 la) := BT.out.cell 0
        have c1 : wt.cell? ⟨w.heap.size, 1, none⟩ = some (.int .i64 ma) := BT.out.cell 1
        have c2 : wt.cell? ⟨w.heap.size, 2, none⟩ = some (.int .i64 ba) := BT.out.cell 2
        have c3 : wt.cell? ⟨w.heap.size, 3, none⟩ = some (.int .u64 (U po)) := BT.out.cell 3
        have f0 := BT.out.free 0
        have f1 := BT.out.free 1
        have f2 := BT.out.free 2
        have f3 := BT.out.free 3
        go_upto_region 11 with fail
        have H6 : Hid (Below w.heap.size w ((((wt.setCell ⟨w.heap.size, 0, none⟩ (.int .i64 (r.least : Int))).setCell ⟨w.heap.size, 1, none⟩ (.int .i64 (r.most : Int))).setCell ⟨w.heap.size, 2, none⟩ (.int .i64 (r.bits : Int))).setCell ⟨w.heap.size, 3, none⟩ (.int .u64 (U r.poly)))) := Lib.hid ((((HT.out.setCell (Nat.le_refl _) _).setCell (Nat.le_refl _) _).setCell (Nat.le_refl _) _).setCell (Nat.le_refl _) _)
        have B6 := Lib.hid ((((BT.out.set 0 (.int .i64 (r.least : Int))).set 1 (.int .i64 (r.most : Int))).set 2 (.int .i64 (r.bits : Int))).set 3 (.int .u64 (U r.poly)))
        clear c0 c1 c2 c3 f0 f1 f2 f3 BT HT
        generalize ((((wt.setCell ⟨w.heap.size, 0, none⟩ (.int .i64 (r.least : Int))).setCell ⟨w.heap.size, 1, none⟩ (.int .i64 (r.most : Int))).setCell ⟨w.heap.size, 2, none⟩ (.int .i64 (r.bits : Int))).setCell ⟨w.heap.size, 3, none⟩ (.int .u64 (U r.poly))) = w6 at *
        have c0 : w6.cell? ⟨w.heap.size, 0, none⟩ = some (.int .i64 (r.least : Int)) := B6.out.cell 0
        have c1 : w6.cell? ⟨w.heap.size, 1, none⟩ = some (.int .i64 (r.most : Int)) := B6.out.cell 1
        have c2 : w6.cell? ⟨w.heap.size, 2, none⟩ = some (.int .i64 (r.bits : Int)) := B6.out.cell 2
        have c3 : w6.cell? ⟨w.heap.size, 3, none⟩ = some (.int .u64 (U r.poly)) := B6.out.cell 3
        go_wp2_with fail
        with_reducible refine (to_any _ _ _ _ _).mono ?_
        rintro e w7 ⟨rfl, hb⟩
        have H7 := Lib.hid (H6.out.trans (hb.mono H6.out.size))
        have B7 := Lib.hid (B6.out.below hb B6.out.lt)
        clear hb H6
        go_wp2_with fail
        with_reducible refine (sizes_all (r.least : Int) (r.most : Int) (r.bits : Int) r.poly a1 l n1 w7 e6 (by omega) (I1.out.below H7.out (Nat.le_refl _))).mono ?_
        rintro e w8 ⟨v, rfl, hrow, hb⟩
        have H8 := Lib.hid (H7.out.trans (hb.mono H7.out.size))
        have B8 := Lib.hid (B7.out.below hb B7.out.lt)
        obtain ⟨xa, xc, rfl, xl, hv, -⟩ := hrow.vals
        have X8 := Lib.hid hv
        rw [ivals_length] at xl ⊢
        clear hb hrow hv H7 B7
        clear c0 c1 c2 c3
        have c0 : w8.cell? ⟨w.heap.size, 0, none⟩ = some (.int .i64 (r.least : Int)) := B8.out.cell 0
        have c1 : w8.cell? ⟨w.heap.size, 1, none⟩ = some (.int .i64 (r.most : Int)) := B8.out.cell 1
        have c2 : w8.cell? ⟨w.heap.size, 2, none⟩ = some (.int .i64 (r.bits : Int)) := B8.out.cell 2
        have c3 : w8.cell? ⟨w.heap.size, 3, none⟩ = some (.int .u64 (U r.poly)) := B8.out.cell 3
        go_wp2_with fail
        with_reducible refine (docsizes_all (r.least : Int) (r.most : Int) (r.bits : Int) r.poly a1 l n1 w8 e6 (by omega) (I1.out.below H8.out (Nat.le_refl _))).mono ?_
        rintro e w9 ⟨v, rfl, hrow, hb⟩
        have H9 := Lib.hid (H8.out.trans (hb.mono H8.out.size))
        have B9 := Lib.hid (B8.out.below hb B8.out.lt)
        have X9 := Lib.hid (X8.out.below hb (Nat.le_refl _))
        obtain ⟨ya, yc, rfl, yl, hv, -⟩ := hrow.vals
        have Y9 := Lib.hid hv
        rw [ivals_length] at yl ⊢
        clear hb hrow hv H8 B8 X8
        clear c0 c1 c2 c3
        have HLN := Lib.hid (szAns_len (r.least : Int) (r.most : Int) (r.bits : Int) r.poly l)
        generalize (szAns (r.least : Int) (r.most : Int) (r.bits : Int) r.poly l).1 = S at *
        generalize (szAns (r.least : Int) (r.most : Int) (r.bits : Int) r.poly l).2 = er at *
        go_wp2_with fail
        with_reducible refine (ints_any xa xc S ya yc S w9 X9.out Y9.out (by have := HLN.out; omega)).mono ?_
        rintro e w10 ⟨rfl, hb⟩
        have H10 := Lib.hid (H9.out.trans (hb.mono H9.out.size))
        have B10 := Lib.hid (B9.out.below hb B9.out.lt)
        clear hb H9 B9 X9 Y9
        have tS : decide (S = S) = true := decide_eq_true rfl
        rw [tS]
        have tE : (er == er) = true := by simp
        go_wp2_with fail
        go_roundw
        case rel => exact ⟨2, by omega, rfl, Lib.hid (fun h => by omega), H10⟩
        case measure => simp [intOf]
      | 2, _ =>
        go_wp2_with fail
        go_ret
        exact ⟨rfl, K1.out⟩

namespace cutSizes
open Go.ChangeShapes Go.WideShapes Go.ChangeAt Go.RowKit Go.Joins Go.Deep
set_option maxRecDepth 100000 in
theorem lifted (os : Os) (started : os.Started) (H : Type) (enc : TypeId × Value → H) :
    ReturnsInHanded {} Try.checked os 3 .any (Rows.cutSizesSpec.pre6 enc Try.prog Try.f3 Rows.cutSizesRow.domain false) (Rows.cutSizesSpec.post enc Try.prog Try.f3 false true false false) := by
  refine returnsInHanded_of_change (C := Try.checked) own started (by kernel_rfl) Try.func3
    (ChangeSpec.witness6 (enc := enc) (C := Try.checked) false ⟨#[], #[.agg #[.int .i64 0, .int .i64 0, .int .i64 0, .int .u64 0], .slice none 0 0], []⟩ 8 (by kernel_rfl) (by kernel_rfl) (by kernel_rfl) (by kernel_rfl)) ?_
  intro W base args ds gs before hval0 hW hcnd _
  have hval : ∀ (j : Nat) t v, Try.f3.params[j]? = some t → args[j]? = some v → Value.okWide Try.prog W .any base t v := hval0
  have hW' := hW
  obtain ⟨p, q, hA0, hV, rfl, hfz, hnd⟩ := hW
  have hA : DataW.TrodAll enc Try.prog W 0 (fun _ => true) true Try.f3.params.toList args.toList ds p := hA0
  rw [Try.params3] at hA hval
  obtain ⟨v0, vs0, d0, ds0, p0, q0, hargs, rfl, rfl, h0, r0⟩ := trodAll_cons hA
  obtain ⟨v1, vs1, d1, ds1, p1, q1, rfl, rfl, rfl, h1, r1⟩ := trodAll_cons r0
  obtain ⟨rfl, rfl, rfl⟩ := trodAll_nil r1
  obtain rfl : args = #[v0, v1] := by cases args; simp_all
  obtain ⟨rfl, rfl⟩ := trodVars_none hV
  have h0k := h0
  obtain ⟨u0_0, u1_0, u2_0, u3_0, y0_0, y1_0, y2_0, y3_0, n_0, rfl, hd0, hp0, g0_0, g1_0, g2_0, g3_0⟩ := open_agg4 Try.underlying24 (by kernel_rfl) (by kernel_rfl) (hval 0 24 v0 rfl rfl) h0
  obtain ⟨a0_0, e0_0, _, w0_0⟩ := DataW.trod_int Try.underlying3 g0_0
  obtain rfl : u0_0 = .int .i64 a0_0 := by simpa using e0_0
  obtain ⟨a1_0, e1_0, _, w1_0⟩ := DataW.trod_int Try.underlying3 g1_0
  obtain rfl : u1_0 = .int .i64 a1_0 := by simpa using e1_0
  obtain ⟨a2_0, e2_0, _, w2_0⟩ := DataW.trod_int Try.underlying3 g2_0
  obtain rfl : u2_0 = .int .i64 a2_0 := by simpa using e2_0
  obtain ⟨a3_0, e3_0, _, w3_0⟩ := DataW.trod_int Try.underlying22 g3_0
  obtain rfl : u3_0 = .int .u64 a3_0 := by simpa using e3_0
  obtain ⟨x3_0, rfl⟩ := word_of a3_0 w3_0
  clear hd0 hp0
  obtain ⟨a1, l1, c1, rfl⟩ := okWide_slice Try.underlying25 (hval 1 25 v1 rfl rfl)
  have h1k := h1
  obtain ⟨n1, g1⟩ := h1
  obtain ⟨b1, k1, F1, e1, hF1, hin1, hz1⟩ := open_bytes (v := .slice a1 l1 c1) (by simpa [Value.cells] using g1)
  clear hA0 hval0
  simp only [List.append_nil, List.nil_append] at hW'
  have hlt : ∀ x ∈ p0 ++ p1, x.block < W.heap.size := fun x hx => hW'.lt x (by simpa using hx)
  rw [e1]
  refine (law_cutSizes a0_0 a1_0 a2_0 x3_0 b1 k1 F1 W w0_0 w1_0 w2_0 hF1 hin1 hz1).mono fun e W' ⟨he, hb⟩ => ?_
  rw [← e1]
  subst he
  refine ⟨_, rfl, [d0, d1], [], p0 ++ p1, [], p0 ++ p1, [], by simpa using hW', ?_, ?_, ?_, hb.frame _, fun h => by cases h⟩
  · exact trodAll_cons_mk (shut_bool Try.underlying4 _) trodAll_mk0
  · have := (trodAll_cons_mk (Below.trod laidOut (by kernel_rfl) (of_decide_eq_true (by kernel_rfl)) h0k hb (fun x hx => hlt x (by simp [hx]))) (trodAll_cons_mk (Below.trod laidOut (by kernel_rfl) (of_decide_eq_true (by kernel_rfl)) h1k hb (fun x hx => hlt x (by simp [hx]))) trodAll_mk0))
    simp only [List.append_nil, List.nil_append] at this
    exact this
  · rfl

theorem proved : Rows.CutSizesSaid :=
  OpenClaim.holds_of_wide 3 Try.f3 rfl rfl rfl rfl rfl rfl rfl ⟨rfl, rfl, rfl, rfl, rfl⟩ rfl rfl rfl rfl rfl (by kernel_rfl) Try.func3 (by kernel_rfl)
    (of_decide_eq_true (by kernel_rfl)) (by unfold Func.isWrapper; first | (rw [if_pos (by decide +kernel)]; kernel_rfl) | (rw [if_neg (by decide +kernel)]; exact ⟨rfl, rfl⟩))
    (fun os started H enc _ => lifted os started H enc)
end cutSizes
end Go.Proofs.Ytefienlfpclekaa
