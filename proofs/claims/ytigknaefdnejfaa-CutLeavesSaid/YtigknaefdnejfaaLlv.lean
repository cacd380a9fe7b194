/- CutLeaves: for every rule and all bytes the law returns true, and its arguments read as before. No condition. -/
import Derived.Test.YtigknaefdnejfaaLvm
import Derived.Test.YtigknaefdnejfaaDsz
import Derived.Lib.SmallJoins
import Derived.Deep.DeepCutAuto
namespace Go.Proofs.Ytigknaefdnejfaa
open Go.RowKit

set_option maxRecDepth 100000 in
set_option maxHeartbeats 4000000 in
theorem law_cutLeaves (la ma ba : Int) (po : W) (a1 : Option Addr) (n1 : Nat) (L1 : List UInt8) (w : World) (h1 : (Lit.int .i64 la).wf = true) (h2 : (Lit.int .i64 ma).wf = true) (h3 : (Lit.int .i64 ba).wf = true) (hl1 : L1.length ≤ n1) (hin1 : bytesIn w a1 L1) (hz1 : a1 = none → n1 = 0) :
    Calls Try.prog 8 #[.agg #[.int .i64 la, .int .i64 ma, .int .i64 ba, .int .u64 (U po)], .slice a1 L1.length n1] w fun e w' => e = .returned (.bool true) ∧ Below w.heap.size w w' := by
  have I1 := Lib.hid (hin1.take 2500)
  have Z1 := Lib.hid hz1
  clear hin1 hz1
  have B0 := Lib.hid (blockIs.new w (ruleCells la ma ba po) 24)
  have c0 : (w.alloc (.cells (ruleCells la ma ba po).toArray 24 (0, 0))).cell? ⟨w.heap.size, 0, none⟩ = some (.int .i64 la) := B0.out.cell 0
  have c1 : (w.alloc (.cells (ruleCells la ma ba po).toArray 24 (0, 0))).cell? ⟨w.heap.size, 1, none⟩ = some (.int .i64 ma) := B0.out.cell 1
  have c2 : (w.alloc (.cells (ruleCells la ma ba po).toArray 24 (0, 0))).cell? ⟨w.heap.size, 2, none⟩ = some (.int .i64 ba) := B0.out.cell 2
  have c3 : (w.alloc (.cells (ruleCells la ma ba po).toArray 24 (0, 0))).cell? ⟨w.heap.size, 3, none⟩ = some (.int .u64 (U po)) := B0.out.cell 3
  go_enter Try.func8, Try.ntmps8
  go_upto_region 1 with fail
  go_cut [1] (fun s1 wx => s1 = .slice a1 (min L1.length 2500) n1 ∧ ∃ r : Rl, r.ok ∧ Hid (blockIs wx w.heap.size (ruleCells (r.least : Int) (r.most : Int) (r.bits : Int) r.poly) 24) ∧ Hid (Below w.heap.size w wx))
  case first =>
    go_region_law
      (first
      | (go_simp; go_at_call 10
         with_reducible refine (bytes_any a1 _ _ _ hl1).mono ?_
         rintro e w2 ⟨rfl, rfl⟩)
      | (go_simp; go_at_call 18
         with_reducible refine (tame_any la ma ba po _ h1 h2 h3).mono ?_
         rintro e w2 ⟨r, hr, rfl, hb⟩
         have B2 := Lib.hid (B0.out.below hb (by simp))
         have c5 : w2.cell? ⟨w.heap.size, 0, none⟩ = some (.int .i64 la) := B2.out.cell 0
         have c6 : w2.cell? ⟨w.heap.size, 1, none⟩ = some (.int .i64 ma) := B2.out.cell 1
         have c7 : w2.cell? ⟨w.heap.size, 2, none⟩ = some (.int .i64 ba) := B2.out.cell 2
         have c8 : w2.cell? ⟨w.heap.size, 3, none⟩ = some (.int .u64 (U po)) := B2.out.cell 3
         have f5 := B2.out.free 0
         have f6 := B2.out.free 1
         have f7 := B2.out.free 2
         have f8 := B2.out.free 3))
    all_goals
      go_wp2_with fail
      go_meet
      case rel =>
        refine ⟨rfl, r, hr, Lib.hid ((((B2.out.set 0 (.int .i64 (r.least : Int))).set 1 (.int .i64 (r.most : Int))).set 2 (.int .i64 (r.bits : Int))).set 3 (.int .u64 (U r.poly))), Lib.hid ?_⟩
        exact (((((((Below.refl w.heap.size w).alloc (Nat.le_refl _) (.cells (ruleCells la ma ba po).toArray 24 (0, 0))).drew).trans (hb.mono (by simp))).setCell (Nat.le_refl _) _).setCell (Nat.le_refl _) _).setCell (Nat.le_refl _) _).setCell (Nat.le_refl _) _
  obtain ⟨rfl, r, hr, B3, H3⟩ := hcut
  clear B0 c0 c1 c2 c3
  have c0 : wc.cell? ⟨w.heap.size, 0, none⟩ = some (.int .i64 (r.least : Int)) := B3.out.cell 0
  have c1 : wc.cell? ⟨w.heap.size, 1, none⟩ = some (.int .i64 (r.most : Int)) := B3.out.cell 1
  have c2 : wc.cell? ⟨w.heap.size, 2, none⟩ = some (.int .i64 (r.bits : Int)) := B3.out.cell 2
  have c3 : wc.cell? ⟨w.heap.size, 3, none⟩ = some (.int .u64 (U r.poly)) := B3.out.cell 3
  have e4 : min L1.length 2500 = (L1.take 2500).length := by rw [List.length_take]; omega
  have e5 : (L1.take 2500).length ≤ 2500 := by rw [List.length_take]; omega
  have e6 : (L1.take 2500).length ≤ n1 := by rw [List.length_take]; omega
  rw [e4]
  clear e4
  generalize L1.take 2500 = l1 at *
  go_wp2_with fail
  with_reducible refine (to_any _ _ _ _ _).mono ?_
  rintro e w5 ⟨rfl, hb⟩
  have H5 := Lib.hid (H3.out.trans (hb.mono H3.out.size))
  clear hb H3 B3 c0 c1 c2 c3
  go_wp2_with fail
  with_reducible refine (cutnew_any r hr w5).mono ?_
  rintro e w6 ⟨k, g, b, rfl, hk, hg, hb, hkn, hbe⟩
  have G6 : Hid (w.heap.size ≤ k ∧ w.heap.size ≤ g ∧ w.heap.size ≤ b) := Lib.hid ⟨Nat.le_trans H5.out.size hk, Nat.le_trans H5.out.size hg, Nat.le_trans H5.out.size hb⟩
  have K6 := Lib.hid hkn
  have H6 := Lib.hid (H5.out.trans (hbe.mono H5.out.size))
  clear hk hg hb hkn hbe H5
  have l0n : (0 : Int) ≤ (l1.length : Int) := by omega
  have l1n : (l1.length : Int) ≤ 2500 := by omega
  have hroom : ∀ w, (Instr.makeSlice 25 (.int .i64 0) (.int .i64 ((l1.length : Int) + 50))).run Try.prog w = .ok (.slice (some ⟨w.heap.size, 0, none⟩) 0 (l1.length + 50)) (w.alloc (.cells (zeroB (l1.length + 50)) 5)) := fun w => by
    have := make_room (l1.length + 50) w (by omega)
    rw [Int.natCast_add] at this
    exact this
  have RR := Lib.hid (room_row (l1.length + 50) w6 (by omega))
  go_wp2_with (at_builtin; refine append_bytes rfl _ _ rfl w6.heap.size _ [] rfl RR.out a1 _ n1 l1 rfl rfl Z1.out ((I1.out.below H6.out (Nat.le_refl _)).below ((Below.refl _ _).alloc (Nat.le_refl _) _) (Nat.le_refl _)) (by simp; omega) (by simp) ?_)
  intro v8 w8 hown hgr
  clear hroom
  have hgr : (w6.alloc (.cells (zeroB (l1.length + 50)) 5)).grownBy w8 (some w6.heap.size) := hgr
  have hbl : Below w6.heap.size w6 w8 := ((Below.refl w6.heap.size w6).alloc (Nat.le_refl _) (.cells (zeroB (l1.length + 50)) 5)).trans (RR.out.grew (by simp) hgr)
  have hown : rowIs w8 w6.heap.size v8 l1 := hown
  have HKL : Hid (k < w6.heap.size ∧ g < w6.heap.size ∧ b < w6.heap.size) := Lib.hid ⟨K6.out.kn.lt, K6.out.roll.lt.1, K6.out.roll.lt.2⟩
  have K8 := Lib.hid (K6.out.below hbl)
  have H8 := Lib.hid (H6.out.trans (hbl.mono H6.out.size))
  have HBO : Hid (w6.heap.size ≤ w8.heap.size) := Lib.hid hbl.size
  have I8 := Lib.hid hown
  have HW6 : Hid (w.heap.size ≤ w6.heap.size) := Lib.hid H6.out.size
  clear hgr hbl RR K6 H6
  obtain ⟨va, vc, rfl, -, -, -⟩ := rowIs.bytes hown
  clear hown
  go_wp2_with fail
  with_reducible refine (cuts_any _).mono ?_
  rintro e w9 ⟨rfl, hb⟩
  have H9 := Lib.hid (H8.out.trans (hb.mono H8.out.size))
  have K9 := Lib.hid (K8.out.below hb)
  have I9 := Lib.hid (rowV.is (I8.out.v.below hb (Nat.le_refl _)))
  have HB9 : Hid (w6.heap.size ≤ w9.heap.size) := Lib.hid (Nat.le_trans HBO.out hb.size)
  have HKB : Hid (k < w9.heap.size ∧ g < w9.heap.size ∧ b < w9.heap.size) := Lib.hid (by have := HKL.out; have := HB9.out; omega)
  clear hb H8 K8 I8
  have PF : Hid (Calls Try.prog 17 #[.pointer (some ⟨k, 0, none⟩), .slice (some ⟨w9.heap.size, 0, none⟩) 1 1] (w9.alloc (.cells #[.slice va l1.length vc] 25 (0, 0))) fun e w' => ∃ ov pv' B' vs L', e = .returned ov ∧ (r.fed [] l1).1.flatten ++ (r.fed [] l1).2 = l1 ∧ LvAt w w' w.heap.size k g b r w9.heap.size B' pv' (.slice va l1.length vc) ov (r.fed [] l1).2 l1 vs L' w6.heap.size ∧ vs.length ≤ 2500) := Lib.hid (by
    obtain ⟨a, c, e, h1, h2, h3, h4⟩ := rowIs.far I9.out HKL.out.1 HKL.out.2.1 HKL.out.2.2
    cases e
    have h5 := h4
    refine (feed1 k g b r w9.heap.size _ va l1 vc w9 K9.out fitW_new (Nat.le_refl _) HKB.out.1 HKB.out.2.1 HKB.out.2.2 h1 h2 h3 h5 (by omega)).mono ?_
    rintro e w' ⟨ov, pv', B', vs, L', rfl, hF⟩
    have hb0 := (Below.refl w9.heap.size w9).alloc (Nat.le_refl _) (.cells #[.slice va l1.length vc] 25 (0, 0))
    have hf0 : ButF k g b w9.heap.size w9 w' := (ButF.of_below hb0).trans hF.kept
    have hlen := r.fed_len [] l1
    refine ⟨ov, pv', B', vs, L', rfl, r.fed_all [] l1, ⟨hF.knife, hF.fit, hF.piece, hF.lo, ?_, rowV.mono hF.out (by simp), ?_, ?_⟩, ?_⟩
    · refine ⟨?_, fun q hq => (World.ownsRow.lt I9.out q hq).2⟩
      rcases I9.out.2 with ⟨e, h0⟩ | ⟨q, cap, cur, e, hba, hh, hn, hc, hs, ht⟩
      · exact ⟨I9.out.1, Or.inl ⟨e, h0⟩⟩
      · refine ⟨I9.out.1, Or.inr ⟨q, cap, cur, e, hba, ?_, hn, hc, hs, ht⟩⟩
        have hq : q < w9.heap.size := (Array.getElem?_eq_some_iff.1 hh).1
        have := HKL.out
        rw [hf0.block q hq (by omega) (by omega) (by omega) (Or.inl hq)]
        exact hh
    · intro v hv
      obtain ⟨i, hi, rfl⟩ := List.getElem_of_mem hv
      have hi2 : i < (r.fed [] l1).1.length := by rw [← hF.rows.1]; exact hi
      exact ⟨_, (fun e => by have := r.fed_pos [] l1 _ (List.getElem_mem hi2); rw [e] at this; simp at this), hF.rows.2 i hi hi2⟩
    · exact H9.out.trans ⟨hf0.os, hf0.tape, hf0.output, hf0.size, fun q hq => by
        have := G6.out
        have := H9.out.size
        exact hf0.block q (by omega) (by omega) (by omega) (by omega) (Or.inl (by omega))⟩
    · rw [hF.rows.1]
      have : ([] : List UInt8).length = 0 := rfl
      omega)
  go_wp2_with fail
  with_reducible refine PF.out.mono ?_
  clear PF
  rintro e w10 ⟨ov, pv, B', vs, L', rfl, hall, hlv, hvs⟩
  have HALL := Lib.hid hall
  have LV := Lib.hid hlv
  have HWB : Hid (w.heap.size ≤ w9.heap.size) := Lib.hid H9.out.size
  obtain ⟨oa, oc, rfl, -, -, -⟩ := hlv.out.vals
  generalize (r.fed [] l1).2 = P at *
  generalize (r.fed [] l1).1 = O at *
  clear hall hlv K9 I9 H9
  go_wp2_with fail
  go_loopw [9] (fun iv wr => ∃ i : Nat, i ≤ vs.length ∧ iv = .int .i64 (i : Int) ∧ Hid (LvAt w wr w.heap.size k g b r w9.heap.size B' pv (.slice va l1.length vc) (.slice oa vs.length oc) P l1 vs L' w6.heap.size)) (fun iv _ => vs.length - (intOf iv).toNat)
  case atStart => exact ⟨0, Nat.zero_le _, rfl, LV⟩
  case round =>
    obtain ⟨i, hi, rfl, LV1⟩ := hrel
    clear LV
    have i0 : (0 : Int) ≤ (i : Int) := by omega
    by_cases hlt : i < vs.length
    · have i1 : (i : Int) < (vs.length : Int) := by omega
      have i2 : (i : Int) ≤ 2500 := by omega
      have SM := LV1.out.wr _ (List.getElem_mem hlt)
      obtain ⟨s, hs, hp1, hp2⟩ := SM
      obtain ⟨q, c, hve, -, -, -, -⟩ := hp1.form hs
      have HQ : Hid (∀ wx, LvAt w wx w.heap.size k g b r w9.heap.size B' pv (.slice va l1.length vc) (.slice oa vs.length oc) P l1 vs L' w6.heap.size → (∃ ob oo, oa = some ⟨ob, oo, none⟩ ∧ wx.cell? ⟨ob, oo + i, none⟩ = some (.slice (some ⟨q, 0, none⟩) s.length c)) ∧ ∀ n, n < s.length → (∃ z, wx.cell? ⟨q, n, none⟩ = some z) ∧ wx.frozen? ⟨q, n, none⟩ = false) := Lib.hid (fun wx hx => by
        refine ⟨?_, fun n hn => ?_⟩
        · obtain ⟨ob, oo, e, d⟩ := ((rowV.of hx.out).2.2.1).at i hlt
          exact ⟨ob, oo, e, by rw [d, hve]⟩
        · obtain ⟨s2, hs2, h1, -⟩ := hx.wr _ (List.getElem_mem hlt)
          obtain ⟨q2, c2, hve2, -, -, -, hc⟩ := h1.form hs2
          rw [hve] at hve2
          injection hve2 with e1 e2 e3
          injection e1 with e1
          injection e1 with e1
          subst e1
          exact ⟨⟨_, (hc n (by omega)).1⟩, (hc n (by omega)).2⟩)
      have HWR : Hid (∀ wx n, LvAt w wx w.heap.size k g b r w9.heap.size B' pv (.slice va l1.length vc) (.slice oa vs.length oc) P l1 vs L' w6.heap.size → LvAt w (wx.setCell ⟨q, n, none⟩ (.int .u8 238)) w.heap.size k g b r w9.heap.size B' pv (.slice va l1.length vc) (.slice oa vs.length oc) P l1 vs L' w6.heap.size) := Lib.hid (fun wx n hx => hx.write (hx.wr _ (List.getElem_mem hlt)) q (by rw [hve]; rfl) HKB.out HWB.out n 238)
      have hsl : s.length ≤ 9223372036854775807 := by
        obtain ⟨_, _, e2, e3, -, -⟩ := rowIs.bytes hp1
        rcases hp1.2 with ⟨e4, _⟩ | ⟨_, cap, _, e4, _, _, hn, hc, _, _⟩
        · rw [hve] at e4; cases e4
        · unfold maxLen at hc; omega
      clear hs hp1 hp2 hve
      generalize s.length = sl at *
      obtain ⟨⟨ob, oo, rfl, d0⟩, -⟩ := HQ.out wr LV1.out
      have d0h := Lib.hid d0
      clear d0
      rename World => wo
      go_wp2_with fail
      go_loopw [10] (fun nv wr => ∃ n : Nat, n ≤ sl ∧ nv = .int .i64 (n : Int) ∧ Hid (LvAt w wr w.heap.size k g b r w9.heap.size B' pv (.slice va l1.length vc) (.slice (some ⟨ob, oo, none⟩) vs.length oc) P l1 vs L' w6.heap.size)) (fun nv _ => sl - (intOf nv).toNat)
      case atStart => exact ⟨0, Nat.zero_le _, rfl, LV1⟩
      case round =>
        obtain ⟨n, hn, rfl, LV2⟩ := hrel
        clear LV1 d0h
        have n0 : (0 : Int) ≤ (n : Int) := by omega
        obtain ⟨⟨ob', oo', e1, d0⟩, hcell⟩ := HQ.out wr LV2.out
        cases e1
        have d0 : wr.cell? ⟨ob, oo + i, none⟩ = some (.slice (some ⟨q, 0, none⟩) sl c) := d0
        by_cases hlt2 : n < sl
        · have n1' : (n : Int) < (sl : Int) := by omega
          have n2' : (n : Int) < 9223372036854775807 := by omega
          obtain ⟨⟨z, d1⟩, d2⟩ := hcell n hlt2
          have LV3 := Lib.hid (HWR.out wr n LV2.out)
          clear hcell LV2
          go_wp2_with fail
          go_roundw
          case rel => exact ⟨n + 1, by omega, by go_num, LV3⟩
          case measure => simp [intOf]; omega
        · have n1' : ¬ (n : Int) < (sl : Int) := by omega
          clear hcell
          go_wp2_with fail
          go_roundw
          case rel => exact ⟨i + 1, by omega, by go_num, LV2⟩
          case measure => simp [intOf]; omega
    · obtain rfl : i = vs.length := by omega
      have cv1 := conv_string wr va l1 vc (by
        obtain ⟨a, c, e, -, h, -⟩ := rowIs.bytes LV1.out.inp.1
        cases e
        exact h)
      have cv2 := conv_string wr a1 l1 n1 (I1.out.below LV1.out.low (Nat.le_refl _))
      go_upto_region 16 with fail
      have LW := Lib.hid LV1.out.two
      clear cv1 cv2 LV1
      generalize wr = wx at *
      go_wp2_with fail
      go_loopw [11] (fun iv wr => ∃ (n : Nat) (inl : List UInt8), n ≤ l1.length ∧ inl.length = l1.length ∧ iv = .int .i64 (n : Int) ∧ Hid (Lv2At w wr w.heap.size k g b r w9.heap.size B' pv (.slice va l1.length vc) P inl L' w6.heap.size)) (fun iv _ => l1.length - (intOf iv).toNat)
      case atStart => exact ⟨0, l1, Nat.zero_le _, rfl, rfl, LW⟩
      case round =>
        obtain ⟨n, inl, hn, hil, rfl, LV2⟩ := hrel
        clear LW
        have n0 : (0 : Int) ≤ (n : Int) := by omega
        by_cases hlt3 : n < l1.length
        · have n1' : (n : Int) < (l1.length : Int) := by omega
          have hne : inl ≠ [] := fun e => by rw [e] at hil; simp at hil; omega
          obtain ⟨q, c', e, hq1, hq2, hq3, hc⟩ := LV2.out.inp.1.form hne
          injection e with e1 e2 e3
          subst e1
          subst e3
          obtain ⟨d1, d2⟩ := hc n (by omega)
          have LV3 : Hid (Lv2At w (wr.setCell ⟨q, n, none⟩ (.int .u8 221)) w.heap.size k g b r w9.heap.size B' pv (.slice (some ⟨q, 0, none⟩) l1.length vc) P (inl.set n 221) L' w6.heap.size) := Lib.hid (LV2.out.write HKL.out HW6.out n 221)
          have HIL : Hid ((inl.set n 221).length = l1.length) := Lib.hid (by rw [List.length_set]; exact hil)
          clear hc hq1 hq2 hq3 e2 hne LV2 hil
          go_wp2_with fail
          go_roundw
          case rel => exact ⟨n + 1, _, by omega, HIL.out, by go_num, LV3⟩
          case measure => simp [intOf]; omega
        · have n1' : ¬ (n : Int) < (l1.length : Int) := by omega
          have hB' := LV2.out.lo
          have PE := Lib.hid (end_any k g b w9.heap.size B' r pv L' P wr LV2.out.knife LV2.out.fit LV2.out.piece LV2.out.lo HKB.out.1 HKB.out.2.1 HKB.out.2.2)
          have LL := Lib.hid LV2.out.low
          obtain ⟨pa, pc, rfl, -, -, -⟩ := rowIs.bytes LV2.out.piece
          clear hB' LV2 hil hn hlt3
          go_wp2_with fail
          with_reducible refine PE.out.mono ?_
          clear PE
          rintro e w13 ⟨rfl, hk, hr3, hb3⟩
          have L13 : Hid (Below w.heap.size w w13) := Lib.hid (LL.out.trans ⟨hb3.os, hb3.tape, hb3.output, hb3.size, fun q hq => by
            have := G6.out
            have := LL.out.size
            have := HWB.out
            exact hb3.block q (by omega) (by omega) (by omega) (by omega) (Or.inl (by omega))⟩)
          have PB : Hid (bytesIn w13 pa P) := Lib.hid (by
            obtain ⟨a, c, h1, -, h3, -⟩ := rowIs.bytes hr3
            injection h1 with h1 h2 h4
            rw [h1]; exact h3)
          have HLEN := congrArg List.length HALL.out
          rw [List.length_append] at HLEN
          obtain ⟨T, hT⟩ : ∃ T, T = O.flatten.length := ⟨_, rfl⟩
          rw [← hT] at HLEN
          have HDR : Hid (l1.drop T = P) := Lib.hid (by rw [← HALL.out, hT, List.drop_left])
          have HTL : Hid (T + P.length = l1.length) := Lib.hid HLEN
          have hTl : T ≤ l1.length := by omega
          obtain ⟨A3, hA3, hr4⟩ := run_drop a1 l1.length n1 T hTl e6
          have PA : Hid (bytesIn w13 A3 P) := Lib.hid (by
            have h := (I1.out.below L13.out (Nat.le_refl _)).mid n1 T l1.length hTl (Nat.le_refl _) e6
            rw [← hA3, List.take_length, HDR.out] at h
            exact h)
          have HKT : Hid (l1.length - T = P.length) := Lib.hid (by omega)
          have T0n : (0 : Int) ≤ (T : Int) := by omega
          have T1n : (T : Int) ≤ (l1.length : Int) := by omega
          have HTW : Hid (IntKind.i64.wrap ((l1.length : Int) - (P.length : Int)) = (T : Int)) := Lib.hid (by rw [IntKind.wrap_i64]; omega)
          clear hk hr3 hb3 hT HLEN hTl hA3 LL
          go_upto_region 21 with fail
          refine wp_region_noPanic ?_
          refine wp_region_held_drew (S := fun w' => bytesIn w' pa P ∧ bytesIn w' A3 P) (by kernel_rfl) ⟨PB.out, PA.out⟩ (fun hH => ?_)
          refine wpAnyH_take (i := 0) (oi := { dst := some 80, op := Op.move (Operand.tmp 12), type := 25, pos := "law.go:191", after := #[], guard := none }) (v := .slice pa P.length pc) rfl (by kernel_rfl) (by kernel_rfl) (by kernel_rfl) (fun _ _ _ h => h) (Or.inl ⟨by rfl, fun wx hS => ?_⟩) hH ?_
          · go_simp
          simp only [Act.put, List.setIfInBounds_toArray, List.set_cons_zero, List.set_cons_succ]
          refine wpAnyH_take (i := 1) (oi := { dst := some 81, op := Op.convert 25 9 (Operand.tmp 80), type := 9, pos := "law.go:191", after := #[{ on := 0, ground := Ground.data }], guard := none }) (v := .string (str P)) rfl (by kernel_rfl) (by kernel_rfl) (by kernel_rfl) (fun _ _ _ h => h) (Or.inl ⟨by rfl, fun wx hS => ?_⟩) hH ?_
          · have e1 := conv_string wx pa P pc hS.1; go_simp
          simp only [Act.put, List.setIfInBounds_toArray, List.set_cons_zero, List.set_cons_succ]
          refine wpAnyH_take (i := 2) (oi := { dst := some 82, op := Op.move (Operand.tmp 1), type := 25, pos := "law.go:191", after := #[], guard := none }) (v := .slice a1 l1.length n1) rfl (by kernel_rfl) (by kernel_rfl) (by kernel_rfl) (fun _ _ _ h => h) (Or.inl ⟨by rfl, fun wx hS => ?_⟩) hH ?_
          · go_simp
          simp only [Act.put, List.setIfInBounds_toArray, List.set_cons_zero, List.set_cons_succ]
          refine wpAnyH_take (i := 3) (oi := { dst := some 83, op := Op.move (Operand.tmp 1), type := 25, pos := "law.go:191", after := #[], guard := none }) (v := .slice a1 l1.length n1) rfl (by kernel_rfl) (by kernel_rfl) (by kernel_rfl) (fun _ _ _ h => h) (Or.inl ⟨by rfl, fun wx hS => ?_⟩) hH ?_
          · go_simp
          simp only [Act.put, List.setIfInBounds_toArray, List.set_cons_zero, List.set_cons_succ]
          refine wpAnyH_take (i := 4) (oi := { dst := some 84, op := Op.call { callee := Callee.builtin Builtin.len, args := #[Operand.tmp 83], argTypes := #[25] }, type := 3, pos := "law.go:191", after := #[{ on := 3, ground := Ground.data }], guard := none }) (v := .int .i64 (l1.length : Int)) rfl (by kernel_rfl) (by kernel_rfl) (by kernel_rfl) (fun _ _ _ h => h) (Or.inl ⟨by rfl, fun wx hS => ?_⟩) hH ?_
          · go_simp
          simp only [Act.put, List.setIfInBounds_toArray, List.set_cons_zero, List.set_cons_succ]
          refine wpAnyH_take (i := 5) (oi := { dst := some 85, op := Op.move (Operand.tmp 12), type := 25, pos := "law.go:191", after := #[], guard := none }) (v := .slice pa P.length pc) rfl (by kernel_rfl) (by kernel_rfl) (by kernel_rfl) (fun _ _ _ h => h) (Or.inl ⟨by rfl, fun wx hS => ?_⟩) hH ?_
          · go_simp
          simp only [Act.put, List.setIfInBounds_toArray, List.set_cons_zero, List.set_cons_succ]
          refine wpAnyH_take (i := 6) (oi := { dst := some 86, op := Op.call { callee := Callee.builtin Builtin.len, args := #[Operand.tmp 85], argTypes := #[25] }, type := 3, pos := "law.go:191", after := #[{ on := 5, ground := Ground.data }], guard := none }) (v := .int .i64 (P.length : Int)) rfl (by kernel_rfl) (by kernel_rfl) (by kernel_rfl) (fun _ _ _ h => h) (Or.inl ⟨by rfl, fun wx hS => ?_⟩) hH ?_
          · go_simp
          simp only [Act.put, List.setIfInBounds_toArray, List.set_cons_zero, List.set_cons_succ]
          refine wpAnyH_take (i := 7) (oi := { dst := some 87, op := Op.binOp BinOp.sub 3 (Operand.tmp 84) (Operand.tmp 86) 3, type := 3, pos := "law.go:191", after := #[{ on := 4, ground := Ground.data }, { on := 6, ground := Ground.data }], guard := none }) (v := .int .i64 (T : Int)) rfl (by kernel_rfl) (by kernel_rfl) (by kernel_rfl) (fun _ _ _ h => h) (Or.inl ⟨by rfl, fun wx hS => ?_⟩) hH ?_
          · have e1 := HTW.out; go_simp
          simp only [Act.put, List.setIfInBounds_toArray, List.set_cons_zero, List.set_cons_succ]
          refine wpAnyH_take (i := 8) (oi := { dst := some 88, op := Op.slice 25 (Operand.tmp 82) (some (Operand.tmp 87)) none none, type := 25, pos := "law.go:191", after := #[{ on := 2, ground := Ground.data }, { on := 7, ground := Ground.data }], guard := none }) (v := .slice A3 (l1.length - T) (n1 - T)) rfl (by kernel_rfl) (by kernel_rfl) (by kernel_rfl) (fun _ _ _ h => h) (Or.inl ⟨by rfl, fun wx hS => ?_⟩) hH ?_
          · have e1 := hr4; go_simp
          simp only [Act.put, List.setIfInBounds_toArray, List.set_cons_zero, List.set_cons_succ]
          refine wpAnyH_take (i := 9) (oi := { dst := some 89, op := Op.convert 25 9 (Operand.tmp 88), type := 9, pos := "law.go:191", after := #[{ on := 8, ground := Ground.data }], guard := none }) (v := .string (str P)) rfl (by kernel_rfl) (by kernel_rfl) (by kernel_rfl) (fun _ _ _ h => h) (Or.inl ⟨by rfl, fun wx hS => ?_⟩) hH ?_
          · have e1 := conv_string wx A3 P (n1 - T) hS.2; rw [← HKT.out] at e1; go_simp
          simp only [Act.put, List.setIfInBounds_toArray, List.set_cons_zero, List.set_cons_succ]
          refine wpAnyH_take (i := 10) (oi := { dst := some 90, op := Op.binOp BinOp.eql 9 (Operand.tmp 81) (Operand.tmp 89) 9, type := 4, pos := "law.go:191", after := #[{ on := 1, ground := Ground.data }, { on := 9, ground := Ground.data }], guard := none }) (v := .bool true) rfl (by kernel_rfl) (by kernel_rfl) (by kernel_rfl) (fun _ _ _ h => h) (Or.inl ⟨by rfl, fun wx hS => ?_⟩) hH ?_
          · go_simp
          simp only [Act.put, List.setIfInBounds_toArray, List.set_cons_zero, List.set_cons_succ]
          refine wpAnyH_take (i := 11) (oi := { dst := some 4, op := Op.assign (Operand.tmp 90), type := 4, pos := "law.go:191", after := #[{ on := 10, ground := Ground.data }, { on := 0, ground := Ground.phase }, { on := 1, ground := Ground.phase }, { on := 2, ground := Ground.phase }, { on := 3, ground := Ground.phase }, { on := 4, ground := Ground.phase }, { on := 5, ground := Ground.phase }, { on := 6, ground := Ground.phase }, { on := 7, ground := Ground.phase }, { on := 8, ground := Ground.phase }, { on := 9, ground := Ground.phase }, { on := 10, ground := Ground.phase }], guard := none }) (v := .bool true) rfl (by kernel_rfl) (by kernel_rfl) (by kernel_rfl) (fun _ _ _ h => h) (Or.inl ⟨by rfl, fun wx hS => ?_⟩) hH ?_
          · go_simp
          simp only [Act.put, List.setIfInBounds_toArray, List.set_cons_zero, List.set_cons_succ]
          refine wpAnyH_done (by kernel_rfl) ?_ _
          refine NoPanic.normal ?_
          clear hH
          go_wp2_with fail
          go_ret
          exact ⟨rfl, below_drewN L13.out 1⟩
end Go.Proofs.Ytigknaefdnejfaa
