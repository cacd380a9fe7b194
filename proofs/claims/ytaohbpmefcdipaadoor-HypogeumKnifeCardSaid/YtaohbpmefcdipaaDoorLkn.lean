/- The law HypogeumKnife: its walk. -/
import Derived.Test.YtaohbpmefcdipaaDoorCtKf
import Derived.Test.YtaohbpmefcdipaaDoorStd
import Derived.Test.YtaohbpmefcdipaaDoorEq
import Derived.BigQuiet
import Derived.Deep.DeepCutAuto
import Derived.Great.Walk
namespace Go.Proofs.YtaohbpmefcdipaaDoor
open Go.RowKit Sha

theorem ct_bytes {w : World} {a : Option Addr} {l : List UInt8} (h : Ct.bytesIn w a l) : bytesIn w a l := h
theorem parts_of {w : World} {Wp hi : Nat} {ov : Value} {vs : List Value} {O : List (List UInt8)} (h : Ct.rowV w Wp 22 ov vs) (p : Ct.Pieces w Wp hi vs O) : ∃ a c, ov = .slice a O.length c ∧ O.length ≤ c ∧ partsIn w a O := by
  obtain ⟨a, c, rfl, hc, hv, -⟩ := h.vals
  refine ⟨a, c, by rw [p.1], by rw [← p.1]; exact hc, ?_⟩
  by_cases h0 : O = []
  · exact Or.inl h0
  · have hp : 0 < O.length := List.length_pos_iff.2 h0
    obtain ⟨b, o, ha, -⟩ := hv.at 0 (by rw [p.1]; exact hp)
    refine Or.inr ⟨b, o, ha, fun j hj => ?_⟩
    have hj1 : j < vs.length := by rw [p.1]; exact hj
    obtain ⟨b', o', ha', hd⟩ := hv.at j hj1
    rw [ha] at ha'
    cases ha'
    obtain ⟨h1, -⟩ := p.2 j hj1 hj
    have e : O.getD j [] = O[j] := by simp [hj]
    rw [e]
    obtain ⟨a2, c2, h2, h3, h4, -⟩ := h1.bytes
    refine ⟨a2, c2, by rw [hd, h2], h3, ?_, h4⟩
    rcases h1.2 with ⟨e2, _⟩ | ⟨_, cap, _, e2, _, _, _, hc2, _, _⟩
    · rw [e2] at h2; injection h2 with _ _ h2; omega
    · rw [e2] at h2; injection h2 with _ _ h2; unfold maxLen at hc2; omega
theorem slice_op (a : Act) (o : Oper) (x lo hi : Operand) (ho : o.op = .slice 22 x (some lo) (some hi) none) {vx vlo vhi v : Value} {w : World} (hx : a.eval x = vx) (hlo : a.eval lo = vlo) (hhi : a.eval hi = vhi) (hr : (Instr.slice 22 vx (some vlo) (some vhi) none).run Tryd.prog w = .ok v w) : (execOp a.eval o).run Tryd.prog w = .ok (.value v) w := by
  have h2 : (Instr.sliceAt 22 vx (some vlo) (some vhi) none).run Tryd.prog w = .ok v w := by
    rw [run_sliceAt_slice (h := Ct.slice_bs)]
    exact hr
  unfold execOp
  simp only [ho, hx, hlo, hhi, Option.map_some, Option.map_none, Sem.run_bind, h2, Result.andThen_ok, Sem.run_pure]
theorem below_drewN {B : Nat} {x y : World} (h : Below B x y) (n : Nat) : Below B x (y.drewN n) := ⟨h.os, h.tape, h.output, h.size, h.block⟩
set_option maxRecDepth 100000 in
set_option maxHeartbeats 4000000 in
theorem law_hypogeumKnife (a : Option Addr) (c : Nat) (L : List UInt8) (w : World) (hlc : L.length ≤ c) (hc : c ≤ 140737488355328) (hin : bytesIn w a L) (ht : tables w) :
    Calls Tryd.prog 5 #[.slice a L.length c] w fun e w' => e = .returned (.bool true) ∧ Below w.heap.size w w' := by
  have hc := Nat.le_trans hc (show 140737488355328 ≤ 9223372036854775807 by omega)
  have HT := Lib.hid ht
  have HI : Hid (Ct.bytesIn w a (L.take 2000)) := Lib.hid (Ct.bytesIn.take (show Ct.bytesIn w a L from hin) 2000)
  have e1 : (min (L.length : Int) 2000).toNat = (L.take 2000).length := by rw [List.length_take]; omega
  have e3 : (L.take 2000).length ≤ c := by rw [List.length_take]; omega
  have e4 : (L.take 2000).length ≤ 2000 := by rw [List.length_take]; omega
  clear ht hin
  generalize L.take 2000 = l at *
  go_enter Tryd.func5, Tryd.ntmps5
  go_upto_region 1 with fail
  go_cut [0] (fun s wx => s = .slice a l.length c ∧ w = wx)
  case first =>
    go_wp2_with fail
    go_meet
    case rel => exact ⟨rfl, rfl⟩
  obtain ⟨rfl, rfl⟩ := hcut
  clear e1 hlc
  go_wp2_with fail
  with_reducible refine (Ct.ruletop_any w).mono ?_
  rintro e w1 ⟨rfl, hb⟩
  have H1 := Lib.hid hb
  clear hb
  have PN : Hid (Calls Tryd.prog 17 #[.agg #[.int .i64 64, .int .i64 200, .int .i64 5, .int .u64 17349423945073011]] w1 fun e w' => ∃ k g b, e = .returned (.tuple #[.pointer (some ⟨k, 0, none⟩), .int .i64 0]) ∧ w1.heap.size ≤ k ∧ w1.heap.size ≤ g ∧ w1.heap.size ≤ b ∧ Ct.KnifeAt w' k g b Ct.ruletop (.slice none 0 0) (List.replicate 64 0) ∧ Below w1.heap.size w1 w') := Lib.hid (Ct.cutnew_any Ct.ruletop Ct.ruletop_ok w1)
  go_wp2_with fail
  with_reducible refine PN.out.mono ?_
  clear PN
  rintro e w2 ⟨k, g, b, rfl, hk, hg, hb, hkn, hbe⟩
  have H2 := Lib.hid (H1.out.trans (hbe.mono H1.out.size))
  have G2 : Hid (w.heap.size ≤ k ∧ w.heap.size ≤ g ∧ w.heap.size ≤ b) := Lib.hid ⟨Nat.le_trans H1.out.size hk, Nat.le_trans H1.out.size hg, Nat.le_trans H1.out.size hb⟩
  have K2 := Lib.hid hkn
  clear hk hg hb hkn hbe H1
  have T2 : Hid (tables w2) := Lib.hid (HT.out.below H2.out HT.out.2.2.1 HT.out.2.2.2)
  go_wp2_with fail
  with_reducible refine (stands_any w2 T2.out).mono ?_
  rintro e w3 ⟨rfl, hb⟩
  have H3 := Lib.hid (H2.out.trans (hb.mono H2.out.size))
  have K3 := Lib.hid (K2.out.below hb)
  have HWP : Hid (k < w3.heap.size ∧ g < w3.heap.size ∧ b < w3.heap.size) := Lib.hid ⟨K3.out.kn.lt, K3.out.roll.lt.1, K3.out.roll.lt.2⟩
  have HW3 : Hid (w.heap.size ≤ w3.heap.size) := Lib.hid H3.out.size
  clear hb H2 K2 T2
  have C0 : Hid (Ct.KfAt w w3 w.heap.size k g b Ct.ruletop w3.heap.size (.slice none 0 0) [] [] [] []) := Lib.hid ⟨⟨_, _, w3.heap.size, K3.out, Ct.fitW_new, World.ownsRow_nil _ _ _ _, Nat.le_refl _, Nat.le_refl _, Ct.Pieces.nil _ _ _⟩, rfl, Ct.rowV.nil _ _ _, H3.out⟩
  clear K3 H3
  go_wp2_with fail
  go_loopw [5, 6] (fun ov iv wr => ∃ (i : Nat) (P : List UInt8) (O : List (List UInt8)) (vs : List Value), i ≤ l.length ∧ iv = .int .i64 (i : Int) ∧ Hid (Ct.KfAt w wr w.heap.size k g b Ct.ruletop w3.heap.size ov (l.take i) P O vs)) (fun _ iv _ => l.length - (intOf iv).toNat)
  case atStart => exact ⟨0, _, _, _, Nat.zero_le _, rfl, C0⟩
  case round =>
    obtain ⟨i, P, O, vs, hi, rfl, C1⟩ := hrel
    clear C0
    have i0 : (0 : Int) ≤ (i : Int) := by omega
    by_cases hlt : i < l.length
    · have i1 : (i : Int) < (l.length : Int) := by omega
      have i2 : (i : Int) < 2000 := by omega
      have HL := Lib.hid C1.out.lens
      rcases HI.out with h0 | ⟨bb, bo, rfl, hcell⟩
      · rw [h0] at hlt; simp at hlt
      obtain ⟨m, hm⟩ : ∃ m, m = i + 1 := ⟨_, rfl⟩
      obtain ⟨A2, hA2, hrun⟩ := Ct.run_mid (some ⟨bb, bo, none⟩) l.length c i m (by omega) (by omega) e3
      obtain rfl : A2 = some ⟨bb, bo + i, none⟩ := by rw [hA2, if_neg (by omega)]; show some (Addr.add _ i) = _; rw [Addr.add_lit]
      clear hA2
      rw [show m - i = 1 by omega] at hrun
      have him : (i : Int) + 1 = (m : Int) := by omega
      have HM := Lib.hid hm
      clear hm
      have hbb : bb < w.heap.size := block_lt_of_cell (hcell i hlt)
      have HTK : Hid (l.take (i + 1) = l.take i ++ [l.getD i 0]) := Lib.hid (by rw [List.take_succ_eq_append_getElem hlt]; simp [hlt])
      have hx : Hid (wr.cell? ⟨bb, bo + i, none⟩ = some (.int .u8 (Ct.V (l.getD i 0)))) := Lib.hid ((C1.out.low.cell (p := ⟨bb, bo + i, none⟩) hbb).trans (hcell i hlt))
      have PF : Hid (Calls Tryd.prog 18 #[.pointer (some ⟨k, 0, none⟩), .slice (some ⟨wr.heap.size, 0, none⟩) 1 1] (wr.alloc (.cells #[.slice (some ⟨bb, bo + i, none⟩) 1 (c - i)] 22 (0, 0))) fun e w' => ∃ fv us, e = .returned fv ∧ Ct.rowV w' w3.heap.size 22 u5 vs ∧ Ct.rowV w' w3.heap.size 22 fv us ∧ w3.heap.size ≤ w'.heap.size ∧ vs.length + us.length ≤ 200000 ∧ (∀ u ∈ us, u.oneCell' = true) ∧ ∀ ov2 w2, Ct.rowV w2 w3.heap.size 22 ov2 (vs ++ us) → w'.grownBy w2 u5.ownBlock → Ct.KfAt w w2 w.heap.size k g b Ct.ruletop w3.heap.size ov2 (l.take i ++ [l.getD i 0]) (Ct.ruletop.fed P [l.getD i 0]).2 (O ++ (Ct.ruletop.fed P [l.getD i 0]).1) (vs ++ us)) := Lib.hid (Ct.feedkf C1.out (some ⟨bb, bo + i, none⟩) (c - i) [l.getD i 0] (by show 1 ≤ c - i; omega) (by omega) (fun h => by cases h) (Or.inr ⟨bb, bo + i, rfl, hbb, fun j hj => by
        match j, hj with
        | 0, _ => exact hx.out⟩) G2.out HWP.out HW3.out (by rw [List.length_take]; show _ + 1 ≤ _; omega))
      clear hcell hx
      have him2 : (i : Int) ≤ (m : Int) := by omega
      have him3 : (m : Int) ≤ (l.length : Int) := by omega
      go_wp2_with fail
      with_reducible refine PF.out.mono ?_
      clear PF
      rintro e w4 ⟨fv, us, rfl, hr1, hr2, hw4, hln, hone, hstep⟩
      have HO := Lib.hid hone
      clear hone
      have R1 := Lib.hid hr1
      have R2 := Lib.hid hr2
      have HS := Lib.hid hstep
      have HW4 := Lib.hid hw4
      obtain ⟨fa, fc, rfl, -, -, -⟩ := hr2.vals
      clear hr1 hr2 hstep hw4
      go_wp2_with (at_builtin; refine Ct.append_vals rfl _ _ 49 22 rfl Tryd.underlying49 (.slice none 0 0) 24 Ct.info_bs rfl (by decide) w3.heap.size _ vs rfl R1.out fa us.length fc us rfl rfl (Ct.rowV.of R2.out).2.2.2 (Ct.rowV.of R2.out).2.2.1 HO.out (by omega) HW4.out ?_)
      intro v6 w6 hown hgr
      have C2 := HS.out v6 w6 hown hgr
      rw [← HTK.out] at C2
      have C3 := Lib.hid C2
      obtain ⟨oa, oc, rfl, -, -, -⟩ := Ct.rowV.vals hown
      clear hown hgr C2 HS R1 R2 HO hln
      go_wp2_with fail
      go_roundw
      case rel => exact ⟨m, _, _, _, by have := HM.out; omega, rfl, by rw [HM.out]; exact C3⟩
      case measure => have := HM.out; simp [intOf]; omega
    · obtain rfl : i = l.length := by omega
      rw [List.take_length] at C1
      have HFD := Lib.hid C1.out.fed
      have PE := Lib.hid (Ct.endkf C1.out G2.out HWP.out HW3.out)
      have HLS := Lib.hid C1.out.lens
      clear C1
      go_wp2_with fail
      with_reducible refine PE.out.mono ?_
      clear PE
      rintro e w5 ⟨pv, rfl, hr5, hp5, hl5, hb5, hw5⟩
      have R5 := Lib.hid hr5
      have P5 := Lib.hid hp5
      have L5 := Lib.hid hl5
      have B5 := Lib.hid hb5
      have W5 := Lib.hid hw5
      clear hr5 hp5 hl5 hb5 hw5
      obtain ⟨pa, pc, rfl, -, -, -⟩ := L5.out.bytes
      obtain ⟨oa, oc, rfl, -, -, -⟩ := R5.out.vals
      go_upto_if 48 with fail
      go_cut [5, 8] (fun ov _ wx => ∃ (us : List Value) (N : List (List UInt8)), Hid (Ct.rowV wx w3.heap.size 22 ov us) ∧ Hid (Ct.Pieces wx w3.heap.size wx.heap.size us N) ∧ Hid (N.flatten = l) ∧ Hid (Ct.ruletop.sizes l = N.map List.length) ∧ us.length ≤ 2001 ∧ Hid (Below w.heap.size w wx))
      case first =>
        by_cases hp : P = []
        · subst hp
          have g0 : decide (0 < ([] : List UInt8).length) = false := rfl
          rw [g0]
          have X1 : Hid (O.flatten = l) := Lib.hid (by have := Ct.ruletop.fd_all HFD.out; rwa [List.append_nil] at this)
          have X2 : Hid (Ct.ruletop.sizes l = O.map List.length) := Lib.hid (by have := Ct.ruletop.sizes_fed l; rw [HFD.out] at this; simpa using this)
          have X3 : vs.length ≤ 2001 := by have := HLS.out; omega
          go_wp2_with fail
          go_meet
          case rel => exact ⟨vs, O, R5, P5, X1, X2, X3, B5⟩
        · have hpl : 0 < P.length := List.length_pos_iff.2 hp
          have g0 : decide (0 < P.length) = true := by simpa using hpl
          rw [g0]
          have X1 : Hid ((O ++ [P]).flatten = l) := Lib.hid (by have := Ct.ruletop.fd_all HFD.out; simpa using this)
          have X2 : Hid (Ct.ruletop.sizes l = (O ++ [P]).map List.length) := Lib.hid (by have := Ct.ruletop.sizes_fed l; rw [HFD.out] at this; simpa [hp] using this)
          have X3 : vs.length + 1 ≤ 2001 := by have := HLS.out; omega
          clear hp hpl g0
          have R5a := Lib.hid (R5.out.below ((Below.refl w5.heap.size w5).alloc (Nat.le_refl _) (.cells #[.slice pa P.length pc] 22 (0, 0))) (Nat.le_refl _))
          go_wp2_with (at_builtin; refine Ct.append_vals rfl _ _ 49 22 rfl Tryd.underlying49 (.slice none 0 0) 24 Ct.info_bs rfl (by decide) w3.heap.size _ vs rfl R5a.out (some ⟨w5.heap.size, 0, none⟩) 1 1 [.slice pa P.length pc] rfl rfl (fun h => by cases h) (Ct.vals_one _ _) (fun u hu => by rw [List.mem_singleton.1 hu]; rfl) (by show vs.length + 1 ≤ _; omega) (Nat.le_trans W5.out (by simp)) ?_)
          intro v6 w6 hown hgr
          have hgr : (w5.alloc (.cells #[.slice pa P.length pc] 22 (0, 0))).grownBy w6 (Value.slice oa vs.length oc).ownBlock := hgr
          have hbl : Below w3.heap.size w5 w6 := ((Below.refl w3.heap.size w5).alloc W5.out _).trans (R5a.out.grew (Nat.le_trans W5.out (by simp)) hgr)
          have hz : w5.heap.size ≤ w6.heap.size := hbl.size
          have move : ∀ v s lo, Ct.rowIs w5 lo v s → Ct.rowIs w6 lo v s := fun v s lo h => Ct.rowV.is ((h.v.below ((Below.refl w5.heap.size w5).alloc (Nat.le_refl _) (.cells #[.slice pa P.length pc] 22 (0, 0))) (Nat.le_refl _)).apart R5a.out (by decide) hgr)
          have P6 : Hid (Ct.Pieces w6 w3.heap.size w6.heap.size (vs ++ [.slice pa P.length pc]) (O ++ [P])) := Lib.hid ((P5.out.map (fun v s h => ⟨move _ _ _ h.1, fun q hq => Nat.lt_of_lt_of_le (h.2 q hq) hz⟩)).snoc ⟨move _ _ _ L5.out, fun q hq => Nat.lt_of_lt_of_le (World.ownsRow.lt L5.out q hq).2 hz⟩)
          have B6 := Lib.hid (B5.out.trans (hbl.mono HW3.out))
          have R6 := Lib.hid hown
          clear hgr hbl hz move hown
          go_wp2_with fail
          go_meet
          case rel => exact ⟨_, _, R6, P6, X1, X2, by rw [List.length_append]; exact X3, B6⟩
      obtain ⟨us, N, R7, P7, X1, X2, X3, B7⟩ := hcut
      clear R5 P5 L5 B5 W5 HFD HLS
      obtain ⟨ua, uc, rfl, -, -, -⟩ := R7.out.vals
      go_wp2_with fail
      with_reducible refine (Ct.ruletop_any _).mono ?_
      rintro e w8 ⟨rfl, hb⟩
      have R8 := Lib.hid (R7.out.below hb (Nat.le_refl _))
      have P8 : Hid (Ct.Pieces w8 w3.heap.size w8.heap.size us N) := Lib.hid (P7.out.map (fun v s h => h.belowB hb (Nat.le_refl _) hb.size))
      have B8 := Lib.hid (B7.out.trans (hb.mono B7.out.size))
      clear hb R7 P7 B7
      have PS : Hid (Calls Tryd.prog 13 #[.agg #[.int .i64 64, .int .i64 200, .int .i64 5, .int .u64 17349423945073011], .slice a l.length c] w8 fun e w' => ∃ v, e = .returned (.tuple #[v, .int .i64 0]) ∧ Ct.rowV w' w8.heap.size 3 v (Ct.ivals (Ct.ruletop.sizes l)) ∧ Below w8.heap.size w8 w') := Lib.hid (Ct.sizes_any Ct.ruletop Ct.ruletop_ok a l c w8 e3 (by omega) (HI.out.below B8.out (Nat.le_refl _)))
      go_wp2_with fail
      with_reducible refine PS.out.mono ?_
      clear PS
      rintro e w9 ⟨v, rfl, hrow, hb⟩
      have R9 := Lib.hid (R8.out.below hb (Nat.le_refl _))
      have P9 : Hid (Ct.Pieces w9 w3.heap.size w9.heap.size us N) := Lib.hid (P8.out.map (fun v s h => h.belowB hb (Nat.le_refl _) hb.size))
      have B9 := Lib.hid (B8.out.trans (hb.mono B8.out.size))
      have HUN : Hid (us.length = N.length) := Lib.hid P8.out.1
      rw [X2.out] at hrow
      obtain ⟨xa, xc, rfl, -, -, -⟩ := hrow.vals
      have S9 := Lib.hid (Ct.rowV.mono hrow (Nat.zero_le _))
      have eL : (Ct.ivals (N.map List.length)).length = us.length := by rw [Ct.ivals_length, List.length_map, HUN.out]
      rw [eL] at S9 ⊢
      clear eL hb hrow R8 P8 B8
      have u0 : (0 : Int) ≤ (us.length : Int) := by omega
      have u1 : (us.length : Int) ≤ 2001 := by omega
      go_wp2_with fail
      go_loopw [10] (fun iv wr => ∃ i : Nat, i ≤ us.length ∧ iv = .int .i64 (i : Int) ∧ Hid (Ct.rowV wr w3.heap.size 22 (.slice ua us.length uc) us) ∧ Hid (Ct.Pieces wr w3.heap.size wr.heap.size us N) ∧ Hid (Ct.rowV wr 0 3 (.slice xa us.length xc) (Ct.ivals (N.map List.length))) ∧ Hid (Below w.heap.size w wr)) (fun iv _ => us.length - (intOf iv).toNat)
      case atStart => exact ⟨0, Nat.zero_le _, rfl, R9, P9, S9, B9⟩
      case round =>
        obtain ⟨i, hi, rfl, R1, P1, S1, B1⟩ := hrel
        clear R9 P9 S9 B9
        have i0 : (0 : Int) ≤ (i : Int) := by omega
        by_cases hlt : i < us.length
        · have i1 : (i : Int) < (us.length : Int) := by omega
          have hN : i < N.length := by rw [← HUN.out]; exact hlt
          have hS : i < (Ct.ivals (N.map List.length)).length := by rw [Ct.ivals_length, List.length_map]; exact hN
          obtain ⟨ob, oo, rfl, d1⟩ := ((Ct.rowV.of R1.out).2.2.1).at i hlt
          obtain ⟨qa, qc, hve, -, -, -⟩ := (P1.out.2 i hlt hN).1.bytes
          rw [hve] at d1
          obtain ⟨xb, xo, rfl, d2⟩ := ((Ct.rowV.of S1.out).2.2.1).at i hS
          have e1 : (Ct.ivals (N.map List.length))[i]'hS = .int .i64 ((N[i]).length : Int) := by simp [Ct.ivals, hN]
          rw [e1] at d2
          clear e1 hve hS
          generalize N[i] = s at *
          go_wp2_with fail
          go_quiet (fail)
          go_wp2_with fail
          go_roundw
          case rel => exact ⟨i + 1, by omega, by go_num, R1, P1, S1, Lib.hid (below_drewN B1.out _)⟩
          case measure => simp [intOf]; omega
        · have i1 : ¬ (i : Int) < (us.length : Int) := by omega
          have T1 : Hid (tables wr) := Lib.hid (HT.out.below B1.out HT.out.2.2.1 HT.out.2.2.2)
          obtain ⟨ya, yc, hye, hyl, hyp⟩ := parts_of R1.out P1.out
          injection hye with h1 h2 h3
          subst h1
          subst h3
          have PO := Lib.hid (of_any uc ua N wr (by have := HUN.out; omega) hyl (by rw [X1.out]; omega) T1.out hyp)
          rw [X1.out] at PO
          rw [HUN.out]
          have i2 : ¬ (i : Int) < (N.length : Int) := by rw [← HUN.out]; exact i1
          clear h2 hyl hyp i1 hi
          go_wp2_with fail
          with_reducible refine PO.out.mono ?_
          clear PO
          rintro e w11 ⟨rfl, hb⟩
          have B11 := Lib.hid (B1.out.trans (hb.mono B1.out.size))
          have T11 : Hid (tables w11) := Lib.hid (HT.out.below B11.out HT.out.2.2.1 HT.out.2.2.2)
          have B12 := Lib.hid (B11.out.alloc B11.out.size (.cells #[.slice a l.length c] 22 (0, 0)))
          have hp2 : partsIn (w11.alloc (.cells #[.slice a l.length c] 22 (0, 0))) (some ⟨w11.heap.size, 0, none⟩) [l] := by
            refine Or.inr ⟨_, _, rfl, fun j hj => ?_⟩
            match j, hj with
            | 0, _ => exact ⟨a, c, by rw [World.cell?_alloc_at _ _ _ _ rfl]; rfl, e3, hc, ct_bytes (HI.out.below B12.out (Nat.le_refl _))⟩
          have PO2 := of_any 1 (some ⟨w11.heap.size, 0, none⟩) [l] (w11.alloc (.cells #[.slice a l.length c] 22 (0, 0))) (by simp) (by simp) (by simp; omega) (HT.out.below B12.out HT.out.2.2.1 HT.out.2.2.2) hp2
          rw [show [l].flatten = l by simp, show [l].length = 1 from rfl] at PO2
          have PO2 := Lib.hid PO2
          clear hb hp2 R1 P1 S1 B1
          have hq1 := eql_sums (sha l) (sha_length _)
          have hgt := egt28
          go_wp2_with fail
          with_reducible refine PO2.out.mono ?_
          clear PO2
          rintro e w13 ⟨rfl, hb⟩
          have B13 := Lib.hid (B12.out.trans (hb.mono B12.out.size))
          clear hb
          go_wp2_with fail
          go_ret
          exact ⟨rfl, B13.out⟩
end Go.Proofs.YtaohbpmefcdipaaDoor
