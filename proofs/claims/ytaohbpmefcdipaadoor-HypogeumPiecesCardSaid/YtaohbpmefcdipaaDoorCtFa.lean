/- The contract of Feed. -/
import Derived.Test.YtaohbpmefcdipaaDoorCtFd
import Derived.StillTailTactics
import Derived.Deep.RegionLaw
import Derived.Deep.RegionHeld3
import Derived.Lib.SmallJoins
import Derived.Deep.DeepCutAuto
namespace Go.Proofs.YtaohbpmefcdipaaDoor.Ct
open Go.RowKit

theorem info_bs : (Tryd.prog.info? 22).map (fun i => (i.zero, i.size, i.bytes)) = some (some (.slice none 0 0), 1, 24) := by kernel_rfl
theorem parts_next (pts : List Pc) (j : Nat) (h : j < pts.length) : ((pts.take (j + 1)).map Pc.l).flatten = ((pts.take j).map Pc.l).flatten ++ (pts[j]).l := by
  rw [List.take_succ_eq_append_getElem h, List.map_append, List.flatten_append]
  simp
theorem parts_le (pts : List Pc) (j : Nat) : ((pts.take j).map Pc.l).flatten.length ≤ (pts.map Pc.l).flatten.length := by
  conv => rhs; rw [← List.take_append_drop j pts, List.map_append, List.flatten_append, List.length_append]
  omega
theorem KnifeAt.put {w : World} {k g b : Nat} {r : Rl} {pv : Value} {L : List UInt8} (h : KnifeAt w k g b r pv L) (v : Value) : KnifeAt (w.setCell ⟨k, 5, none⟩ v) k g b r v L := by
  obtain ⟨ld, p, rg, hr⟩ := h.roll
  exact ⟨h.ok, h.kn.set 5 v, ⟨ld, p, rg, hr.hm, hr.ne, hr.cells.other ⟨k, 5, none⟩ v (Ne.symm h.kg), hr.bytes.other ⟨k, 5, none⟩ v (Ne.symm h.kb), hr.len, hr.lt, hr.win, hr.lead_, hr.short⟩, h.kg, h.kb⟩
theorem bytesFar.belowB {w w' : World} {k g b B B' : Nat} {a : Option Addr} {l : List UInt8} (h : bytesFar w k g b B a l) (hb : Below B' w w') (hB : B ≤ B') : bytesFar w' k g b B a l := by
  rcases h with h | ⟨bb, bo, h1, h2, h3, h4, h5, h6⟩
  · exact Or.inl h
  · exact Or.inr ⟨bb, bo, h1, h2, h3, h4, h5, fun j hj => (hb.cell (p := ⟨bb, bo + j, none⟩) (Nat.lt_of_lt_of_le h5 hB)).trans (h6 j hj)⟩
theorem slice_bs : Tryd.prog.underlying 22 = some (.slice (Tryd.prog.elem 22)) := by kernel_rfl
theorem sz_bs (w : World) : (sizeOf (Tryd.prog.elem 22)).run Tryd.prog w = .ok 1 w := by kernel_rfl
theorem run_drop (a : Option Addr) (n c i : Nat) (hi : i ≤ n) (hc : n ≤ c) : ∃ A, A = (if c = i then a else a.map (fun x => x.add i)) ∧ ∀ w, (Instr.slice 22 (.slice a n c) (some (.int .i64 (i : Int))) none none).run Tryd.prog w = .ok (.slice A (n - i) (c - i)) w := by
  refine ⟨_, rfl, fun w => ?_⟩
  rw [run_slice_l w 22 a n c slice_bs .i64 (i : Int) (by omega) (by omega), sz_bs]
  show Result.ok (sliced a (i : Int).toNat n c 1) w = _
  rw [Int.toNat_natCast]
  unfold sliced
  rw [Nat.mul_one]
theorem grown_drew {w w' : World} {o : Option Nat} (h : w.drew.grownBy w' o) : w.grownBy w' o := ⟨h.os, h.tape, h.output, h.size, h.block⟩
theorem rowV.set {w : World} {base : Nat} {e : TypeId} {v : Value} {xs : List Value} (h : rowV w base e v xs) {a : Addr} (ha : a.block < base) (u : Value) : rowV (w.setCell a u) base e v xs := ownsRow_setCell_below h ha u
theorem blockIs.ne {w : World} {q q' : Nat} {cs cs' : List Value} {t t' : TypeId} (h : blockIs w q cs t) (h' : blockIs w q' cs' t') (ht : t ≠ t') : q ≠ q' := fun e => by
  subst e
  unfold blockIs at h h'
  rw [h] at h'
  injection h' with h'
  injection h' with _ h' _
  exact ht h'
theorem KnifeAt.apart {w : World} {k g b q : Nat} {r : Rl} {pv : Value} {L : List UInt8} {cs : List Value} {t : TypeId} (h : KnifeAt w k g b r pv L) (hq : blockIs w q cs t) (h1 : t ≠ 84) (h2 : t ≠ 111) (h3 : t ≠ 5) : q ≠ k ∧ q ≠ g ∧ q ≠ b := by
  obtain ⟨ld, p, rg, hr⟩ := h.roll
  exact ⟨hq.ne h.kn h1, hq.ne hr.cells h2, hq.ne hr.bytes h3⟩
set_option maxRecDepth 100000 in
set_option maxHeartbeats 4000000 in
theorem feed_any (k g b : Nat) (r : Rl) (B Bp : Nat) (pv : Value) (L P : List UInt8) (pts : List Pc) (pb : Nat) (w : World) (h : KnifeAt w k g b r pv L) (hf : fitW L P) (hr : rowIs w Bp pv P) (hB : B ≤ Bp) (hBp : Bp ≤ w.heap.size) (hk : k < B) (hg : g < B) (hb : b < B)
    (hp : blockIs w pb (pts.map Pc.val) 22) (hfar : ∀ p ∈ pts, p.far w k g b B) (hlen : P.length + ((pts.map Pc.l).flatten).length ≤ 100000) (hn : pts.length ≤ 10) :
    Calls Tryd.prog 18 #[.pointer (some ⟨k, 0, none⟩), .slice (some ⟨pb, 0, none⟩) pts.length pts.length] w fun e w' => ∃ ov pv' B' vs L', e = .returned ov ∧ FedAt w w' k g b r B B' pv' ov (r.fed P (pts.map Pc.l).flatten).2 vs (r.fed P (pts.map Pc.l).flatten).1 L' := by
  have F0 : Hid (FedAt w w k g b r B Bp pv (.slice none 0 0) P [] [] L) := Lib.hid ⟨h, hf, hr, hB, hBp, rowV.nil _ _ _, Pieces.nil _ _ _, ButF.refl _ _ _ _ _⟩
  have HPN := Lib.hid (h.apart hp (by decide) (by decide) (by decide))
  have HP := Lib.hid hp
  have HF := Lib.hid hfar
  have HBW : Hid (B ≤ w.heap.size) := Lib.hid (Nat.le_trans hB hBp)
  have HKB := Lib.hid (show k < B ∧ g < B ∧ b < B from ⟨hk, hg, hb⟩)
  have HLN := Lib.hid hlen
  clear h hf hr hB hBp hk hg hb hp hfar hlen
  go_enter Tryd.func18, Tryd.ntmps18
  go_wp2_with fail
  go_loopw [5, 14] (fun ov i wr => ∃ (j : Nat) (pv' : Value) (B' : Nat) (P' : List UInt8) (vs : List Value) (O : List (List UInt8)) (L' : List UInt8), j ≤ pts.length ∧ i = .int .i64 (j : Int) ∧ Hid (r.fed P ((pts.take j).map Pc.l).flatten = (O, P')) ∧ Hid (FedAt w wr k g b r B B' pv' ov P' vs O L')) (fun _ i _ => pts.length - (intOf i).toNat)
  case atStart => exact ⟨0, pv, Bp, P, [], [], L, Nat.zero_le _, rfl, Lib.hid rfl, F0⟩
  case round =>
    obtain ⟨j, pv1, B1, P1, vs1, O1, L1, hj, rfl, E1, F1⟩ := hrel
    clear F0
    have p0 : 0 ≤ (j : Int) := by omega
    by_cases hlt : j < pts.length
    · have q0 : (j : Int) < (pts.length : Int) := by omega
      have d0 : wr.cell? ⟨pb, j, none⟩ = some (pts[j]).val := by
        rw [(F1.out.kept.is HP.out HPN.out.1 HPN.out.2.1 HPN.out.2.2 (Or.inr (by decide))).cell]
        simp [hlt]
      have HQ : Hid ((pts[j]).far w k g b B) := Lib.hid (HF.out _ (List.getElem_mem hlt))
      have HT := Lib.hid (parts_next pts j hlt)
      have HTL := Lib.hid (parts_le pts (j + 1))
      generalize pts[j] = p at *
      obtain ⟨pa, pc, pl⟩ := p
      have e0 : (Pc.mk pa pc pl).val = .slice pa pl.length pc := rfl
      rw [e0] at d0
      clear e0
      rename World => wo
      generalize hD0 : ((pts.take j).map Pc.l).flatten = D0 at *
      clear hD0
      obtain ⟨q1, q2, q3, q4⟩ := HQ.out
      have HF0 : Hid (bytesFar wo k g b B pa pl) := Lib.hid (bytesFar.kept q4 F1.out.kept)
      have HZ0 : Hid (pa = none → pc = 0) := Lib.hid q3
      have q1 : pl.length ≤ pc := q1
      have q2 : pc ≤ 9223372036854775807 := q2
      clear q3 q4 HQ
      go_wp2_with fail
      go_loopw [5, 7] (fun ov bv wr => ∃ (a2 : Option Addr) (l2 : List UInt8) (c2 : Nat) (D : List UInt8) (pv' : Value) (B' : Nat) (P' : List UInt8) (vs : List Value) (O : List (List UInt8)) (L' : List UInt8), bv = .slice a2 l2.length c2 ∧ l2.length ≤ c2 ∧ c2 ≤ 9223372036854775807 ∧ Hid (a2 = none → c2 = 0) ∧ Hid (D ++ l2 = D0 ++ pl) ∧ Hid (bytesFar wr k g b B a2 l2) ∧ Hid (r.fed P D = (O, P')) ∧ Hid (FedAt w wr k g b r B B' pv' ov P' vs O L')) (fun _ bv _ => lenOf bv)
      case atStart => exact ⟨pa, pl, pc, D0, pv1, B1, P1, vs1, O1, L1, rfl, q1, q2, HZ0, Lib.hid rfl, HF0, E1, F1⟩
      case round =>
        obtain ⟨a2, l2, c2, D, pv2, B2, P2, vs2, O2, L2, rfl, i1, i2, HZ2, HD2, HF2, E2, F2⟩ := hrel
        clear E1 F1 HF0 HZ0 d0
        by_cases h0 : l2 = []
        · subst h0
          rw [List.append_nil] at HD2
          go_wp2_with fail
          go_roundw
          case rel => exact ⟨j + 1, pv2, B2, P2, vs2, O2, L2, by omega, by go_num, Lib.hid (by rw [HT.out, ← HD2.out]; exact E2.out), F2⟩
          case measure => simp [intOf]; omega
        · have h1 : 0 < l2.length := List.length_pos_iff.2 h0
          have h2 : (0 : Int) < (l2.length : Int) := by omega
          obtain ⟨va, vc, rfl, hpc, hpin, hpz⟩ := F2.out.piece.bytes
          obtain ⟨-, -, -, -, -, c5⟩ := kn_cells F2.out.knife.kn
          have HBD : Hid (P.length + (D.length + l2.length) ≤ 100000) := Lib.hid (by
            have x1 := congrArg List.length HD2.out
            rw [List.length_append] at x1
            have x2 := HTL.out
            rw [HT.out] at x2
            have := HLN.out
            omega)
          have HPL : Hid (O2.length + P2.length ≤ 100000) := Lib.hid (by
            have x1 := r.fed_len P D
            rw [E2.out] at x1
            have x2 : O2.length + P2.length ≤ P.length + D.length := x1
            have := HBD.out
            omega)
          obtain ⟨n1, n2, n3⟩ := r.fed_step P2 l2 h0
          have HN := Lib.hid n3
          clear hpc hpin hpz n3 HLN HTL
          go_wp2_with fail
          with_reducible refine (reach_any k g b r _ L2 P2 a2 l2 c2 wr F2.out.knife F2.out.fit i1 (by have := HBD.out; omega) (by have := HPL.out; omega) HF2.out.off).mono ?_
          rintro e w2 ⟨rfl, L3, hk2, hf2, hb2⟩
          have K3 := Lib.hid hk2
          have T3 := Lib.hid hf2
          have R3 : Hid (rowIs w2 B2 (.slice va P2.length vc) P2) := Lib.hid (rowV.is (F2.out.piece.v.kept hb2 (Nat.lt_of_lt_of_le HKB.out.2.1 F2.out.lo) (Nat.lt_of_lt_of_le HKB.out.2.2 F2.out.lo)))
          have V3 := Lib.hid (F2.out.out.kept hb2 (Nat.lt_of_lt_of_le HKB.out.2.1 HBW.out) (Nat.lt_of_lt_of_le HKB.out.2.2 HBW.out))
          have S3 : Hid (Pieces w2 B B2 vs2 O2) := Lib.hid (F2.out.rows.map (fun v s h => ⟨rowV.is (h.1.v.kept hb2 HKB.out.2.1 HKB.out.2.2), h.2⟩))
          have M3 : Hid (ButF k g b B wr w2) := Lib.hid (ButF.of_but2 hb2)
          have HS3 : Hid (B2 ≤ w2.heap.size) := Lib.hid (Nat.le_trans F2.out.hi hb2.size)
          have HF3 := Lib.hid (HF2.out.kept M3.out)
          have N3 := Lib.hid (F2.out.kept.trans M3.out)
          have HLO := Lib.hid F2.out.lo
          clear hk2 hf2 hb2 M3 HF2 F2 c5
          generalize (r.reach P2 l2).1 = n at *
          generalize (r.reach P2 l2).2 = qq at *
          obtain ⟨-, -, -, -, -, c5⟩ := kn_cells K3.out.kn
          have f5 := K3.out.kn.free 5
          have i3 : (0 : Int) ≤ (n : Int) := by omega
          have i4 : (n : Int) ≤ (l2.length : Int) := by omega
          have i5 : (n : Int) ≤ (c2 : Int) := by omega
          have HNT : Hid (n = (l2.take n).length) := Lib.hid (by rw [List.length_take]; omega)
          go_upto_region 9 with fail
          go_region_law
            (first
            | (refine step_append_bytes rfl _ _ rfl B2 _ P2 rfl ?_ a2 n c2 (l2.take n) ?_ rfl HZ2.out ?_ ?_ ?_ ?_
               · exact R3.out
               · exact HNT.out
               · exact HF3.out.into.take n
               · have := HPL.out; have := HBD.out; have := HNT.out; omega
               · exact HS3.out
               intro v4 w4 hown hgr
               obtain ⟨va4, vc4, rfl, hle4, hin4, hz4⟩ := rowIs.bytes hown
               have hgr := grown_drew hgr
               have hgr : w2.grownBy w4 (Value.slice va P2.length vc).ownBlock := hgr
               have hbl : Below B2 w2 w4 := rowIs.grew R3.out HS3.out hgr
               have K4 := Lib.hid (K3.out.belowB hbl (Nat.lt_of_lt_of_le HKB.out.1 HLO.out) (Nat.lt_of_lt_of_le HKB.out.2.1 HLO.out) (Nat.lt_of_lt_of_le HKB.out.2.2 HLO.out))
               obtain ⟨-, -, -, -, -, d5⟩ := kn_cells K4.out.kn
               have g5 := K4.out.kn.free 5
               clear hle4 hin4 hz4))
          have e9 : (P2 ++ l2.take n).length = P2.length + n := by rw [List.length_append, ← HNT.out]
          rw [e9] at hown
          have HK2 : Hid (k < B2) := Lib.hid (Nat.lt_of_lt_of_le HKB.out.1 HLO.out)
          have HK1 : Hid (k < w.heap.size) := Lib.hid (Nat.lt_of_lt_of_le HKB.out.1 HBW.out)
          have K5 := Lib.hid (K4.out.put (.slice va4 (P2.length + n) vc4))
          have R5 := Lib.hid (rowV.is (rowV.set (a := ⟨k, 5, none⟩) (rowIs.v hown) HK2.out (.slice va4 (P2.length + n) vc4)))
          have V5 := Lib.hid (rowV.set (a := ⟨k, 5, none⟩) (V3.out.apart R3.out.v (by decide) hgr) HK1.out (.slice va4 (P2.length + n) vc4))
          have S5 : Hid (Pieces (w4.setCell ⟨k, 5, none⟩ (.slice va4 (P2.length + n) vc4)) B B2 vs2 O2) := Lib.hid (S3.out.map (fun v s h => by
            have h2 := h.belowB hbl (Nat.le_refl _) (Nat.le_refl _)
            exact ⟨rowV.is (rowV.set (a := ⟨k, 5, none⟩) h2.1.v HKB.out.1 _), h2.2⟩))
          have N5 := Lib.hid ((N3.out.trans (ButF.bytes R3.out HLO.out hgr)).setCell 5 (.slice va4 (P2.length + n) vc4))
          have HF5 := Lib.hid (HF3.out.kept ((ButF.bytes (k := k) (g := g) (b := b) R3.out HLO.out hgr).setCell 5 (.slice va4 (P2.length + n) vc4)))
          have HS5 : Hid (B2 ≤ (w4.setCell ⟨k, 5, none⟩ (.slice va4 (P2.length + n) vc4)).heap.size) := Lib.hid (by simpa [World.setCell] using Nat.le_trans HS3.out hgr.size)
          have FT5 : Hid (fitW L3 (P2 ++ l2.take n)) := T3
          have HWS : Hid (w.heap.size ≤ (w4.setCell ⟨k, 5, none⟩ (.slice va4 (P2.length + n) vc4)).heap.size) := Lib.hid N5.out.size
          clear hown hgr hbl K4 d5 g5 K3 R3 V3 S3 HF3 N3 HS3 T3 c5 f5
          generalize w4.setCell ⟨k, 5, none⟩ (.slice va4 (P2.length + n) vc4) = w5 at *
          have HQ9 := Lib.hid e9
          clear e9
          obtain ⟨-, -, -, -, -, c5⟩ := kn_cells K5.out.kn
          have f5 := K5.out.kn.free 5
          have HDN : Hid ((D ++ l2.take n) ++ l2.drop n = D0 ++ pl) := Lib.hid (by rw [List.append_assoc, List.take_append_drop]; exact HD2.out)
          have hdl : (l2.drop n).length = l2.length - n := List.length_drop
          obtain ⟨A7, hA7, hrun⟩ := run_drop a2 l2.length c2 n n2 i1
          have HFD := HF5.out.drop c2 n i1
          rw [← hA7] at HFD
          have HFD := Lib.hid HFD
          have HZD : Hid (A7 = none → c2 - n = 0) := Lib.hid (fun h => by
            by_cases hcn : c2 = n
            · omega
            · rw [hA7, if_neg hcn] at h
              cases a2 with
              | none => rw [HZ2.out rfl]; omega
              | some _ => cases h)
          clear hA7
          cases qq with
          | false =>
            have E5 : Hid (r.fed P (D ++ l2.take n) = (O2, P2 ++ l2.take n)) := Lib.hid (by
              have := r.fed_more E2.out (O' := []) (P' := P2 ++ l2.take n) (by rw [HN.out]; rfl)
              rwa [List.append_nil] at this)
            clear HNT
            go_wp2_with fail
            go_roundw
            case rel => exact ⟨_, l2.drop n, c2 - n, D ++ l2.take n, _, B2, P2 ++ l2.take n, vs2, O2, L3, by rw [hdl], by omega, by omega, HZD, HDN, HFD, E5, Lib.hid ⟨K5.out, FT5.out, R5.out, HLO.out, HS5.out, V5.out, S5.out, N5.out⟩⟩
            case measure => simp [lenOf]; omega
          | true =>
            have E5 : Hid (r.fed P (D ++ l2.take n) = (O2 ++ [P2 ++ l2.take n], [])) := Lib.hid (r.fed_more E2.out (by rw [HN.out]; rfl))
            have HVL : Hid (vs2.length ≤ 100000) := Lib.hid (by rw [S5.out.1]; have := HPL.out; omega)
            go_wp2_with (at_builtin; refine append_vals rfl _ _ 49 22 rfl Tryd.underlying49 (.slice none 0 0) 24 info_bs rfl (by decide) w.heap.size _ vs2 rfl (V5.out.below ((Below.refl _ _).alloc (Nat.le_refl _) _) (Nat.le_refl _)) (some ⟨w5.heap.size, 0, none⟩) 1 1 [.slice va4 (P2.length + n) vc4] rfl rfl (fun h => by cases h) (vals_one _ _) (fun u hu => by rw [List.mem_singleton.1 hu]; rfl) (by have := HVL.out; simp; omega) (Nat.le_trans HWS.out (by simp)) ?_)
            intro v6 w6 hown hgr
            have V5a := V5.out.below ((Below.refl w5.heap.size w5).alloc (Nat.le_refl _) (.cells #[.slice va4 (P2.length + n) vc4] 22 (0, 0))) (Nat.le_refl _)
            have hgr : (w5.alloc (.cells #[.slice va4 (P2.length + n) vc4] 22 (0, 0))).grownBy w6 u5.ownBlock := hgr
            have hbl : Below w.heap.size w5 w6 := ((Below.refl w.heap.size w5).alloc HWS.out _).trans (V5a.grew (Nat.le_trans HWS.out (by simp)) hgr)
            have K6 := Lib.hid (K5.out.belowB hbl HK1.out (Nat.lt_of_lt_of_le HKB.out.2.1 HBW.out) (Nat.lt_of_lt_of_le HKB.out.2.2 HBW.out))
            have HZ6 : Hid (w5.heap.size ≤ w6.heap.size) := Lib.hid (Nat.le_trans (by simp) hgr.size)
            have move : ∀ v s lo, rowIs w5 lo v s → rowIs w6 lo v s := fun v s lo h => rowV.is ((h.v.below ((Below.refl w5.heap.size w5).alloc (Nat.le_refl _) (.cells #[.slice va4 (P2.length + n) vc4] 22 (0, 0))) (Nat.le_refl _)).apart V5a (by decide) hgr)
            have S6 : Hid (Pieces w6 B w6.heap.size (vs2 ++ [.slice va4 (P2.length + n) vc4]) (O2 ++ [P2 ++ l2.take n])) := Lib.hid (by
              refine (S5.out.map (fun v s h => ⟨move _ _ _ h.1, fun q hq => ?_⟩)).snoc ⟨move _ _ _ (rowIs.mono R5.out HLO.out), fun q hq => ?_⟩
              · have := (World.ownsRow.lt h.1 q hq).2
                have := HZ6.out
                omega
              · have := (World.ownsRow.lt R5.out q hq).2
                have := HZ6.out
                omega)
            have N6 := Lib.hid (ButF.vals (N5.out.alloc (.cells #[.slice va4 (P2.length + n) vc4] 22 (0, 0))) V5a hgr)
            have HF6 := Lib.hid (HFD.out.belowB hbl HBW.out)
            have hown : rowV w6 w.heap.size 22 v6 (vs2 ++ [.slice va4 (P2.length + n) vc4]) := hown
            have V6 := Lib.hid hown
            have HW6 : Hid (w.heap.size ≤ w6.heap.size) := Lib.hid (Nat.le_trans HWS.out HZ6.out)
            clear move hbl V5a hown hgr K5 R5 V5 S5 N5 HF5 HFD c5 f5 HNT HWS
            obtain ⟨-, -, -, -, -, c5⟩ := kn_cells K6.out.kn
            have f5 := K6.out.kn.free 5
            obtain ⟨ova, ovn, ovc, rfl⟩ : ∃ ova ovn ovc, v6 = .slice ova ovn ovc := by
              obtain ⟨a, c, h, -⟩ := V6.out.vals
              exact ⟨a, _, c, h⟩
            have K7 := Lib.hid (K6.out.put (.slice none 0 0))
            have V7 := Lib.hid (V6.out.set (a := ⟨k, 5, none⟩) HK1.out (.slice none 0 0))
            have S7 : Hid (Pieces (w6.setCell ⟨k, 5, none⟩ (.slice none 0 0)) B (w6.setCell ⟨k, 5, none⟩ (.slice none 0 0)).heap.size (vs2 ++ [.slice va4 (P2.length + n) vc4]) (O2 ++ [P2 ++ l2.take n])) := Lib.hid (S6.out.map (fun v s h => ⟨rowV.is (rowV.set (a := ⟨k, 5, none⟩) h.1.v HKB.out.1 _), fun q hq => by have := h.2 q hq; simpa [World.setCell] using this⟩))
            have N7 := Lib.hid (N6.out.setCell 5 (.slice none 0 0))
            have HF7 := Lib.hid (HF6.out.kept ((ButF.refl k g b B w6).setCell 5 (.slice none 0 0)))
            have HB7 : Hid (B ≤ (w6.setCell ⟨k, 5, none⟩ (.slice none 0 0)).heap.size) := Lib.hid (by simpa [World.setCell] using Nat.le_trans HBW.out HW6.out)
            clear K6 V6 S6 N6 HF6 HW6
            go_wp2_with fail
            go_roundw
            case rel => exact ⟨_, l2.drop n, c2 - n, D ++ l2.take n, _, _, [], _, _, L3, by rw [hdl], by omega, by omega, HZD, HDN, HF7, E5, Lib.hid ⟨K7.out, fitW_nil FT5.out, World.ownsRow_nil _ _ _ _, HB7.out, Nat.le_refl _, V7.out, S7.out, N7.out⟩⟩
            case measure => simp [lenOf]; omega
    · obtain rfl : j = pts.length := by omega
      rw [List.take_length] at E1
      go_wp2_with fail
      go_ret
      rw [E1.out]
      exact ⟨_, _, _, _, _, rfl, F1.out⟩
end Go.Proofs.YtaohbpmefcdipaaDoor.Ct
