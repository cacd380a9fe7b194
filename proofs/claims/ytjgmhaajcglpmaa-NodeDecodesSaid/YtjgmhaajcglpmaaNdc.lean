/- Decode. -/
import Derived.Test.YtjgmhaajcglpmaaNdp
namespace Go.Proofs.Ytjgmhaajcglpmaa
open Go.RowKit

theorem not_begins {L : List UInt8} {x : UInt8} (h : begins L [72, 89, x] = false) (F : List UInt8) : L ≠ [72, 89, x] ++ F := fun e => by
  rw [e] at h
  simp [begins] at h
theorem is_begins {L : List UInt8} {x : UInt8} (h : begins L [72, 89, x] = true) : ∃ F, L = [72, 89, x] ++ F := by
  simp only [begins, Bool.and_eq_true, decide_eq_true_eq, beq_iff_eq] at h
  exact ⟨L.drop 3, by rw [← h.2]; exact (List.take_append_drop 3 L).symm⟩
/-- Open, of any bytes. -/
theorem open_of (x : UInt8) (p : Pt) (w : World) (hp : p.ok w) (hz : p.a = none → p.c = 0) (hl : p.l.length ≤ 100000000) :
    Calls Try.prog 42 #[.int .u8 (V x), .slice p.a p.l.length p.c] w fun r w' => ∃ k F e, r = .returned (.pointer (some ⟨k, 0, none⟩)) ∧ k < w'.heap.size ∧ w.heap.size ≤ k ∧ RdAt w'.heap.size w' k F e ∧ OpenIs x p.l F e ∧ F.length ≤ p.l.length ∧ Below w.heap.size w w' := by
  cases hb : begins p.l [72, 89, x] with
  | true =>
    obtain ⟨F, hF⟩ := is_begins hb
    have hlen : F.length ≤ p.l.length := by rw [hF, List.length_append]; omega
    refine (open_yes2 x p F w hp hz hF (by omega)).mono ?_
    rintro r w' ⟨k, q, rfl, h1, h2, h3, h4, h5, h6, h7⟩
    exact ⟨k, F, 0, rfl, h2.1.lt, h1, ⟨q, h2, h3, h4, h6, h7⟩, .inl ⟨rfl, hF⟩, hlen, h5⟩
  | false =>
    refine (open_no (B := 0) x p w hp hb).mono ?_
    rintro r w' ⟨k, rfl, h1, ⟨q, h2, h3, h4, h6, h7⟩, h5⟩
    exact ⟨k, [], _, rfl, h2.1.lt, h1, ⟨q, h2, h3, h4, h6, fun j _ => h7 j (Nat.zero_le _)⟩, .inr ⟨by split <;> decide, not_begins hb⟩, Nat.zero_le _, h5⟩
theorem RdAt.grown {B k : Nat} {w w' : World} {L : List UInt8} {e : Int} (h : RdAt B w k L e) {row : Option Nat} (hg : w.grownBy w' row) (hr : ∀ b, row = some b → B ≤ b ∧ k ≠ b) : RdAt B w' k L e := by
  cases row with
  | none => exact h.below ⟨hg.os, hg.tape, hg.output, hg.size, fun j hj => hg.block j hj (fun e => by cases e)⟩
  | some b => exact h.keep (g := b) ⟨hg.os, hg.tape, hg.output, hg.size, fun j hj hn => hg.block j hj (fun e => hn (Option.some.inj e))⟩ (hr b rfl).1 (hr b rfl).2
def Ahead (e1 : Int) (L1 : List UInt8) (Q : List (Nd × Value)) (Lj : List UInt8) : Prop := e1 = 0 → L1 = (Q.map Prod.fst).flatMap ndBytes ++ Lj
def Decoded (w : World) (L : List UInt8) (r : Ending) (w' : World) : Prop := ((∃ v Q, r = .returned (.tuple #[v, .int .i64 0]) ∧ DecIs L (Q.map Prod.fst) ∧ ownA w' w.heap.size v Q) ∨ (r = .returned (.tuple #[.slice none 0 0, .int .i64 2]) ∧ ∀ S, ¬ DecIs L S)) ∧ Below w.heap.size w w'
theorem ownA.slice {w : World} {B : Nat} {v : Value} {Q : List (Nd × Value)} (h : ownA w B v Q) : ∃ a c, v = .slice a Q.length c ∧ Q.length ≤ c ∧ c ≤ 9223372036854775807 ∧ (a = none → c = 0) ∧ rowN w a (Q.map Prod.fst) := by
  obtain ⟨a, c, h1, h2, h3, h4, h5⟩ := (h.R.weak (Nat.le_refl _)).row
  rw [List.length_map] at h1 h2
  exact ⟨a, c, h1, h2, h3, h4, h5⟩
theorem ownA.le {w : World} {B B' : Nat} {v : Value} {Q : List (Nd × Value)} (h : ownA w B v Q) (hB : B' ≤ B) : ownA w B' v Q := ⟨Go.Joins.ownsRow_le h.1 hB, fun q hq => ⟨(h.2.1 q hq).1, Go.Joins.ownsRow_le (h.2.1 q hq).2 hB⟩, h.2.2⟩
set_option maxRecDepth 100000 in
set_option maxHeartbeats 8000000 in
theorem decode_any (a : Option Addr) (c : Nat) (L : List UInt8) (w : World) (hlc : L.length ≤ c) (hc9 : c ≤ 9223372036854775807) (hz : a = none → c = 0) (hin : bytesIn w a L) (hl : L.length ≤ 100000000) :
    Calls Try.prog 22 #[.slice a L.length c] w (Decoded w L) := by
  have PO := open_of 110 ⟨a, c, L⟩ w ⟨hlc, hc9, hin⟩ hz hl
  have HL := Lib.hid hl
  have PO : Calls Try.prog 42 #[.int .u8 110, .slice a L.length c] w _ := PO
  clear hlc hc9 hz hin hl
  have hzs := zero_nd
  have HZ := Lib.hid (zeroNd.cells_length (.slice none 0 0) rfl)
  generalize hzs2 : zeroNd.cells (.slice none 0 0) = zs at *
  clear hzs2
  go_enter Try.func22, Try.ntmps22
  go_wp2_with fail
  with_reducible refine PO.mono ?_
  clear PO
  rintro r w1 ⟨k, F, e0, rfl, hk, hwk, hr1, ho, hF, hb⟩
  have HO : Hid (OpenIs 110 L F e0) := Lib.hid ho
  have HF : Hid (F.length ≤ 100000000) := Lib.hid (Nat.le_trans hF HL.out)
  have HB1 := Lib.hid hb
  have HWK := Lib.hid hwk
  have PN := rnum_to k F e0 2000 w1 hr1
  generalize hB : w1.heap.size = B at *
  have HWB : Hid (w.heap.size ≤ B) := Lib.hid (by omega)
  have HKB : Hid (k < B) := Lib.hid hk
  have HBB : Hid (B ≤ w1.heap.size) := Lib.hid (by omega)
  clear ho hF hb hr1 hwk hk hB
  go_wp2_with fail
  with_reducible refine PN.mono ?_
  clear PN
  rintro r w2 ⟨ci, L1, e1, hn, rfl, hr2, hb⟩
  have HT := Lib.hid (rd_num hn.out)
  have HL1 := Lib.hid (Nat.le_trans hn.out.le HF.out)
  have BC := HT.out.bound (by decide)
  have B2 : Hid (Below w.heap.size w w2) := Lib.hid (HB1.out.trans (hb.out.below HWK.out HB1.out.size))
  have HB2 : Hid (B ≤ w2.heap.size) := Lib.hid (Nat.le_trans HBB.out hb.out.size)
  clear hn hb HB1 HBB
  have HC0 : Hid (e1 ≠ 0 → ci = 0) := Lib.hid (fun h => by
    rcases HT.out with ⟨h1, -⟩ | ⟨-, h1, -⟩
    · exact absurd h1 h
    · exact h1)
  go_wp2_with fail
  go_loopw [11, 5] (fun i v wr => ∃ (j : Nat) (Q : List (Nd × Value)) (Lj : List UInt8), (j : Int) ≤ ci ∧ i = .int .i64 j ∧ Q.length = j ∧ Hid (RdAt B wr k Lj e1) ∧ Hid (Ahead e1 L1 Q Lj) ∧ Hid (∀ q ∈ Q, q.1.Shape) ∧ Hid (Lj.length ≤ 100000000) ∧ Hid (ownA wr B v Q) ∧ Hid (Below w.heap.size w wr) ∧ Hid (B ≤ wr.heap.size)) (fun i _ _ => ci.toNat - (intOf i).toNat)
  case atStart => exact ⟨0, [], L1, BC.1, rfl, rfl, hr2, Lib.hid (fun _ => rfl), Lib.hid (fun q hq => absurd hq List.not_mem_nil), HL1, Lib.hid (ownA.nil _ _), B2, HB2⟩
  case round =>
    obtain ⟨j, Q, Lj, hj, rfl, hQ, HR, HE, HS, HLJ, HA, HB, HBB⟩ := hrel
    have p0 : 0 ≤ (j : Int) := by omega
    by_cases hlt : (j : Int) < ci
    · have he1 : e1 = 0 := by
        by_cases h : e1 = 0
        · exact h
        · have := HC0.out h
          omega
      subst he1
      have PRD := read_any k Lj wr HR.out HLJ.out (Nat.lt_of_lt_of_le HKB.out HBB.out) HBB.out
      unfold ReadNd at PRD
      go_wp2_with fail
      with_reducible refine PRD.mono ?_
      clear PRD
      rintro r w4 ⟨n, pv, L4, e4, rfl, hwf, hrd, hrow, hr4, hbu, hlen⟩
      have HWF := Lib.hid hwf
      have HRD := Lib.hid hrd
      have HAP : Hid (∀ q ∈ Q, q.2.ownBlock = none ∨ q.2.ownBlock ≠ pv.ownBlock) := Lib.hid (fun q hq => by
        have h1 := (HA.out.2.1 q hq).2
        cases hv : q.2.ownBlock with
        | none => exact Or.inl rfl
        | some b =>
          refine Or.inr fun e => ?_
          have h2 := (h1.lt b hv).2
          have h3 := (hrow.lt b e.symm).1
          omega)
      have HP1 : Hid (pv.oneCell' = true) := Lib.hid (own_ids hrow hwf.part 0).2.2
      have HCL := Lib.hid (n.cells_length pv hwf.tree)
      have HCO := Lib.hid (cells_one n pv HP1.out)
      have HA4 := Lib.hid (HA.out.but hbu HKB.out)
      have HPR := Lib.hid (Go.Joins.ownsRow_le hrow HBB.out)
      have HR4 := Lib.hid hr4
      have HB4 := Lib.hid (HB.out.trans (hbu.below HWK.out HB.out.size))
      have HBB4 := Lib.hid (Nat.le_trans HBB.out hbu.size)
      have HL4 := Lib.hid (Nat.le_trans hlen HLJ.out)
      clear hwf hrd hrow hr4 hbu hlen HA HR HB HBB
      obtain ⟨cs, hcs⟩ : ∃ cs, cs = n.cells pv := ⟨_, rfl⟩
      rw [← hcs] at HCL HCO ⊢
      have HCS := Lib.hid hcs
      clear hcs
      go_wp2_with (refine store_new 33 info_nd rfl _ _ rfl cs zs rfl rfl HCL.out HZ.out HCO.out ?_)
      intro w5 h1 h2
      have HK5 := h1
      have HR5 := Lib.hid (HR4.out.below h2.out)
      have HA5 := Lib.hid (HA4.out.below h2.out)
      have HPR5 := Lib.hid (row_below HPR.out h2.out)
      have HB5 := Lib.hid (HB4.out.trans (h2.out.mono HB4.out.size))
      have HBB5 := Lib.hid (Nat.le_trans HBB4.out h2.out.size)
      clear h1 h2 HA4 HPR HR4 HB4 HBB4
      generalize w4.heap.size = g at *
      have PE := rerr_any k L4 e4 w5 HR5.out
      go_wp2_with fail
      with_reducible refine PE.mono ?_
      clear PE
      rintro r w6 ⟨rfl, rfl⟩
      by_cases he : e4 = 0
      · subst he
        have hni : NdIs Lj n L4 := by
          rcases HRD.out with ⟨-, h⟩ | ⟨h, -⟩
          · exact h
          · exact absurd rfl h
        have HNI := Lib.hid hni
        have R5 := Lib.hid (block_range HK5.out)
        clear hni
        go_wp2_with (first | (refine load_nd (by rfl) _ rfl g 0 rfl cs R5.out HCL.out ?_) | (refine build_one (by rfl) 33 27 ntN _ rfl cs HCL.out rfl ?_; refine Hid.out ?_))
        have kb := alloc_below w5 (.cells cs.toArray 33 (0, 0))
        have HK6 := blockIs.new w5 cs 33
        rw [HCS.out] at HK6
        have HR6 := Lib.hid (HR5.out.below kb)
        have HA6 := Lib.hid (HA5.out.below kb)
        have HPR6 := Lib.hid (row_below HPR5.out kb)
        have HB6 := Lib.hid (HB5.out.trans (kb.mono HB5.out.size))
        have HBB6 := Lib.hid (Nat.le_trans HBB5.out kb.size)
        rw [← HCS.out] at HK6
        have HK6 := Lib.hid HK6
        clear kb HR5 HA5 HPR5 HB5 HBB5 HK5 R5
        change Hid (blockIs (w5.alloc (.cells cs.toArray 33)) _ _ _) at HK6
        change Hid (RdAt B (w5.alloc (.cells cs.toArray 33)) _ _ _) at HR6
        change Hid (ownA (w5.alloc (.cells cs.toArray 33)) _ _ _) at HA6
        generalize w5.alloc (.cells cs.toArray 33) = w6 at *
        generalize w5.heap.size = g2 at *
        refine Lib.hid ?_
        go_wp2_with (refine append_A (by rfl) _ _ rfl B _ Q rfl HA6.out g2 n pv rfl (by rw [← HCS.out]; exact HK6.out) HWF.out HPR6.out HAP.out (by omega) HBB6.out ?_)
        intro v2 w7 h1 h2 h3
        have HR7 := Lib.hid (HR6.out.grown h3.out (fun b hb => by
          have h4 := (HA6.out.1.lt b hb).1
          have h5 := HKB.out
          exact ⟨h4, by omega⟩))
        have HB7 := Lib.hid (HB6.out.trans (h2.out.mono HWB.out))
        have HBB7 := Lib.hid (Nat.le_trans HBB6.out h2.out.size)
        have HE7 : Hid (Ahead 0 L1 (Q ++ [(n, pv)]) L4) := Lib.hid (fun _ => by
          rw [HE.out rfl, HNI.out.2, List.map_append, List.flatMap_append, List.append_assoc]
          simp)
        have HS7 : Hid (∀ q ∈ Q ++ [(n, pv)], q.1.Shape) := Lib.hid (fun q hq => by
          rcases List.mem_append.1 hq with hq | hq
          · exact HS.out q hq
          · rw [List.mem_singleton.1 hq]; exact HNI.out.1)
        have HLQ : Hid ((Q ++ [(n, pv)]).length = j + 1) := Lib.hid (by rw [List.length_append, hQ]; rfl)
        clear h2 h3 HA6 HR6 HB6 HBB6 HE HS
        go_wp2_with fail
        go_roundw
        case rel => exact ⟨j + 1, Q ++ [(n, pv)], L4, by omega, by go_num, HLQ.out, HR7, HE7, HS7, HL4, h1, HB7, HBB7⟩
        case measure => simp [intOf]; omega
      · have b0 : (e4 != 0) = true := by simpa using he
        have PEND := rend_any k L4 e4 w5 HR5.out
        have hen : endErr L4 e4 = e4 := by unfold endErr; rw [if_neg (fun h => he h.1)]
        rw [hen] at PEND
        have HNO : Hid (∀ S, ¬ DecIs L S) := Lib.hid (by
          have hf : ∀ m R, ¬ NdIs Lj m R := by
            rcases HRD.out with ⟨h, -⟩ | ⟨-, h⟩
            · exact absurd h he
            · exact h
          exact dec_no_read HO.out HT.out (S := Q.map Prod.fst) (fun x hx => by
            obtain ⟨q, hq, rfl⟩ := List.mem_map.1 hx
            exact HS.out q hq) (HE.out rfl) (by rw [List.length_map]; omega) hf)
        go_wp2_with fail
        with_reducible refine PEND.mono ?_
        clear PEND
        rintro r w6 ⟨rfl, -, hb6⟩
        have HB6 := Lib.hid (HB5.out.trans (hb6.below HWK.out HB5.out.size))
        clear hb6
        go_wp2_with fail
        go_ret2
        exact ⟨Or.inr ⟨rfl, HNO.out⟩, HB6.out⟩
    · obtain rfl : ci = (j : Int) := by omega
      have q0 : ¬ ((j : Int) < (j : Int)) := by omega
      have PEND := rend_any k Lj e1 wr HR.out
      obtain ⟨E, hE⟩ : ∃ E, E = endErr Lj e1 := ⟨_, rfl⟩
      rw [← hE] at PEND
      by_cases hE0 : E = 0
      · have hs1 : e1 = 0 ∧ Lj = [] := by
          rw [hE0] at hE
          unfold endErr at hE
          split at hE
          · exact absurd hE.symm (by decide)
          · rename_i h
            exact ⟨hE.symm, Classical.not_not.1 (fun h2 => h ⟨hE.symm, h2⟩)⟩
        subst hE0
        clear hE
        obtain ⟨rfl, rfl⟩ := hs1
        go_wp2_with fail
        with_reducible refine PEND.mono ?_
        clear PEND
        rintro r w6 ⟨rfl, -, hb6⟩
        have HB6 := Lib.hid (HB.out.trans (hb6.below HWK.out HB.out.size))
        have ha6 := HA.out.but hb6 HKB.out
        obtain ⟨qa, qc, rfl, hq1, hq2, hq3, hq4⟩ := ha6.slice
        have HA6 := Lib.hid ha6
        have PC := checkAll_any qa qc (Q.map Prod.fst) w6 (by rw [List.length_map]; omega) hq4
        rw [List.length_map, hQ] at PC
        have HSS : Hid (∀ n ∈ Q.map Prod.fst, n.Shape) := Lib.hid (fun x hx => by
            obtain ⟨q, hq, rfl⟩ := List.mem_map.1 hx
            exact HS.out q hq)
        have HWW : Hid (∀ n ∈ Q.map Prod.fst, n.Wf) := Lib.hid (fun x hx => by
            obtain ⟨q, hq, rfl⟩ := List.mem_map.1 hx
            exact (HA6.out.2.1 q hq).1)
        have HQM : Hid (((Q.map Prod.fst).length : Int) = (j : Int)) := Lib.hid (by rw [List.length_map]; omega)
        have HE6 := Lib.hid (HE.out rfl)
        clear hb6 HB HA HE HS ha6 hq4 hq2 hq3
        by_cases hC : checkL (Q.map Prod.fst) = 0
        · have HY : Hid (DecIs L (Q.map Prod.fst)) := Lib.hid (dec_yes HO.out HT.out rfl HWW.out HE6.out HQM.out hC)
          rw [hC] at PC
          clear hC
          go_wp2_with fail
          with_reducible refine PC.mono ?_
          clear PC
          rintro r w7 ⟨rfl, hb7⟩
          have HA7 := Lib.hid (HA6.out.below hb7)
          have HB7 := Lib.hid (HB6.out.trans (hb7.mono HB6.out.size))
          clear hb7
          go_wp2_with fail
          go_ret2
          have ha7 := HA7.out.le HWB.out
          rw [hQ] at ha7
          exact ⟨Or.inl ⟨_, Q, rfl, HY.out, ha7⟩, HB7.out⟩
        · have HNO : Hid (∀ S, ¬ DecIs L S) := Lib.hid (dec_no_check HO.out HT.out HSS.out HE6.out HQM.out hC)
          obtain ⟨C, hCC⟩ : ∃ C, C = checkL (Q.map Prod.fst) := ⟨_, rfl⟩
          rw [← hCC] at hC PC
          clear hCC
          have b0 : (C != 0) = true := by simpa using hC
          go_wp2_with fail
          with_reducible refine PC.mono ?_
          clear PC
          rintro r w7 ⟨rfl, hb7⟩
          have HB7 := Lib.hid (HB6.out.trans (hb7.mono HB6.out.size))
          clear hb7
          go_wp2_with fail
          go_ret2
          exact ⟨Or.inr ⟨rfl, HNO.out⟩, HB7.out⟩
      · have b0 : (E != 0) = true := by simpa using hE0
        have HNO : Hid (∀ S, ¬ DecIs L S) := Lib.hid (by
          by_cases h1 : e1 = 0
          · refine dec_no_end HO.out HT.out (S := Q.map Prod.fst) (Lj := Lj) (fun x hx => by
              obtain ⟨q, hq, rfl⟩ := List.mem_map.1 hx
              exact HS.out q hq) (HE.out h1) (by rw [List.length_map]; omega) (fun h2 => hE0 ?_)
            rw [hE]
            unfold endErr
            rw [if_neg (fun h => h.2 h2), h1]
          · exact dec_no HO.out HT.out h1)
        clear hE
        go_wp2_with fail
        with_reducible refine PEND.mono ?_
        clear PEND
        rintro r w6 ⟨rfl, -, hb6⟩
        have HB6 := Lib.hid (HB.out.trans (hb6.below HWK.out HB.out.size))
        clear hb6
        go_wp2_with fail
        go_ret2
        exact ⟨Or.inr ⟨rfl, HNO.out⟩, HB6.out⟩
end Go.Proofs.Ytjgmhaajcglpmaa
