/- The law PackBack: its walk. -/
import Derived.Test.YtfhlcondnaahiaaDoorQf
import Derived.Test.YtfhlcondnaahiaaDoorPp
namespace Go.Proofs.YtfhlcondnaahiaaDoor
open Go.RowKit Sha

theorem own_ensR {X : World} {base : Nat} {v : Value} {L : List En} (h : X.ownsRow base 93 35 v L.length (enCells L)) (hok : ∀ x ∈ L, x.ok) : ∃ A c, v = .slice A L.length c ∧ ensIn X A L := by
  have hc := fun g hg => h.cells (g := g) hg
  rcases h.2 with ⟨rfl, h0⟩ | ⟨g, cap, cur, rfl, -⟩
  · rw [h0]; exact ⟨_, _, rfl, Or.inl (List.eq_nil_of_length_eq_zero h0)⟩
  · refine ⟨_, _, rfl, Or.inr ⟨g, 0, rfl, fun j hj i u hi => ?_⟩⟩
    have := hc g rfl (j * 35 + i) u (en_get L hok j hj i u hi)
    rw [Addr.add_lit] at this
    rw [← this]
    congr 2
    omega
theorem lo_get (D : List Lo) (j : Nat) (hj : j < D.length) (i : Nat) (u : Value) (hi : (D[j].cells)[i]? = some u) : (loCells D)[j * 2 + i]? = some u := by
  induction D generalizing j with
  | nil => exact absurd hj (Nat.not_lt_zero _)
  | cons x L ih =>
    rw [loCells, List.flatMap_cons]
    have hx : x.cells.length = 2 := rfl
    cases j with
    | zero =>
      have hi : x.cells[i]? = some u := hi
      rw [Nat.zero_mul, Nat.zero_add, List.getElem?_append_left (List.getElem?_eq_some_iff.1 hi).1]
      exact hi
    | succ j =>
      rw [List.getElem?_append_right (by omega), hx, show (j + 1) * 2 + i - 2 = j * 2 + i by omega]
      exact ih j (by simpa using hj) (by simpa using hi)
theorem ensIn.at {w : World} {a : Option Addr} {L : List En} (h : ensIn w a L) (j : Nat) (hj : j < L.length) : ∃ b o, a = some ⟨b, o, none⟩ ∧ w.rangeAt b (o + j * 35) L[j].cells := by
  rcases h with h | ⟨b, o, e, hc⟩
  · rw [h] at hj; exact absurd hj (Nat.not_lt_zero _)
  · exact ⟨b, o, e, hc j hj⟩
/-- Lumps in a row: their kinds, where they are, how long they are. -/
def losIn2 (w : World) (a : Option Addr) (D : List Lo) : Prop := ∀ j (h : j < D.length), ∃ b o, a = some ⟨b, o, none⟩ ∧ w.cell? ⟨b, o + j * 2, none⟩ = some (.int .i64 D[j].kind) ∧ w.cell? ⟨b, o + j * 2 + 1, none⟩ = some (.slice D[j].a D[j].n D[j].c)
theorem own_los2 {X : World} {base : Nat} {v : Value} {D : List Lo} (h : X.ownsRow base 40 2 v D.length (loCells D)) : ∃ A c, v = .slice A D.length c ∧ losIn2 X A D := by
  have hc := fun g hg => h.cells (g := g) hg
  rcases h.2 with ⟨rfl, h0⟩ | ⟨g, cap, cur, rfl, -⟩
  · rw [h0]; exact ⟨_, _, rfl, fun j hj => absurd hj (by omega)⟩
  · refine ⟨_, _, rfl, fun j hj => ⟨g, 0, rfl, ?_, ?_⟩⟩
    · have := hc g rfl (j * 2 + 0) _ (lo_get D j hj 0 _ rfl)
      rw [Addr.add_lit] at this
      rw [← this]
      first
        | rfl
        | (congr 2; done)
        | (congr 2; omega)
    · have := hc g rfl (j * 2 + 1) _ (lo_get D j hj 1 _ rfl)
      rw [Addr.add_lit] at this
      rw [← this]
      first
        | rfl
        | (congr 2; done)
        | (congr 2; omega)
theorem losIn2.below {w w' : World} {a : Option Addr} {D : List Lo} (h : losIn2 w a D) (k : Below w.heap.size w w') : losIn2 w' a D := fun j hj => by
  obtain ⟨b, o, e, h1, h2⟩ := h j hj
  exact ⟨b, o, e, (k.cell (block_lt_of_cell h1)).trans h1, (k.cell (block_lt_of_cell h2)).trans h2⟩
theorem ensIn.below0 {w w' : World} {a : Option Addr} {L : List En} (h : ensIn w a L) (k : Below w.heap.size w w') : ensIn w' a L := by
  rcases h with h | ⟨b, o, e, hc⟩
  · exact Or.inl h
  · exact Or.inr ⟨b, o, e, fun j hj i u hi => (k.cell (block_lt_of_cell (hc j hj i u hi))).trans (hc j hj i u hi)⟩
set_option maxRecDepth 100000 in
set_option maxHeartbeats 8000000 in
theorem law_packBack (n : UInt8) (a : Option Addr) (c : Nat) (R : List Lmp) (w : World) (hR : lumpsIn w a R) (ht : tables w) :
    Calls Tryd.prog 4 #[.int .u8 (V n), .slice a R.length c] w fun e w' => e = .returned (.bool true) ∧ Below w.heap.size w w' := by
  have T0 := Lib.hid ht
  have M1 := made_any n a c R w hR ht
  have hz := zeroRingP
  have hz2 := zeroRing2
  clear hR ht
  go_enter Tryd.func4, Tryd.ntmps4
  go_wp2_with ((with_reducible refine M1.mono ?_); rintro e w1 ⟨bv, lv, hv, Dl, S, P, hS, hP, rfl, hb, hl, hh, hd, ho, kb⟩; refine Hid.out ?_)
  refine Lib.hid ?_
  have GD := Lib.hid (hS.symm ▸ madeS_good n R (min R.length 10) (Nat.min_le_left _ _) : S.Good (min R.length 10 + 1))
  have BK := Lib.hid (hS.symm ▸ madeS_back n R (min R.length 10) (Nat.min_le_left _ _) : S.Back n)
  have NE := Lib.hid (hS.symm ▸ madeS_ne n R (min R.length 10) (Nat.min_le_left _ _) : S.L ≠ [])
  have hok : ∀ x ∈ S.L, x.ok := fun x hx => (GD.out.fine x hx).1.1
  have HOK := Lib.hid hok
  obtain ⟨ab, db, hbe, ob⟩ := Pt.ok0_of hb
  obtain ⟨al, dl, hle, el⟩ := own_ens hl hok
  obtain ⟨ah, dh, hhe, eh⟩ := own_los2 hh
  subst hbe hle hhe
  have PE : Hid (P = (S.B ++ wseal (kN n 1) (kN n 2) 104 [104, 101, 97, 100] (tbytes [n] S.told 16) (headB S.L)) ++ be4 (wseal (kN n 1) (kN n 2) 104 [104, 101, 97, 100] (tbytes [n] S.told 16) (headB S.L)).length) := Lib.hid (by rw [hP]; unfold closeB; rw [List.append_assoc])
  have PLN : Hid (P.length ≤ 100000) := Lib.hid (by rw [hP]; exact closeB_len n S _ GD.out (by omega))
  have LN : Hid (S.L.length ≤ 20 ∧ 0 < S.L.length) := Lib.hid ⟨by have := GD.out.len; omega, List.length_pos_iff.2 NE.out⟩
  have DL : Hid (Dl.length = S.L.length) := Lib.hid (by have h1 := congrArg List.length hd; rw [List.length_map, List.length_map] at h1; have h2 := GD.out.dl; omega)
  have DK : Hid (∀ i (h : i < Dl.length) (h' : i < S.D.length), Dl[i].kind = S.D[i].1 ∧ Dl[i].n = S.D[i].2.length) := Lib.hid (fun i h h' => by
    have h3 := congrArg (fun l => l[i]?) hd
    simp only [List.getElem?_map, List.getElem?_eq_getElem h, List.getElem?_eq_getElem h', Option.map_some, Option.some.injEq, Prod.mk.injEq] at h3
    exact h3)
  have O1 := Lib.hid ob
  have L1 := Lib.hid el
  have H1 := Lib.hid eh
  have D1 := Lib.hid ho
  have B1 := Lib.hid kb
  have T1 := Lib.hid (T0.out.below kb T0.out.2.2.1 T0.out.2.2.2)
  have RA := ring_any n w1
  clear M1 hb hl hh hd ho hS hP ob el eh hok kb NE
  go_wp2_with (first
    | (with_reducible refine RA.mono ?_; rintro e w2 ⟨rfl, kb⟩)
    | (refine wpList_store_block rfl 58 _ _ rfl _ 0 (byteCells (ringN n)) rfl rfl (zeros 96) 58 ((blockIs.new _ (zeros 96) 58).alloc _) (by rw [infoRing96, byteCells_length, ringN_length]) (by simp [zeros, byteCells_length, ringN_length]) (byteCells_one _) ?_))
  intro w3 P1 P2 P3
  have P1 := P1.out
  rw [splice_all _ _ (by simp [zeros, byteCells_length, ringN_length])] at P1
  have A1 := (alloc_below w2 (.cells (zeros 96).toArray 58 (0, 0))).alloc (by first | (simp; done) | (simp; omega)) (.cells (zeros 96).toArray 50 (0, 0))
  have H2 := Lib.hid (P2.out.is (blockIs.last (w2.alloc (.cells (zeros 96).toArray 58 (0, 0))) (zeros 96) 50 (w2.heap.size + 1) (by simp)) (by omega))
  have C2 : Hid (Below w1.heap.size w1 w3) := Lib.hid (kb.trans ((A1.trans (P2.out.below (Nat.le_refl _) (by first | (simp; done) | (simp; omega)))).mono kb.size))
  have K2 := Lib.hid P1
  have WS := Lib.hid kb.size
  clear P1 P2 P3 A1 RA kb
  go_wp2_with (refine wpList_store_block rfl 50 _ _ rfl (w2.heap.size + 1) 0 (byteCells (ringN n)) rfl rfl (zeros 96) 50 H2.out (by rw [infoRing2, byteCells_length, ringN_length]) (by simp [zeros, byteCells_length, ringN_length]) (byteCells_one _) ?_)
  intro w4 P1 P2 P3
  have K4 := Lib.hid (P2.out.is K2.out (by omega))
  have C4 : Hid (Below w1.heap.size w1 w4) := Lib.hid (C2.out.trans (P2.out.below (Nat.le_trans WS.out (Nat.le_succ _)) C2.out.size))
  have T4 := Lib.hid (T1.out.below C4.out T1.out.2.2.1 T1.out.2.2.2)
  clear P1 P2 P3 K2 H2 C2 WS
  generalize w2.heap.size = kk at *
  have PK := packs_any w4 T4.out
  go_wp2_with (with_reducible refine PK.mono ?_; rintro e w5 ⟨rfl, kb⟩; refine Hid.out ?_)
  refine Lib.hid ?_
  have K5 := Lib.hid (K4.out.below kb K4.out.lt)
  have C5 := Lib.hid (C4.out.trans (kb.mono C4.out.size))
  have T5 := Lib.hid (T4.out.below kb T4.out.2.2.1 T4.out.2.2.2)
  clear PK kb K4 C4 T4
  have EA := entries_yes (kN n 1) (kN n 2) (kN n 3) (tbytes [n] S.told 16) S.B ⟨ab, db, P⟩ S.L w5 (kN_length _ _) (kN_length _ _) (kN_length _ _) (tbytes_16 _ _) (O1.out.below C5.out) PE.out (Nat.le_trans PLN.out (by decide)) (fun x hx => (GD.out.fine x hx).1) (fun x hx => by have := (GD.out.fine x hx).2.1; omega) (by have := LN.out.1; omega) LN.out.2 BK.out.nd GD.out.off GD.out.bl T5.out
  rw [show kN n 1 ++ (kN n 2 ++ kN n 3) = ringN n from rfl] at EA
  dsimp only at EA
  go_wp2_with (first
    | (refine wpList_load_mid (by rfl) 58 _ rfl kk 0 rfl (byteCells (ringN n)) _ (Ci.range_of K5.out) Tryd.underlying58 rfl (by rw [info_ring, byteCells_length, ringN_length]) ?_)
    | ((with_reducible refine EA.mono ?_); rintro e w6 ⟨v6, rfl, hv6, kb⟩; refine Hid.out ?_))
  refine Lib.hid ?_
  obtain ⟨am, cm, hme, em⟩ := own_ens hv6 HOK.out
  subst hme
  have K6 := Lib.hid (K5.out.below kb K5.out.lt)
  have C6 := Lib.hid (C5.out.trans (kb.mono C5.out.size))
  have T6 := Lib.hid (T5.out.below kb T5.out.2.2.1 T5.out.2.2.2)
  clear EA kb K5 C5 T5 hv6
  have F1 := from_any am cm S.L w6 em HOK.out (by have := LN.out.1; omega)
  have F2 := Lib.hid (fun X (h : Below w6.heap.size w6 X) => from_any al dl S.L X ((L1.out.below0 C6.out).below0 h) HOK.out (by have := LN.out.1; omega))
  have S2 := Lib.hid (fun (a1 a2 : Option Addr) (c1 c2 : Nat) X (h1 : ensIn X a1 S.L) (h2 : ensIn X a2 S.L) => same_yes a1 a2 c1 c2 S.L X h1 h2 HOK.out (by have := LN.out.1; omega))
  clear em
  obtain ⟨nl, hnl⟩ : ∃ nl, nl = S.L.length := ⟨_, rfl⟩
  rw [← hnl] at F1 F2 S2 DL LN
  rw [← hnl]
  have NL := Lib.hid hnl
  clear hnl
  go_wp2_with ((with_reducible refine F1.mono ?_); rintro e w7 ⟨v7, rfl, hv7, kb⟩; refine Hid.out ?_)
  refine Lib.hid ?_
  have hv7 : w7.ownsRow w6.heap.size 93 35 v7 S.L.length (enCells S.L) := NL.out ▸ hv7
  obtain ⟨a7, c7, he7, e7⟩ := own_ensR hv7 HOK.out
  rw [← NL.out] at he7
  subst he7
  have E7 := Lib.hid e7
  have B7 := Lib.hid kb
  have F3 := F2.out w7 kb
  clear F1 F2 kb hv7 e7
  go_wp2_with ((with_reducible refine F3.mono ?_); rintro e w8 ⟨v8, rfl, hv8, kb⟩; refine Hid.out ?_)
  refine Lib.hid ?_
  have hv8 : w8.ownsRow w7.heap.size 93 35 v8 S.L.length (enCells S.L) := NL.out ▸ hv8
  obtain ⟨a8, c8, he8, e8⟩ := own_ensR hv8 HOK.out
  rw [← NL.out] at he8
  subst he8
  have S3 := S2.out a7 a8 c7 c8 w8 (E7.out.below0 kb) e8
  have B8 := Lib.hid (B7.out.trans (kb.mono B7.out.size))
  clear F3 S2 kb hv8 e8 E7 B7
  go_wp2_with (with_reducible refine S3.mono ?_; rintro e w9 ⟨rfl, kb⟩)
  have B9 := Lib.hid (B8.out.trans (kb.mono B8.out.size))
  have K9 := Lib.hid (K6.out.below B9.out K6.out.lt)
  have C9 := Lib.hid (C6.out.trans (B9.out.mono C6.out.size))
  have T9 := Lib.hid (T6.out.below B9.out T6.out.2.2.1 T6.out.2.2.2)
  have O9 := Lib.hid (O1.out.below C9.out)
  have L9 := Lib.hid (L1.out.below0 C9.out)
  have H9 := Lib.hid (H1.out.below C9.out)
  have D9 := Lib.hid (fun i h h' => (D1.out i h h').below C9.out)
  have W9 := Lib.hid (B1.out.trans (C9.out.mono B1.out.size))
  clear S3 kb B8 B9 K6 C6 T6 O1 L1 H1 D1 B1 C9 T1 T0
  go_loopw [13] (fun iv wr => ∃ i : Nat, i ≤ nl ∧ iv = .int .i64 (i : Int) ∧ Hid (Below w9.heap.size w9 wr)) (fun iv _ => nl - (intOf iv).toNat)
  case atStart => exact ⟨0, Nat.zero_le _, rfl, Lib.hid (Below.refl _ _)⟩
  case round =>
    obtain ⟨i, hi, rfl, BR⟩ := hrel
    have q0 : 0 ≤ (i : Int) := by omega
    have hll := LN.out.1
    by_cases hlt : i < nl
    · have q1 : (i : Int) < (nl : Int) := by omega
      have hlL : i < S.L.length := NL.out ▸ hlt
      have hltD : i < Dl.length := by rw [DL.out]; exact hlt
      have hltS : i < S.D.length := by rw [BK.out.dl]; exact hlL
      obtain ⟨b1, o1, rfl, r1⟩ := (L9.out.below0 BR.out).at i hlL
      obtain ⟨b3, o3, rfl, r3, r4⟩ := (H9.out.below BR.out) i hltD
      obtain ⟨k8, N, A, E, h1, h2, h3, h4, h5, h6, h7, h8⟩ := BK.out.each i hlL hltS
      obtain ⟨dk, dn⟩ := DK.out i hltD hltS
      have dok := D9.out i hltD hltS
      have q1D : (i : Int) < (Dl.length : Int) := by rw [DL.out]; exact q1
      have X1 : Hid S.L[i].ok := Lib.hid (HOK.out _ (List.getElem_mem hlL))
      have PX := PE.out
      rw [h8] at PX
      generalize S.L[i] = x at *
      generalize Dl[i] = d at *
      generalize S.D[i] = dd at *
      obtain ⟨da, dd⟩ := dd
      obtain ⟨ek, ea, en, ec⟩ := d
      dsimp only at dk dn dok r3 r4 h2 h3 h4 h5 h6 h8 PX
      have dk' : da = ek := dk.symm
      subst dk' dn
      have BA := Lib.hid (fun X (h : Below w9.heap.size w9 X) => blob_yes (kN n 1) (kN n 2) (kN n 3) N dd A (E ++ (wseal (kN n 1) (kN n 2) 104 [104, 101, 97, 100] (tbytes [n] S.told 16) (headB S.L) ++ be4 (wseal (kN n 1) (kN n 2) 104 [104, 101, 97, 100] (tbytes [n] S.told 16) (headB S.L)).length)) k8 ⟨ab, db, P⟩ x X (kN_length _ _) (kN_length _ _) (kN_length _ _) h1 (O9.out.below h) (by show P = _; rw [PX]; simp only [List.append_assoc]) (Nat.le_trans PLN.out (by decide)) (h4.symm ▸ h3) h5 (by omega) h7 h6 (T9.out.below h T9.out.2.2.1 T9.out.2.2.2))
      have DO := Lib.hid (fun X (h : Below w9.heap.size w9 X) => (dok.below h : Pt.ok0 X ⟨ea, ec, dd⟩))
      have HX5 := Lib.hid h5
      have HX4 := Lib.hid h4
      have K8 : Hid (IntKind.u8.wrap x.kind = V k8) := Lib.hid (by rw [h4]; rcases h3 with ⟨e, rfl⟩ | ⟨e, rfl⟩ <;> rw [e] <;> rfl)
      have HDL : Hid (dd.length ≤ 150) := Lib.hid h2
      have R1 : Hid (∀ X, Below wr.heap.size wr X → X.rangeAt b1 (o1 + i * 35) x.cells) := Lib.hid (fun X h j u hj => (h.cell (block_lt_of_cell (r1 j u hj))).trans (r1 j u hj))
      have R3 := Lib.hid (fun X (h : Below wr.heap.size wr X) => (h.cell (block_lt_of_cell r3)).trans r3)
      have R4 := Lib.hid (fun X (h : Below wr.heap.size wr X) => (h.cell (block_lt_of_cell r4)).trans r4)
      have KX : Hid (∀ X, Below wr.heap.size wr X → X.rangeAt kk 0 (byteCells (ringN n))) := Lib.hid (fun X h => Ci.range_of ((K9.out.below BR.out K9.out.lt).below h (Nat.lt_of_lt_of_le K9.out.lt BR.out.size)))
      have X35 : Hid (x.cells.length = 35) := Lib.hid (En.len35 X1.out)
      have X32 : Hid ((byteCells x.id).length = 32) := Lib.hid (by rw [byteCells_length]; exact X1.out)
      have XB : Hid (∀ i u, (byteCells x.id)[i]? = some u → x.cells[i]? = some u) := Lib.hid (fun i u hi => by unfold En.cells; rw [List.getElem?_append_left (List.getElem?_eq_some_iff.1 hi).1]; exact hi)
      have XI : Hid (∀ X, Below wr.heap.size wr X → X.rangeAt b1 (o1 + i * 35) (byteCells x.id)) := Lib.hid (fun X hX i u hi => R1.out X hX i u (XB.out i u hi))
      have C0 : Hid (∀ X, Below wr.heap.size wr X → X.cell? ⟨b1, o1 + i * 35 + 32, none⟩ = some (.int .i64 da)) := Lib.hid (fun X hX => R1.out X hX 32 _ (by unfold En.cells; rw [List.getElem?_append_right (Nat.le_of_eq X32.out), X32.out, h4]; rfl))
      rw [h4] at K8
      clear r1 r3 r4 h1 h2 h3 h4 h5 h6 h7 h8 PX dok hlL hltD hltS XB
      go_upto_region 11 with fail
      refine wp_region_noPanic ?_
      refine wp_region_held_drew (S := fun w' => Below wr.heap.size wr w') (by kernel_rfl) (below_drew' (Below.refl _ _)) (fun hH => ?_)
      generalize wr.drew = z0 at *
      refine wpAnyH_take (i := 0) (oi := { dst := some 58, op := Op.load 58 (Operand.tmp 9), type := 58, pos := "law.go:116", after := #[], guard := none }) (v := .agg (byteCells (ringN n)).toArray) rfl (by kernel_rfl) (by kernel_rfl) (by kernel_rfl) (fun _ _ _ h => h) (yieldsIf_load_mid (by rfl) 58 _ rfl (kk) 0 rfl (byteCells (ringN n)) _ (fun wx hS => KX.out wx hS) Tryd.underlying58 rfl (by rw [info_ring, byteCells_length, ringN_length])) hH ?_
      simp only [Act.put, List.setIfInBounds_toArray, List.set_cons_zero, List.set_cons_succ]
      refine wpAnyH_take (i := 1) (oi := { dst := some 59, op := Op.move (Operand.tmp 5), type := 30, pos := "law.go:116", after := #[], guard := none }) (v := .slice ab P.length db) rfl (by kernel_rfl) (by kernel_rfl) (by kernel_rfl) (fun _ _ _ h => h) (Or.inl ⟨by rfl, fun wx hS => ?_⟩) hH ?_
      · go_simp
      simp only [Act.put, List.setIfInBounds_toArray, List.set_cons_zero, List.set_cons_succ]
      refine wpAnyH_take (i := 2) (oi := { dst := some 60, op := Op.move (Operand.tmp 6), type := 31, pos := "law.go:116", after := #[], guard := none }) (v := .slice (some ⟨b1, o1, none⟩) nl dl) rfl (by kernel_rfl) (by kernel_rfl) (by kernel_rfl) (fun _ _ _ h => h) (Or.inl ⟨by rfl, fun wx hS => ?_⟩) hH ?_
      · go_simp
      simp only [Act.put, List.setIfInBounds_toArray, List.set_cons_zero, List.set_cons_succ]
      refine wpAnyH_take (i := 3) (oi := { dst := some 61, op := Op.move (Operand.tmp 13), type := 3, pos := "law.go:116", after := #[], guard := none }) (v := .int .i64 (i : Int)) rfl (by kernel_rfl) (by kernel_rfl) (by kernel_rfl) (fun _ _ _ h => h) (Or.inl ⟨by rfl, fun wx hS => ?_⟩) hH ?_
      · go_simp
      simp only [Act.put, List.setIfInBounds_toArray, List.set_cons_zero, List.set_cons_succ]
      refine wpAnyH_take (i := 4) (oi := { dst := some 62, op := Op.indexAddr 31 (Operand.tmp 60) (Operand.tmp 61), type := 0, pos := "law.go:116", after := #[⟨2, .data⟩, ⟨3, .data⟩], guard := none }) (v := .pointer (some ⟨b1, o1 + i * 35, none⟩)) rfl (by kernel_rfl) (by kernel_rfl) (by kernel_rfl) (fun _ _ _ h => h) (Or.inl ⟨by rfl, fun wx hS => ?_⟩) hH ?_
      · go_simp
      simp only [Act.put, List.setIfInBounds_toArray, List.set_cons_zero, List.set_cons_succ]
      refine wpAnyH_take (i := 5) (oi := { dst := some 63, op := Op.load 66 (Operand.tmp 62), type := 66, pos := "law.go:116", after := #[⟨4, .data⟩], guard := none }) (v := .agg (x.cells).toArray) rfl (by kernel_rfl) (by kernel_rfl) (by kernel_rfl) (fun _ _ _ h => h) (yieldsIf_load_mid (by rfl) 66 _ rfl (b1) (o1 + i * 35) rfl (x.cells) _ (fun wx hS => R1.out wx hS) Tryd.underlying66 rfl (by rw [info_en, X35.out])) hH ?_
      simp only [Act.put, List.setIfInBounds_toArray, List.set_cons_zero, List.set_cons_succ]
      refine wpAnyH_ready (rs := [6]) (by kernel_rfl) (by simp) ?_
      refine AllReadyH.cons (o := { dst := some 64, op := Op.call { callee := Callee.value (Operand.func 21), args := #[Operand.tmp 58, Operand.tmp 59, Operand.tmp 63], argTypes := #[58, 30, 66] }, type := 63, pos := "law.go:116", after := #[⟨0, .data⟩, ⟨1, .data⟩, ⟨5, .data⟩], guard := none }) rfl (fun KK hKK => ?_) AllReadyH.nil
      go_simp
      have BZ := BR.out.trans (hH.mono BR.out.size)
      refine (BA.out z0 BZ).mono ?_
      rintro e z1 ⟨v, rfl, hv, hb⟩
      obtain ⟨va, vc, hve, hvo⟩ := Pt.ok0_of hv
      subst hve
      have OV := Lib.hid hvo
      have hN := hH.trans (hb.mono hH.size)
      clear hH hb hv hvo BZ BA
      refine hKK.out _ _ hN (fun hH => ?_)
      clear hKK KK hN
      try simp only [Act.put, List.setIfInBounds_toArray, List.set_cons_zero, List.set_cons_succ]
      refine wpAnyH_take (i := 7) (oi := { dst := some 57, op := Op.move (Operand.tmp 64), type := 63, pos := "law.go:116", after := #[⟨6, .data⟩], guard := none }) (v := .tuple #[.slice va dd.length vc, .int .i64 0]) rfl (by kernel_rfl) (by kernel_rfl) (by kernel_rfl) (fun _ _ _ h => h) (Or.inl ⟨by rfl, fun wx hS => ?_⟩) hH ?_
      · go_simp
      simp only [Act.put, List.setIfInBounds_toArray, List.set_cons_zero, List.set_cons_succ]
      refine wpAnyH_take (i := 8) (oi := { dst := some 65, op := Op.extract (Operand.tmp 57) 0, type := 30, pos := "law.go:116", after := #[⟨7, .data⟩], guard := none }) (v := .slice va dd.length vc) rfl (by kernel_rfl) (by kernel_rfl) (by kernel_rfl) (fun _ _ _ h => h) (Or.inl ⟨by rfl, fun wx hS => ?_⟩) hH ?_
      · go_simp
      simp only [Act.put, List.setIfInBounds_toArray, List.set_cons_zero, List.set_cons_succ]
      refine wpAnyH_take (i := 9) (oi := { dst := some 66, op := Op.extract (Operand.tmp 57) 1, type := 25, pos := "law.go:116", after := #[⟨7, .data⟩, ⟨10, .gcOnly .lateStores⟩], guard := none }) (v := .int .i64 0) rfl (by kernel_rfl) (by kernel_rfl) (by kernel_rfl) (fun _ _ _ h => h) (Or.inl ⟨by rfl, fun wx hS => ?_⟩) hH ?_
      · go_simp
      simp only [Act.put, List.setIfInBounds_toArray, List.set_cons_zero, List.set_cons_succ]
      refine wpAnyH_ready (rs := [10]) (by kernel_rfl) (by simp) ?_
      refine AllReadyH.cons (o := { dst := some 14, op := Op.assign (Operand.tmp 65), type := 30, pos := "law.go:116", after := #[⟨8, .data⟩, ⟨6, .chain⟩, ⟨0, .phase⟩, ⟨1, .phase⟩, ⟨2, .phase⟩, ⟨3, .phase⟩, ⟨4, .phase⟩, ⟨5, .phase⟩, ⟨6, .phase⟩, ⟨7, .phase⟩, ⟨8, .phase⟩, ⟨9, .textOnly .lateStores⟩], guard := none }) rfl (fun KK hKK => ?_) AllReadyH.nil
      go_simp
      refine hKK.out _ _ hH (fun hH => ?_)
      clear hKK KK
      try simp only [Act.put, List.setIfInBounds_toArray, List.set_cons_zero, List.set_cons_succ]
      refine wpAnyH_ready (rs := [11]) (by kernel_rfl) (by simp) ?_
      refine AllReadyH.cons (o := { dst := some 15, op := Op.assign (Operand.tmp 66), type := 25, pos := "law.go:116", after := #[⟨9, .data⟩, ⟨10, .chain⟩, ⟨0, .phase⟩, ⟨1, .phase⟩, ⟨2, .phase⟩, ⟨3, .phase⟩, ⟨4, .phase⟩, ⟨5, .phase⟩, ⟨6, .phase⟩, ⟨7, .phase⟩, ⟨8, .phase⟩, ⟨9, .phase⟩, ⟨10, .phase⟩], guard := none }) rfl (fun KK hKK => ?_) AllReadyH.nil
      go_simp
      refine hKK.out _ _ hH (fun hH => ?_)
      clear hKK KK
      try simp only [Act.put, List.setIfInBounds_toArray, List.set_cons_zero, List.set_cons_succ]
      refine wpAnyH_done (by kernel_rfl) ?_ _
      refine NoPanic.normal ?_
      have BK1 := Lib.hid hH
      clear hH
      have LK := Lib.hid (fun X (h : Below z1.heap.size z1 X) => BK1.out.trans (h.mono BK1.out.size))
      go_upto_region 12 with fail
      refine wp_region_noPanic ?_
      refine wp_region_held_drew (S := fun w' => Below z1.heap.size z1 w') (by kernel_rfl) (below_drew' (Below.refl _ _)) (fun hH => ?_)
      generalize z1.drew = t0 at *
      refine wpAnyH_take (i := 0) (oi := { dst := some 67, op := Op.move (Operand.tmp 15), type := 25, pos := "law.go:117", after := #[], guard := none }) (v := .int .i64 0) rfl (by kernel_rfl) (by kernel_rfl) (by kernel_rfl) (fun _ _ _ h => h) (Or.inl ⟨by rfl, fun wx hS => ?_⟩) hH ?_
      · go_simp
      simp only [Act.put, List.setIfInBounds_toArray, List.set_cons_zero, List.set_cons_succ]
      refine wpAnyH_take (i := 1) (oi := { dst := some 68, op := Op.binOp BinOp.neq 25 (Operand.tmp 67) (Operand.const (Value.int IntKind.i64 0)) 25, type := 4, pos := "law.go:117", after := #[⟨0, .data⟩], guard := none }) (v := .bool false) rfl (by kernel_rfl) (by kernel_rfl) (by kernel_rfl) (fun _ _ _ h => h) (Or.inl ⟨by rfl, fun wx hS => ?_⟩) hH ?_
      · go_simp
      simp only [Act.put, List.setIfInBounds_toArray, List.set_cons_zero, List.set_cons_succ]
      refine wpAnyH_take (i := 2) (oi := { dst := some 69, op := Op.move (Operand.tmp 68), type := 4, pos := "law.go:117", after := #[⟨1, .data⟩], guard := none }) (v := .bool false) rfl (by kernel_rfl) (by kernel_rfl) (by kernel_rfl) (fun _ _ _ h => h) (Or.inl ⟨by rfl, fun wx hS => ?_⟩) hH ?_
      · go_simp
      simp only [Act.put, List.setIfInBounds_toArray, List.set_cons_zero, List.set_cons_succ]
      refine wpAnyH_take (i := 3) (oi := { dst := some 70, op := Op.move (Operand.tmp 14), type := 30, pos := "law.go:117", after := #[⟨2, .guard⟩], guard := some (2, false) }) (v := .slice va dd.length vc) rfl (by kernel_rfl) (by kernel_rfl) (by kernel_rfl) (fun _ _ _ h => h) (Or.inl ⟨by rfl, fun wx hS => ?_⟩) hH ?_
      · go_simp
      simp only [Act.put, List.setIfInBounds_toArray, List.set_cons_zero, List.set_cons_succ]
      refine wpAnyH_take (i := 4) (oi := { dst := some 71, op := Op.convert 30 9 (Operand.tmp 70), type := 9, pos := "law.go:117", after := #[⟨3, .data⟩, ⟨2, .guard⟩], guard := some (2, false) }) (v := .string (str dd)) rfl (by kernel_rfl) (by kernel_rfl) (by kernel_rfl) (fun _ _ _ h => h) (Or.inl ⟨by rfl, fun wx hS => ?_⟩) hH ?_
      · have e1 := conv_string wx va dd vc (OV.out.below hS).1.2.2; go_simp
      simp only [Act.put, List.setIfInBounds_toArray, List.set_cons_zero, List.set_cons_succ]
      refine wpAnyH_take (i := 5) (oi := { dst := some 72, op := Op.move (Operand.tmp 7), type := 22, pos := "law.go:117", after := #[⟨2, .guard⟩], guard := some (2, false) }) (v := .slice (some ⟨b3, o3, none⟩) Dl.length dh) rfl (by kernel_rfl) (by kernel_rfl) (by kernel_rfl) (fun _ _ _ h => h) (Or.inl ⟨by rfl, fun wx hS => ?_⟩) hH ?_
      · go_simp
      simp only [Act.put, List.setIfInBounds_toArray, List.set_cons_zero, List.set_cons_succ]
      refine wpAnyH_take (i := 6) (oi := { dst := some 73, op := Op.move (Operand.tmp 13), type := 3, pos := "law.go:117", after := #[⟨2, .guard⟩], guard := some (2, false) }) (v := .int .i64 (i : Int)) rfl (by kernel_rfl) (by kernel_rfl) (by kernel_rfl) (fun _ _ _ h => h) (Or.inl ⟨by rfl, fun wx hS => ?_⟩) hH ?_
      · go_simp
      simp only [Act.put, List.setIfInBounds_toArray, List.set_cons_zero, List.set_cons_succ]
      refine wpAnyH_take (i := 7) (oi := { dst := some 74, op := Op.indexAddr 22 (Operand.tmp 72) (Operand.tmp 73), type := 0, pos := "law.go:117", after := #[⟨5, .data⟩, ⟨6, .data⟩, ⟨2, .guard⟩], guard := some (2, false) }) (v := .pointer (some ⟨b3, o3 + i * 2, none⟩)) rfl (by kernel_rfl) (by kernel_rfl) (by kernel_rfl) (fun _ _ _ h => h) (Or.inl ⟨by rfl, fun wx hS => ?_⟩) hH ?_
      · go_simp
      simp only [Act.put, List.setIfInBounds_toArray, List.set_cons_zero, List.set_cons_succ]
      refine wpAnyH_take (i := 8) (oi := { dst := some 75, op := Op.fieldAddr 40 (Operand.tmp 74) 1, type := 0, pos := "law.go:117", after := #[⟨7, .data⟩, ⟨2, .guard⟩], guard := some (2, false) }) (v := .pointer (some ⟨b3, o3 + i * 2 + 1, none⟩)) rfl (by kernel_rfl) (by kernel_rfl) (by kernel_rfl) (fun _ _ _ h => h) (Or.inl ⟨by rfl, fun wx hS => ?_⟩) hH ?_
      · go_simp
      simp only [Act.put, List.setIfInBounds_toArray, List.set_cons_zero, List.set_cons_succ]
      refine wpAnyH_take (i := 9) (oi := { dst := some 76, op := Op.load 30 (Operand.tmp 75), type := 30, pos := "law.go:117", after := #[⟨8, .data⟩, ⟨2, .guard⟩], guard := some (2, false) }) (v := .slice ea dd.length ec) rfl (by kernel_rfl) (by kernel_rfl) (by kernel_rfl) (fun _ _ _ h => h) (Or.inl ⟨by rfl, fun wx hS => ?_⟩) hH ?_
      · have e1 := R4.out wx (LK.out wx hS); go_simp
      simp only [Act.put, List.setIfInBounds_toArray, List.set_cons_zero, List.set_cons_succ]
      refine wpAnyH_take (i := 10) (oi := { dst := some 77, op := Op.convert 30 9 (Operand.tmp 76), type := 9, pos := "law.go:117", after := #[⟨9, .data⟩, ⟨2, .guard⟩], guard := some (2, false) }) (v := .string (str dd)) rfl (by kernel_rfl) (by kernel_rfl) (by kernel_rfl) (fun _ _ _ h => h) (Or.inl ⟨by rfl, fun wx hS => ?_⟩) hH ?_
      · have e1 := conv_string wx ea dd ec (DO.out wx (BR.out.trans ((LK.out wx hS).mono BR.out.size))).1.2.2; go_simp
      simp only [Act.put, List.setIfInBounds_toArray, List.set_cons_zero, List.set_cons_succ]
      refine wpAnyH_take (i := 11) (oi := { dst := some 78, op := Op.binOp BinOp.neq 9 (Operand.tmp 71) (Operand.tmp 77) 9, type := 4, pos := "law.go:117", after := #[⟨4, .data⟩, ⟨10, .data⟩, ⟨2, .guard⟩], guard := some (2, false) }) (v := .bool false) rfl (by kernel_rfl) (by kernel_rfl) (by kernel_rfl) (fun _ _ _ h => h) (Or.inl ⟨by rfl, fun wx hS => ?_⟩) hH ?_
      · go_simp
      simp only [Act.put, List.setIfInBounds_toArray, List.set_cons_zero, List.set_cons_succ]
      refine wpAnyH_take (i := 12) (oi := { dst := some 79, op := Op.pick (Operand.tmp 69) (Operand.const (Value.bool true)) (Operand.tmp 78), type := 4, pos := "law.go:117", after := #[⟨2, .data⟩, ⟨11, .data⟩], guard := none }) (v := .bool false) rfl (by kernel_rfl) (by kernel_rfl) (by kernel_rfl) (fun _ _ _ h => h) (Or.inl ⟨by rfl, fun wx hS => ?_⟩) hH ?_
      · go_simp
      simp only [Act.put, List.setIfInBounds_toArray, List.set_cons_zero, List.set_cons_succ]
      refine wpAnyH_take (i := 13) (oi := { dst := some 80, op := Op.move (Operand.tmp 79), type := 4, pos := "law.go:117", after := #[⟨12, .data⟩, ⟨2, .chain⟩], guard := none }) (v := .bool false) rfl (by kernel_rfl) (by kernel_rfl) (by kernel_rfl) (fun _ _ _ h => h) (Or.inl ⟨by rfl, fun wx hS => ?_⟩) hH ?_
      · go_simp
      simp only [Act.put, List.setIfInBounds_toArray, List.set_cons_zero, List.set_cons_succ]
      refine wpAnyH_take (i := 14) (oi := { dst := some 81, op := Op.move (Operand.tmp 6), type := 31, pos := "law.go:117", after := #[⟨13, .guard⟩], guard := some (13, false) }) (v := .slice (some ⟨b1, o1, none⟩) nl dl) rfl (by kernel_rfl) (by kernel_rfl) (by kernel_rfl) (fun _ _ _ h => h) (Or.inl ⟨by rfl, fun wx hS => ?_⟩) hH ?_
      · go_simp
      simp only [Act.put, List.setIfInBounds_toArray, List.set_cons_zero, List.set_cons_succ]
      refine wpAnyH_take (i := 15) (oi := { dst := some 82, op := Op.move (Operand.tmp 13), type := 3, pos := "law.go:117", after := #[⟨13, .guard⟩], guard := some (13, false) }) (v := .int .i64 (i : Int)) rfl (by kernel_rfl) (by kernel_rfl) (by kernel_rfl) (fun _ _ _ h => h) (Or.inl ⟨by rfl, fun wx hS => ?_⟩) hH ?_
      · go_simp
      simp only [Act.put, List.setIfInBounds_toArray, List.set_cons_zero, List.set_cons_succ]
      refine wpAnyH_take (i := 16) (oi := { dst := some 83, op := Op.indexAddr 31 (Operand.tmp 81) (Operand.tmp 82), type := 0, pos := "law.go:117", after := #[⟨14, .data⟩, ⟨15, .data⟩, ⟨13, .guard⟩], guard := some (13, false) }) (v := .pointer (some ⟨b1, o1 + i * 35, none⟩)) rfl (by kernel_rfl) (by kernel_rfl) (by kernel_rfl) (fun _ _ _ h => h) (Or.inl ⟨by rfl, fun wx hS => ?_⟩) hH ?_
      · go_simp
      simp only [Act.put, List.setIfInBounds_toArray, List.set_cons_zero, List.set_cons_succ]
      refine wpAnyH_take (i := 17) (oi := { dst := some 84, op := Op.fieldAddr 66 (Operand.tmp 83) 1, type := 0, pos := "law.go:117", after := #[⟨16, .data⟩, ⟨13, .guard⟩], guard := some (13, false) }) (v := .pointer (some ⟨b1, o1 + i * 35 + 32, none⟩)) rfl (by kernel_rfl) (by kernel_rfl) (by kernel_rfl) (fun _ _ _ h => h) (Or.inl ⟨by rfl, fun wx hS => ?_⟩) hH ?_
      · go_simp
      simp only [Act.put, List.setIfInBounds_toArray, List.set_cons_zero, List.set_cons_succ]
      refine wpAnyH_take (i := 18) (oi := { dst := some 85, op := Op.load 3 (Operand.tmp 84), type := 3, pos := "law.go:117", after := #[⟨17, .data⟩, ⟨13, .guard⟩], guard := some (13, false) }) (v := .int .i64 da) rfl (by kernel_rfl) (by kernel_rfl) (by kernel_rfl) (fun _ _ _ h => h) (Or.inl ⟨by rfl, fun wx hS => ?_⟩) hH ?_
      · have e1 := C0.out wx (LK.out wx hS); go_simp
      simp only [Act.put, List.setIfInBounds_toArray, List.set_cons_zero, List.set_cons_succ]
      refine wpAnyH_take (i := 19) (oi := { dst := some 86, op := Op.move (Operand.tmp 7), type := 22, pos := "law.go:117", after := #[⟨13, .guard⟩], guard := some (13, false) }) (v := .slice (some ⟨b3, o3, none⟩) Dl.length dh) rfl (by kernel_rfl) (by kernel_rfl) (by kernel_rfl) (fun _ _ _ h => h) (Or.inl ⟨by rfl, fun wx hS => ?_⟩) hH ?_
      · go_simp
      simp only [Act.put, List.setIfInBounds_toArray, List.set_cons_zero, List.set_cons_succ]
      refine wpAnyH_take (i := 20) (oi := { dst := some 87, op := Op.move (Operand.tmp 13), type := 3, pos := "law.go:117", after := #[⟨13, .guard⟩], guard := some (13, false) }) (v := .int .i64 (i : Int)) rfl (by kernel_rfl) (by kernel_rfl) (by kernel_rfl) (fun _ _ _ h => h) (Or.inl ⟨by rfl, fun wx hS => ?_⟩) hH ?_
      · go_simp
      simp only [Act.put, List.setIfInBounds_toArray, List.set_cons_zero, List.set_cons_succ]
      refine wpAnyH_take (i := 21) (oi := { dst := some 88, op := Op.indexAddr 22 (Operand.tmp 86) (Operand.tmp 87), type := 0, pos := "law.go:117", after := #[⟨19, .data⟩, ⟨20, .data⟩, ⟨13, .guard⟩], guard := some (13, false) }) (v := .pointer (some ⟨b3, o3 + i * 2, none⟩)) rfl (by kernel_rfl) (by kernel_rfl) (by kernel_rfl) (fun _ _ _ h => h) (Or.inl ⟨by rfl, fun wx hS => ?_⟩) hH ?_
      · go_simp
      simp only [Act.put, List.setIfInBounds_toArray, List.set_cons_zero, List.set_cons_succ]
      refine wpAnyH_take (i := 22) (oi := { dst := some 89, op := Op.fieldAddr 40 (Operand.tmp 88) 0, type := 0, pos := "law.go:117", after := #[⟨21, .data⟩, ⟨13, .guard⟩], guard := some (13, false) }) (v := .pointer (some ⟨b3, o3 + i * 2, none⟩)) rfl (by kernel_rfl) (by kernel_rfl) (by kernel_rfl) (fun _ _ _ h => h) (Or.inl ⟨by rfl, fun wx hS => ?_⟩) hH ?_
      · go_simp
      simp only [Act.put, List.setIfInBounds_toArray, List.set_cons_zero, List.set_cons_succ]
      refine wpAnyH_take (i := 23) (oi := { dst := some 90, op := Op.load 3 (Operand.tmp 89), type := 3, pos := "law.go:117", after := #[⟨22, .data⟩, ⟨13, .guard⟩], guard := some (13, false) }) (v := .int .i64 da) rfl (by kernel_rfl) (by kernel_rfl) (by kernel_rfl) (fun _ _ _ h => h) (Or.inl ⟨by rfl, fun wx hS => ?_⟩) hH ?_
      · have e1 := R3.out wx (LK.out wx hS); go_simp
      simp only [Act.put, List.setIfInBounds_toArray, List.set_cons_zero, List.set_cons_succ]
      refine wpAnyH_take (i := 24) (oi := { dst := some 91, op := Op.binOp BinOp.neq 3 (Operand.tmp 85) (Operand.tmp 90) 3, type := 4, pos := "law.go:117", after := #[⟨18, .data⟩, ⟨23, .data⟩, ⟨13, .guard⟩], guard := some (13, false) }) (v := .bool false) rfl (by kernel_rfl) (by kernel_rfl) (by kernel_rfl) (fun _ _ _ h => h) (Or.inl ⟨by rfl, fun wx hS => ?_⟩) hH ?_
      · go_simp
      simp only [Act.put, List.setIfInBounds_toArray, List.set_cons_zero, List.set_cons_succ]
      refine wpAnyH_take (i := 25) (oi := { dst := some 92, op := Op.pick (Operand.tmp 80) (Operand.const (Value.bool true)) (Operand.tmp 91), type := 4, pos := "law.go:117", after := #[⟨13, .data⟩, ⟨24, .data⟩], guard := none }) (v := .bool false) rfl (by kernel_rfl) (by kernel_rfl) (by kernel_rfl) (fun _ _ _ h => h) (Or.inl ⟨by rfl, fun wx hS => ?_⟩) hH ?_
      · go_simp
      simp only [Act.put, List.setIfInBounds_toArray, List.set_cons_zero, List.set_cons_succ]
      refine wpAnyH_take (i := 26) (oi := { dst := some 93, op := Op.move (Operand.tmp 92), type := 4, pos := "law.go:117", after := #[⟨25, .data⟩, ⟨13, .chain⟩], guard := none }) (v := .bool false) rfl (by kernel_rfl) (by kernel_rfl) (by kernel_rfl) (fun _ _ _ h => h) (Or.inl ⟨by rfl, fun wx hS => ?_⟩) hH ?_
      · go_simp
      simp only [Act.put, List.setIfInBounds_toArray, List.set_cons_zero, List.set_cons_succ]
      refine wpAnyH_take (i := 27) (oi := { dst := some 94, op := Op.move (Operand.tmp 6), type := 31, pos := "law.go:117", after := #[⟨26, .guard⟩], guard := some (26, false) }) (v := .slice (some ⟨b1, o1, none⟩) nl dl) rfl (by kernel_rfl) (by kernel_rfl) (by kernel_rfl) (fun _ _ _ h => h) (Or.inl ⟨by rfl, fun wx hS => ?_⟩) hH ?_
      · go_simp
      simp only [Act.put, List.setIfInBounds_toArray, List.set_cons_zero, List.set_cons_succ]
      refine wpAnyH_take (i := 28) (oi := { dst := some 95, op := Op.move (Operand.tmp 13), type := 3, pos := "law.go:117", after := #[⟨26, .guard⟩], guard := some (26, false) }) (v := .int .i64 (i : Int)) rfl (by kernel_rfl) (by kernel_rfl) (by kernel_rfl) (fun _ _ _ h => h) (Or.inl ⟨by rfl, fun wx hS => ?_⟩) hH ?_
      · go_simp
      simp only [Act.put, List.setIfInBounds_toArray, List.set_cons_zero, List.set_cons_succ]
      refine wpAnyH_take (i := 29) (oi := { dst := some 96, op := Op.indexAddr 31 (Operand.tmp 94) (Operand.tmp 95), type := 0, pos := "law.go:117", after := #[⟨27, .data⟩, ⟨28, .data⟩, ⟨26, .guard⟩], guard := some (26, false) }) (v := .pointer (some ⟨b1, o1 + i * 35, none⟩)) rfl (by kernel_rfl) (by kernel_rfl) (by kernel_rfl) (fun _ _ _ h => h) (Or.inl ⟨by rfl, fun wx hS => ?_⟩) hH ?_
      · go_simp
      simp only [Act.put, List.setIfInBounds_toArray, List.set_cons_zero, List.set_cons_succ]
      refine wpAnyH_take (i := 30) (oi := { dst := some 97, op := Op.fieldAddr 66 (Operand.tmp 96) 0, type := 0, pos := "law.go:117", after := #[⟨29, .data⟩, ⟨26, .guard⟩], guard := some (26, false) }) (v := .pointer (some ⟨b1, o1 + i * 35, none⟩)) rfl (by kernel_rfl) (by kernel_rfl) (by kernel_rfl) (fun _ _ _ h => h) (Or.inl ⟨by rfl, fun wx hS => ?_⟩) hH ?_
      · go_simp
      simp only [Act.put, List.setIfInBounds_toArray, List.set_cons_zero, List.set_cons_succ]
      refine wpAnyH_take (i := 33) (oi := { dst := some 100, op := Op.move (Operand.tmp 6), type := 31, pos := "law.go:117", after := #[⟨26, .guard⟩], guard := some (26, false) }) (v := .slice (some ⟨b1, o1, none⟩) nl dl) rfl (by kernel_rfl) (by kernel_rfl) (by kernel_rfl) (fun _ _ _ h => h) (Or.inl ⟨by rfl, fun wx hS => ?_⟩) hH ?_
      · go_simp
      simp only [Act.put, List.setIfInBounds_toArray, List.set_cons_zero, List.set_cons_succ]
      refine wpAnyH_take (i := 34) (oi := { dst := some 101, op := Op.move (Operand.tmp 13), type := 3, pos := "law.go:117", after := #[⟨26, .guard⟩], guard := some (26, false) }) (v := .int .i64 (i : Int)) rfl (by kernel_rfl) (by kernel_rfl) (by kernel_rfl) (fun _ _ _ h => h) (Or.inl ⟨by rfl, fun wx hS => ?_⟩) hH ?_
      · go_simp
      simp only [Act.put, List.setIfInBounds_toArray, List.set_cons_zero, List.set_cons_succ]
      refine wpAnyH_take (i := 35) (oi := { dst := some 102, op := Op.indexAddr 31 (Operand.tmp 100) (Operand.tmp 101), type := 0, pos := "law.go:117", after := #[⟨33, .data⟩, ⟨34, .data⟩, ⟨26, .guard⟩], guard := some (26, false) }) (v := .pointer (some ⟨b1, o1 + i * 35, none⟩)) rfl (by kernel_rfl) (by kernel_rfl) (by kernel_rfl) (fun _ _ _ h => h) (Or.inl ⟨by rfl, fun wx hS => ?_⟩) hH ?_
      · go_simp
      simp only [Act.put, List.setIfInBounds_toArray, List.set_cons_zero, List.set_cons_succ]
      refine wpAnyH_take (i := 36) (oi := { dst := some 103, op := Op.fieldAddr 66 (Operand.tmp 102) 1, type := 0, pos := "law.go:117", after := #[⟨35, .data⟩, ⟨26, .guard⟩], guard := some (26, false) }) (v := .pointer (some ⟨b1, o1 + i * 35 + 32, none⟩)) rfl (by kernel_rfl) (by kernel_rfl) (by kernel_rfl) (fun _ _ _ h => h) (Or.inl ⟨by rfl, fun wx hS => ?_⟩) hH ?_
      · go_simp
      simp only [Act.put, List.setIfInBounds_toArray, List.set_cons_zero, List.set_cons_succ]
      refine wpAnyH_take (i := 37) (oi := { dst := some 104, op := Op.load 3 (Operand.tmp 103), type := 3, pos := "law.go:117", after := #[⟨36, .data⟩, ⟨26, .guard⟩], guard := some (26, false) }) (v := .int .i64 da) rfl (by kernel_rfl) (by kernel_rfl) (by kernel_rfl) (fun _ _ _ h => h) (Or.inl ⟨by rfl, fun wx hS => ?_⟩) hH ?_
      · have e1 := C0.out wx (LK.out wx hS); go_simp
      simp only [Act.put, List.setIfInBounds_toArray, List.set_cons_zero, List.set_cons_succ]
      refine wpAnyH_take (i := 31) (oi := { dst := some 98, op := Op.load 24 (Operand.tmp 97), type := 24, pos := "law.go:117", after := #[⟨30, .data⟩, ⟨26, .guard⟩], guard := some (26, false) }) (v := .agg (byteCells x.id).toArray) rfl (by kernel_rfl) (by kernel_rfl) (by kernel_rfl) (fun _ _ _ h => h) (yieldsIf_load_mid (by rfl) 24 _ rfl (b1) (o1 + i * 35) rfl (byteCells x.id) _ (fun wx hS => XI.out wx (LK.out wx hS)) Tryd.underlying24 rfl (by rw [infoId, X32.out])) hH ?_
      simp only [Act.put, List.setIfInBounds_toArray, List.set_cons_zero, List.set_cons_succ]
      refine wpAnyH_take (i := 32) (oi := { dst := some 99, op := Op.load 58 (Operand.tmp 9), type := 58, pos := "law.go:117", after := #[⟨26, .guard⟩], guard := some (26, false) }) (v := .agg (byteCells (ringN n)).toArray) rfl (by kernel_rfl) (by kernel_rfl) (by kernel_rfl) (fun _ _ _ h => h) (yieldsIf_load_mid (by rfl) 58 _ rfl (kk) 0 rfl (byteCells (ringN n)) _ (fun wx hS => KX.out wx (LK.out wx hS)) Tryd.underlying58 rfl (by rw [info_ring, byteCells_length, ringN_length])) hH ?_
      simp only [Act.put, List.setIfInBounds_toArray, List.set_cons_zero, List.set_cons_succ]
      refine wpAnyH_take (i := 38) (oi := { dst := some 105, op := Op.convert 3 5 (Operand.tmp 104), type := 5, pos := "law.go:117", after := #[⟨37, .data⟩, ⟨26, .guard⟩], guard := some (26, false) }) (v := .int .u8 (V k8)) rfl (by kernel_rfl) (by kernel_rfl) (by kernel_rfl) (fun _ _ _ h => h) (Or.inl ⟨by rfl, fun wx hS => ?_⟩) hH ?_
      · have e1 := K8.out; go_simp
      simp only [Act.put, List.setIfInBounds_toArray, List.set_cons_zero, List.set_cons_succ]
      refine wpAnyH_take (i := 39) (oi := { dst := some 106, op := Op.move (Operand.tmp 14), type := 30, pos := "law.go:117", after := #[⟨26, .guard⟩], guard := some (26, false) }) (v := .slice va dd.length vc) rfl (by kernel_rfl) (by kernel_rfl) (by kernel_rfl) (fun _ _ _ h => h) (Or.inl ⟨by rfl, fun wx hS => ?_⟩) hH ?_
      · go_simp
      simp only [Act.put, List.setIfInBounds_toArray, List.set_cons_zero, List.set_cons_succ]
      refine wpAnyH_ready (rs := [40]) (by kernel_rfl) (by simp) ?_
      refine AllReadyH.cons (o := { dst := some 107, op := Op.buildSlice 71 1 #[(0, Operand.tmp 106)], type := 71, pos := "law.go:117", after := #[⟨39, .data⟩, ⟨26, .guard⟩], guard := some (26, false) }) rfl (fun KK hKK => ?_) AllReadyH.nil
      go_simp
      have kb := alloc_below t0 (.cells #[.slice va dd.length vc] 30 (0, 0))
      have OVX := OV.out.below hH
      have PP := parts_lit t0 [⟨va, vc, dd⟩] (fun q hq => by rw [List.mem_singleton.1 hq]; exact OVX.1) #[.slice va dd.length vc] rfl
      have PP : Hid (partsIn (t0.alloc (.cells #[.slice va dd.length vc] 30 (0, 0))) (some ⟨t0.heap.size, 0, none⟩) [dd]) := Lib.hid PP
      have hN := hH.trans (kb.mono hH.size)
      clear hH kb OVX
      refine hKK.out _ _ hN (fun hH => ?_)
      clear hKK KK hN
      try simp only [Act.put, List.setIfInBounds_toArray, List.set_cons_zero, List.set_cons_succ]
      generalize t0.alloc (.cells #[.slice va dd.length vc] 30 (0, 0)) = t1 at *
      generalize t0.heap.size = pb at *
      refine wpAnyH_ready (rs := [41]) (by kernel_rfl) (by simp) ?_
      refine AllReadyH.cons (o := { dst := some 108, op := Op.call { callee := Callee.value (Operand.func 22), args := #[Operand.tmp 99, Operand.tmp 105, Operand.tmp 107], argTypes := #[58, 5, 71] }, type := 24, pos := "law.go:117", after := #[⟨32, .data⟩, ⟨38, .data⟩, ⟨40, .data⟩, ⟨26, .chain⟩, ⟨26, .guard⟩], guard := some (26, false) }) rfl (fun KK hKK => ?_) AllReadyH.nil
      go_simp
      have TT := T9.out.below (BR.out.trans ((LK.out t1 hH).mono BR.out.size)) T9.out.2.2.1 T9.out.2.2.2
      have IDA := id_any (kN n 1 ++ kN n 2) (kN n 3) k8 _ 1 [dd] t1 (by simp [kN_length]) (kN_length _ _) (by simp) (Nat.le_refl _) (fun h => by cases h) (by simp; have := HDL.out; omega) PP.out TT
      rw [show [dd].flatten = dd by simp, ← HX5.out, List.append_assoc] at IDA
      refine IDA.mono ?_
      rintro e t2 ⟨rfl, hb⟩
      have hN := hH.trans (hb.mono hH.size)
      clear hH hb IDA TT PP
      refine hKK.out _ _ hN (fun hH => ?_)
      clear hKK KK hN
      try simp only [Act.put, List.setIfInBounds_toArray, List.set_cons_zero, List.set_cons_succ]
      refine wpAnyH_take (i := 42) (oi := { dst := some 109, op := Op.binOp BinOp.neq 24 (Operand.tmp 98) (Operand.tmp 108) 24, type := 4, pos := "law.go:117", after := #[⟨31, .data⟩, ⟨41, .data⟩, ⟨26, .guard⟩], guard := some (26, false) }) (v := .bool false) rfl (by kernel_rfl) (by kernel_rfl) (by kernel_rfl) (fun _ _ _ h => h) (Or.inl ⟨by rfl, fun wx hS => ?_⟩) hH ?_
      · exact neq_idO _ _ _ _ x.id (by rfl) rfl rfl X1.out wx
      simp only [Act.put, List.setIfInBounds_toArray, List.set_cons_zero, List.set_cons_succ]
      refine wpAnyH_take (i := 43) (oi := { dst := some 110, op := Op.pick (Operand.tmp 93) (Operand.const (Value.bool true)) (Operand.tmp 109), type := 4, pos := "law.go:117", after := #[⟨26, .data⟩, ⟨42, .data⟩], guard := none }) (v := .bool false) rfl (by kernel_rfl) (by kernel_rfl) (by kernel_rfl) (fun _ _ _ h => h) (Or.inl ⟨by rfl, fun wx hS => ?_⟩) hH ?_
      · go_simp
      simp only [Act.put, List.setIfInBounds_toArray, List.set_cons_zero, List.set_cons_succ]
      refine wpAnyH_done (by kernel_rfl) ?_ _
      refine NoPanic.normal ?_
      have BR2 := Lib.hid (BR.out.trans ((LK.out _ hH).mono BR.out.size))
      clear hH
      go_wp2_with fail
      go_roundw
      case rel => exact ⟨i + 1, by omega, by go_num, BR2⟩
      case measure => simp [intOf]; omega
    · have q1 : ¬ (i : Int) < (nl : Int) := by omega
      go_wp2_with fail
      go_ret
      exact ⟨rfl, W9.out.trans (BR.out.mono W9.out.size)⟩
end Go.Proofs.YtfhlcondnaahiaaDoor
