/- pack.Entries, of a pack that a writer closed. -/
import Derived.Test.YtfhlcondnaahiaaDoorQr
import Derived.Test.YtfhlcondnaahiaaDoorHa
namespace Go.Proofs.YtfhlcondnaahiaaDoor
open Go.RowKit Sha

theorem openR_seal (H M : List UInt8) (kd : UInt8) (nm N b : List UInt8) (hN : N.length = 16) (hnm : nm.length ≤ 255) : openR H M kd nm (wseal H M kd nm N b) = (b, 0) := by
  unfold wseal
  rw [openR_at H M kd nm N _ _ hN (wmark_length _ _ _ _ _) hnm, if_pos rfl, whide_whide]
theorem info_ring : (Tryd.prog.info? 58).map (·.size) = some 96 := by kernel_rfl

set_option maxRecDepth 100000 in
set_option maxHeartbeats 4000000 in
theorem entries_yes (H M C N Y : List UInt8) (p : Pt) (L : List En) (w : World) (hH : H.length = 32) (hM : M.length = 32) (hC : C.length = 32) (hN : N.length = 16) (hp : p.ok0 w) (he : p.l = (Y ++ wseal H M 104 [104, 101, 97, 100] N (headB L)) ++ be4 (wseal H M 104 [104, 101, 97, 100] N (headB L)).length) (hl : p.l.length ≤ 1000000)
    (hf : ∀ x ∈ L, x.fine) (hm : ∀ x ∈ L, x.len ≤ 1048576) (hn : L.length ≤ 1000) (h0 : 0 < L.length) (hnd : (L.map En.id).Nodup) (ho : ∀ j (h : j < L.length), L[j].off = ((L.take j).map En.len).sum) (hY : Y.length = (L.map En.len).sum) (ht : tables w) :
    Calls Tryd.prog 20 #[.agg (byteCells (H ++ (M ++ C))).toArray, .slice p.a p.l.length p.c] w fun e w' => ∃ v, e = .returned (.tuple #[v, .int .i64 0]) ∧ w'.ownsRow w.heap.size 66 35 v L.length (enCells L) ∧ Below w.heap.size w w' := by
  have hll : (headB L).length ≤ 7 + 37 * L.length := headP_len L hf (by omega) L.length
  obtain ⟨Z, hZ⟩ : ∃ Z, Z = wseal H M 104 [104, 101, 97, 100] N (headB L) := ⟨_, rfl⟩
  rw [← hZ] at he
  have hZl : Z.length = (headB L).length + 48 := by rw [hZ]; exact wseal_length _ _ _ _ _ _ hN
  have hpl : p.l.length = Y.length + Z.length + 4 := by rw [he]; simp [be4]; omega
  have hor := openR_seal H M 104 [104, 101, 97, 100] N (headB L) hN (by decide)
  rw [← hZ] at hor
  have hml : (Y ++ Z).length = Y.length + Z.length := by simp
  have P0 := Lib.hid hp
  have HE := Lib.hid he
  have T0 := Lib.hid ht
  have PS := Lib.hid (fun X (h : p.ok X) => split_yes p Y Z X h he (by omega))
  have CL : Hid ((byteCells (H ++ (M ++ C))).length = 96) := Lib.hid (by rw [byteCells_length]; simp [hH, hM, hC])
  obtain ⟨q1, hq1⟩ : ∃ q, q = (p.sub 0 (Y ++ Z).length).sub 0 Y.length := ⟨_, rfl⟩
  obtain ⟨q2, hq2⟩ : ∃ q, q = (p.sub 0 (Y ++ Z).length).sub Y.length (Y ++ Z).length := ⟨_, rfl⟩
  rw [← hq1, ← hq2] at PS
  have l0 : (p.sub 0 (Y ++ Z).length).l = Y ++ Z := by show (p.l.take _).drop 0 = _; rw [List.drop_zero, he]; exact List.take_left
  have lq1 : q1.l = Y := by rw [hq1]; show ((p.sub 0 (Y ++ Z).length).l.take _).drop 0 = _; rw [l0, List.drop_zero]; exact List.take_left
  have lq2 : q2.l = Z := by rw [hq2]; show ((p.sub 0 (Y ++ Z).length).l.take _).drop _ = _; rw [l0, List.take_length]; exact List.drop_left
  have OQ : Hid (∀ X, p.ok0 X → q2.ok0 X) := Lib.hid (fun X h => by rw [hq2]; exact Pt.sub_ok0 (Pt.sub_ok0 h 0 _ (by omega) (by omega)) _ _ (by omega) (by rw [l0]; exact Nat.le_refl _))
  simp only [Pt.val] at PS
  rw [lq2, show q1.l.length = (L.map En.len).sum by rw [lq1, hY]] at PS
  have PO := Lib.hid (fun X (h : q2.ok0 X) (t : tables X) => openR_any H M 104 [104, 101, 97, 100] Z q2.a q2.c X hH hM (by omega) (lq2 ▸ h.1.1) h.1.2.1 (lq2 ▸ h.1.2.2) t)
  rw [hor, show V 104 = 104 from rfl, show str [104, 101, 97, 100] = ⟨#[104, 101, 97, 100]⟩ from rfl] at PO
  have PR := Lib.hid (fun (P : Pt) X (h : P.ok0 X) (e : P.l = headB L) => readHead_any P L X h e hf hm hn h0 hnd ho)
  obtain ⟨sm, hsm⟩ : ∃ sm, sm = (L.map En.len).sum := ⟨_, rfl⟩
  rw [← hsm] at PS PR
  clear hp he ht hor hll hZ hZl hpl hml hq1 hq2 l0 lq1 lq2 hf hm hn h0 hnd ho hY hl hsm
  generalize p.l.length = pn at *
  generalize Z.length = zn at *
  go_enter Tryd.func20, Tryd.ntmps20
  have kb := alloc_below w (.cells (byteCells (H ++ (M ++ C))).toArray 58 (0, 0))
  have PS1 := PS.out _ (P0.out.below kb).1
  have RB := Lib.hid (blockIs.new w (byteCells (H ++ (M ++ C))) 58)
  have RK : Hid (∀ i u, (keyCells H M)[i]? = some u → (byteCells (H ++ (M ++ C)))[i]? = some u) := Lib.hid (fun i u hi => by
    have e : byteCells (H ++ (M ++ C)) = keyCells H M ++ byteCells C := by simp [keyCells, byteCells, List.append_assoc]
    rw [e, List.getElem?_append_left (List.getElem?_eq_some_iff.1 hi).1]
    exact hi)
  go_wp2_with ((with_reducible refine PS1.mono ?_); rintro e w1 ⟨rfl, hb⟩; refine Hid.out ?_)
  refine Lib.hid ?_
  have B1 := Lib.hid (kb.trans (hb.mono kb.size))
  have RB1 := Lib.hid (RB.out.below hb RB.out.lt)
  have PO1 := PO.out w1 (OQ.out w1 (P0.out.below B1.out)) (T0.out.below B1.out T0.out.2.2.1 T0.out.2.2.2)
  clear PS PS1 PO RB hb kb
  generalize hrb : w.heap.size = rb at *
  have HRB := Lib.hid hrb
  clear hrb
  go_wp2_with (first | ((with_reducible refine PO1.mono ?_); rintro e w2 ⟨v, rfl, hv, hb⟩; refine Hid.out ?_) | (refine wpList_load_mid (by rfl) 56 _ rfl rb 0 rfl (keyCells H M) _ (fun i u hi => (RB1.out.cell (0 + i)).trans (by rw [Nat.zero_add]; exact RK.out i u hi)) Tryd.underlying56 rfl (by rw [infoKeys, keyCells_length hH hM]) ?_))
  refine Lib.hid ?_
  obtain ⟨va, vc, rfl, h1, h2, h3, h4⟩ := hv.form
  have B2 := Lib.hid (B1.out.trans (hb.mono (by have := B1.out.size; have := HRB.out; omega)))
  have PR1 := PR.out ⟨va, vc, headB L⟩ w2 ⟨⟨h1, h2, h3⟩, h4⟩ rfl
  clear hv hb h1 h2 h3 h4 PR PO1 RB1 B1
  go_wp2_with ((with_reducible refine PR1.mono ?_); rintro e w3 ⟨v, rfl, hv, hb⟩; refine Hid.out ?_)
  refine Lib.hid ?_
  have OV := Lib.hid (Joins.ownsRow_le hv (show rb ≤ w2.heap.size by have := B2.out.size; have := HRB.out; omega))
  have B3 := Lib.hid (B2.out.trans (hb.mono (by have := B2.out.size; have := HRB.out; omega)))
  clear hv hb PR1 B2
  go_wp2_with fail
  refine bodyPost_ret (v := .tuple #[v, .int .i64 0]) (results_tmp2 (t := 4) (u := 5) rfl _ _ _) rfl ?_
  rw [HRB.out]
  exact ⟨_, rfl, OV.out, B3.out⟩
end Go.Proofs.YtfhlcondnaahiaaDoor
