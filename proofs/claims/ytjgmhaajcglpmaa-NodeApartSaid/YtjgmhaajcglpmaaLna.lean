/- The law NodeApart: its walk. -/
import Derived.Test.YtjgmhaajcglpmaaLnb
namespace Go.Proofs.Ytjgmhaajcglpmaa
open Go.RowKit

def idOf (x : UInt8) : List UInt8 := x :: List.replicate 31 0
theorem idOf_len (x : UInt8) : (bvals (idOf x)).length = 32 := by rw [bvals_length]; rfl
section
variable {w : World} {ops : Array Oper} {rest : List Oper} {o : Oper} {a : Act} {Q : Exit → Act → World → Prop}
theorem run_ff (w : World) : (Instr.build 24 #[(0, .int .u8 255)]).run Try.prog w = .ok (.agg (bvals (idOf 255)).toArray) w := by kernel_rfl
theorem run_01 (w : World) : (Instr.build 24 #[(0, .int .u8 1)]).run Try.prog w = .ok (.agg (bvals (idOf 1)).toArray) w := by kernel_rfl
theorem build_ff (hw : Region.wanted o (yielded ops a.tmps) = true) (ho : o.op = .build 24 #[(0, .const (.int .u8 255))])
    (cs : List Value) (hcs : cs = bvals (idOf 255)) (h : wpList Try.prog ops Q rest (a.put o.dst (.agg cs.toArray)) w) : wpList Try.prog ops Q (o :: rest) a w := by
  refine BigFrame.wpList_want hw fun K hK => ?_
  unfold Oper.wp execOp
  simp only [ho, Sem.run_bind]
  rw [show (#[((0 : Nat), Operand.const (.int .u8 255))].map fun ((i, x) : Nat × Operand) => (i, a.eval x)) = #[(0, .int .u8 255)] by simp [Act.eval], run_ff w]
  simp only [Result.andThen_ok, Sem.run_pure]
  rw [hcs] at h
  exact hK _ _ h
theorem build_01 (hw : Region.wanted o (yielded ops a.tmps) = true) (ho : o.op = .build 24 #[(0, .const (.int .u8 1))])
    (cs : List Value) (hcs : cs = bvals (idOf 1)) (h : wpList Try.prog ops Q rest (a.put o.dst (.agg cs.toArray)) w) : wpList Try.prog ops Q (o :: rest) a w := by
  refine BigFrame.wpList_want hw fun K hK => ?_
  unfold Oper.wp execOp
  simp only [ho, Sem.run_bind]
  rw [show (#[((0 : Nat), Operand.const (.int .u8 1))].map fun ((i, x) : Nat × Operand) => (i, a.eval x)) = #[(0, .int .u8 1)] by simp [Act.eval], run_01 w]
  simp only [Result.andThen_ok, Sem.run_pure]
  rw [hcs] at h
  exact hK _ _ h
end
theorem sz_nn : (sizeOf 33).run Try.prog = fun w => .ok 39 w := by kernel_rfl
theorem run_partN (b n c i i1 : Nat) (h1 : i1 = i + 1) (hi : i < n) (hc : n ≤ c) (w : World) : (Instr.slice 27 (.slice (some ⟨b, 0, none⟩) n c) (some (.int .i64 (i : Int))) (some (.int .i64 (i1 : Int))) none).run Try.prog w = .ok (.slice (some ⟨b, i * 39, none⟩) 1 (c - i)) w := by
  have hu : Try.prog.underlying 27 = some (.slice (Try.prog.elem 27)) := by kernel_rfl
  have he : Try.prog.elem 27 = 33 := by kernel_rfl
  rw [run_slice_lh w 27 _ n c hu .i64 .i64 (i : Int) (i1 : Int) (by omega) (by omega) (by omega), he, sz_nn]
  show Result.ok (sliced _ (i : Int).toNat (i1 : Int).toNat c 39) w = _
  rw [Int.toNat_natCast, Int.toNat_natCast]
  unfold sliced
  rw [if_neg (by omega), Option.map_some, Addr.add_lit, show i1 - i = 1 by omega, Nat.zero_add]
theorem from_one (A : Option Addr) (c : Nat) (n : Nd) (w : World) (h : rowN w A [n]) : Calls Try.prog 20 #[.slice A 1 c] w fun e w' => (∃ a7 c7, e = .returned (.slice a7 1 c7) ∧ rowN w' a7 [n]) ∧ Below w.heap.size w w' :=
  (from_any A c [n] w (by simp) h).mono fun e w' ⟨⟨v, h1, h2⟩, h3⟩ => by
    obtain ⟨a7, c7, e7, -, -, -, hr⟩ := h2.row
    exact ⟨⟨a7, c7, by rw [h1, e7]; rfl, hr⟩, h3⟩
theorem same_one (A A2 : Option Addr) (c c2 : Nat) (n : Nd) (w : World) (h : rowN w A [n]) (h2 : rowN w A2 [n]) : Calls Try.prog 19 #[.slice A 1 c, .slice A2 1 c2] w fun e w' => e = .returned (.bool true) ∧ Below w.heap.size w w' :=
  same_any A A2 c c2 [n] w (by simp) h h2
/-- From i on the nodes are what they were; the lists of names apart. -/
structure ApAt (w : World) (B gM capM : Nat) (Q : List (Nd × Value)) (X : List Value) (i : Nat) : Prop where
  blk : blockIs w gM X 33
  len : X.length = capM * 39
  cell : ∀ j (hj : j < Q.length), i ≤ j → ∀ t, t < 39 → X[j * 39 + t]? = (Q[j].1.cells Q[j].2)[t]?
  own : ∀ j (hj : j < Q.length), i ≤ j → w.ownsRow B 24 32 Q[j].2 Q[j].1.parts.length (idcells Q[j].1.parts)
theorem ApAt.below {w w' : World} {B gM capM i : Nat} {Q : List (Nd × Value)} {X : List Value} (h : ApAt w B gM capM Q X i) (hb : Below w.heap.size w w') : ApAt w' B gM capM Q X i :=
  ⟨h.blk.below hb h.blk.lt, h.len, h.cell, fun j hj hi => row_below (h.own j hj hi) hb⟩
theorem ApAt.next {w : World} {B gM capM i : Nat} {Q : List (Nd × Value)} {X : List Value} (h : ApAt w B gM capM Q X i) : ApAt w B gM capM Q X (i + 1) :=
  ⟨h.blk, h.len, fun j hj hi => h.cell j hj (by omega), fun j hj hi => h.own j hj (by omega)⟩
theorem ApAt.row {w : World} {B gM capM i : Nat} {Q : List (Nd × Value)} {X : List Value} (h : ApAt w B gM capM Q X i) (hi : i < Q.length) (hw : Q[i].1.Wf) : rowN w (some ⟨gM, i * 39, none⟩) [Q[i].1] := by
  refine Or.inr ⟨gM, i * 39, rfl, fun k hk => ?_⟩
  obtain rfl : k = 0 := by simp at hk; exact hk
  refine ⟨hw, Q[i].2, (own_ids (h.own i hi (Nat.le_refl _)) hw.part 0).1, fun t u hu => ?_⟩
  have htl := (List.getElem?_eq_some_iff.1 hu).1
  have htl : t < (Q[i].1.cells Q[i].2).length := htl
  rw [Nd.cells_length _ _ hw.tree] at htl
  have hu : (Q[i].1.cells Q[i].2)[t]? = some u := hu
  rw [h.blk.cell, ← hu, show i * 39 + 0 * 39 + t = i * 39 + t by omega]
  exact h.cell i hi (Nat.le_refl _) t htl
theorem ApAt.pv {w : World} {B gM capM i : Nat} {Q : List (Nd × Value)} {X : List Value} (h : ApAt w B gM capM Q X i) (hi : i < Q.length) : X[i * 39 + 6]? = some Q[i].2 := by
  rw [h.cell i hi (Nat.le_refl _) 6 (by decide)]
  rfl
theorem ApAt.not_M {w : World} {B gM capM i : Nat} {Q : List (Nd × Value)} {X : List Value} (h : ApAt w B gM capM Q X i) {n : Nat} {v : Value} {xs : List Value} (hx : w.ownsRow B 24 32 v n xs) : v.ownBlock ≠ some gM := fun e => by
  rcases hx.2 with ⟨rfl, -⟩ | ⟨g, cap, cur, rfl, -, hb, -⟩
  · cases e
  · cases e
    have h1 := h.blk
    unfold blockIs at h1
    rw [hb] at h1
    simp at h1
theorem ApAt.grown {w w' : World} {B gM capM i : Nat} {Q : List (Nd × Value)} {X : List Value} (h : ApAt w B gM capM Q X i) {row : Option Nat} (hg : w.grownBy w' row) (hM : row ≠ some gM) (ho : ∀ t (ht : t < Q.length), i ≤ t → Q[t].2.ownBlock = none ∨ Q[t].2.ownBlock ≠ row) : ApAt w' B gM capM Q X i := by
  refine ⟨?_, h.len, h.cell, fun j hj hi => (h.own j hj hi).kept hg (ho j hj hi)⟩
  have h1 := h.blk
  unfold blockIs at h1 ⊢
  rw [hg.block gM h.blk.lt (fun e => hM e.symm)]
  exact h1
theorem ApAt.but {w w' : World} {B gM capM i g : Nat} {Q : List (Nd × Value)} {X : List Value} (h : ApAt w B gM capM Q X i) (hb : But g w w') (hM : g ≠ gM) (ho : ∀ t (ht : t < Q.length), i ≤ t → Q[t].2.ownBlock = none ∨ Q[t].2.ownBlock ≠ some g) : ApAt w' B gM capM Q X i :=
  h.grown ⟨hb.os, hb.tape, hb.output, hb.size, fun k hk hn => hb.block k hk (fun e => hn (by rw [e]))⟩ (fun e => hM (Option.some.inj e)) ho
theorem ApAt.store {w : World} {B gM capM i : Nat} {Q : List (Nd × Value)} {X : List Value} (h : ApAt w B gM capM Q X i) (p : Nat) (v : Value) (hp : ∀ t, i ≤ t → ∀ s, t * 39 + s ≠ p) : ApAt (w.setCell ⟨gM, p, none⟩ v) B gM capM Q (X.set p v) i := by
  have hb : But gM w (w.setCell ⟨gM, p, none⟩ v) := (But.refl gM w).setCell _ _ (Or.inl rfl)
  have hg : w.grownBy (w.setCell ⟨gM, p, none⟩ v) (some gM) := ⟨hb.os, hb.tape, hb.output, hb.size, fun k hk hn => hb.block k hk (fun e => hn (by rw [e]))⟩
  refine ⟨h.blk.set p v, by rw [List.length_set]; exact h.len, fun j hj hi t ht => ?_, fun j hj hi => (h.own j hj hi).kept hg (.inr (h.not_M (h.own j hj hi)))⟩
  rw [List.getElem?_set_ne (fun e => hp j hi t e.symm)]
  exact h.cell j hj hi t ht
theorem ownA.ap {w : World} {B gM capM : Nat} {Q : List (Nd × Value)} {n : Nat} (h : ownA w B (.slice (some ⟨gM, 0, none⟩) n capM) Q) (hn : 0 < Q.length) : B ≤ gM ∧ Q.length ≤ capM ∧ ∃ X, ApAt w B gM capM Q X 0 := by
  obtain ⟨h1, h2, h3⟩ := h
  have hl := qcells_length Q (fun q hq => (h2 q hq).1.tree)
  rcases h1.2 with ⟨h, -⟩ | ⟨g, cap, cur, e, hba, hb, hn1, hn2, hn3, hn4⟩
  · cases h
  · cases e
    refine ⟨hba, hn1, cur.toList, by unfold blockIs; rw [Array.toArray_toList]; exact hb, by rw [Array.length_toList]; exact hn3, fun j hj _ t ht => ?_, fun j hj _ => (h2 _ (List.getElem_mem hj)).2⟩
    rw [← qcells_get Q (fun q hq => (h2 q hq).1.tree) j hj t ht, ← hn4, List.getElem?_take, if_pos (by
      have : j * 39 + t < Q.length * 39 := by omega
      exact this)]
theorem ownA.ap2 {w : World} {B capM n : Nat} {a : Option Addr} {Q : List (Nd × Value)} (h : ownA w B (.slice a n capM) Q) (hn : 0 < Q.length) : ∃ gM, a = some ⟨gM, 0, none⟩ ∧ B ≤ gM ∧ Q.length ≤ capM ∧ ∃ X, ApAt w B gM capM Q X 0 := by
  have h1 := h.1
  rcases h1.2 with ⟨-, h0⟩ | ⟨g, cap, cur, e, -⟩
  · omega
  · cases e
    exact ⟨g, rfl, h.ap hn⟩
theorem own_new {w : World} {B g cap n : Nat} {e : TypeId} {s : Nat} {xs : List Value} {cur : List Value} (h : w.ownsRow B e s (.slice (some ⟨g, 0, none⟩) n cap) n xs) {w' : World} (hb : blockIs w' g cur e) (hl : ∀ c0, blockIs w g c0 e → cur.length = c0.length) : ∃ ys, w'.ownsRow B e s (.slice (some ⟨g, 0, none⟩) n cap) n ys := by
  rcases h.2 with ⟨h, -⟩ | ⟨g', cap', c0, e', hba, h0, hn1, hn2, hn3, hn4⟩
  · cases h
  · cases e'
    have hlen := hl c0.toList (by unfold blockIs; rw [Array.toArray_toList]; exact h0)
    have e3 : cur.length = cap * s := hlen.trans ((Array.length_toList ..).trans hn3)
    have hm : n * s ≤ cap * s := Nat.mul_le_mul_right s hn1
    refine ⟨cur.take (n * s), by rw [List.length_take]; omega, .inr ⟨g, cap, cur.toArray, rfl, hba, hb, hn1, hn2, by rw [List.size_toArray]; omega, by rw [List.toList_toArray]⟩⟩
set_option maxRecDepth 100000 in
set_option maxHeartbeats 8000000 in
theorem law_nodeApart (a : Option Addr) (c : Nat) (L : List Nd) (w : World) (hlc : L.length ≤ c) (hc : c ≤ 9223372036854775807) (h : rowN w a L) :
    Calls Try.prog 8 #[.slice a L.length c] w fun e w' => e = .returned (.bool true) ∧ Below w.heap.size w w' := by
  have PF := Lib.hid (few_any a c L w (by omega) h)
  have HFL := few_len2 L
  have HFM : Hid (∀ n ∈ fewL L, n.parts.length ≤ 300) := Lib.hid (fun n hn => few_mem2 hn)
  clear h
  go_enter Try.func8, Try.ntmps8
  go_wp2_with fail
  with_reducible refine PF.out.mono ?_
  rintro e w1 ⟨⟨v1, rfl, hv1⟩, b1⟩
  have B1 := Lib.hid b1
  clear b1 PF
  generalize fewL L = M at *
  obtain ⟨a1, c1, rfl, hlc1, hcc1, hz1, hr1⟩ := hv1.row
  have PS := sorted_any a1 c1 M w1 (by omega) hr1
  clear hv1 hr1
  go_wp2_with fail
  with_reducible refine PS.mono ?_
  clear PS
  rintro e w2 ⟨⟨v2, rfl, S, hSl, hord, hv2⟩, b2⟩
  have B2 := Lib.hid (B1.out.trans (b2.mono B1.out.size))
  have HW := Lib.hid hv2.wf
  have HCH : Hid (checkL S = 0) := Lib.hid (hord.okL (by omega))
  have HS3 : Hid (∀ n ∈ S, n.Shape ∧ n.parts.length ≤ 300) := Lib.hid (fun n hn => ⟨shape_of_check (hord.1 n hn).2 (HW.out n hn), HFM.out n (hord.1 n hn).1⟩)
  have HWT : Hid (weight S ≤ 20000) := Lib.hid (by have := weight_le2 S (fun n hn => (HS3.out n hn).2); omega)
  have HP32 : Hid (∀ n ∈ S, n.parts.length * 32 ≤ 140737488355328) := Lib.hid (fun n hn => by have := (HS3.out n hn).2; omega)
  have HSL : S.length ≤ 60 := by omega
  obtain ⟨a2, c2, rfl, hlc2, hcc2, hz2, hr2⟩ := hv2.row
  have R2 := Lib.hid hr2
  clear hv2 hr2 b2 B1 hord
  have PT := Lib.hid (to_any a2 c2 S w2 (by omega) HP32.out R2.out)
  go_wp2_with fail
  with_reducible refine PT.out.mono ?_
  clear PT
  rintro e w3 ⟨⟨v3, rfl, hv3⟩, b3⟩
  have B3 := Lib.hid (B2.out.trans (b3.mono B2.out.size))
  have R3 := Lib.hid (R2.out.below b3 (Nat.le_refl _))
  obtain ⟨a3, c3, rfl, hlc3, hcc3, hz3, hr3⟩ := hv3.row
  have PE := encode_any a3 c3 S w3 (by omega) HWT.out hr3
  clear hv3 hr3 b3 B2 R2
  go_wp2_with fail
  with_reducible refine PE.mono ?_
  clear PE
  rintro e w4 ⟨he, b4⟩
  obtain ⟨-, v4, rfl, hrow⟩ := he.resolve_right (fun h => h.1 HCH.out)
  clear he
  have HDI : Hid (DecIs (encBytes S) S) := Lib.hid ⟨HCH.out, HW.out, rfl⟩
  have HEL := enc_len HS3.out HSL
  generalize hE : encBytes S = E at *
  have B4 := Lib.hid (B3.out.trans (b4.mono B3.out.size))
  have R4 := Lib.hid (R3.out.below b4 (Nat.le_refl _))
  have HROW := Lib.hid hrow
  obtain ⟨va, vc, rfl, hv1, hv2, hv3, hv4, hv5⟩ := rowIs.form2 hrow
  have E4 := Lib.hid hv3
  have B34 := Lib.hid b4
  clear hE b4 hrow R4 B4 hv3 hv5
  have PD := decode_any va vc E w4 hv1 hv2 hv4 E4.out (by omega)
  go_wp2_with fail
  with_reducible refine PD.mono ?_
  clear PD
  rintro e w6 ⟨he, b6⟩
  obtain ⟨v6, Q, rfl, hdq, hA⟩ := he.resolve_right (fun h => h.2 S HDI.out)
  have hQS : Q.map Prod.fst = S := hdq.det HDI.out
  have HQS := Lib.hid hQS
  obtain ⟨a6, c6, rfl, hlc6, hcc6, hz6, -⟩ := hA.slice
  have hQl : Q.length = S.length := by rw [← hQS, List.length_map]
  rw [hQl] at hlc6
  rw [hQl] at hA
  rw [hQl]
  have HQL := Lib.hid hQl
  have HPW := Lib.hid hA.2.2
  have HWQ : Hid (∀ q ∈ Q, q.1.Wf) := Lib.hid (fun q hq => (hA.2.1 q hq).1)
  have PNO := nodes_any w6
  clear he hdq hQS hQl
  go_wp2_with fail
  with_reducible refine PNO.mono ?_
  clear PNO
  rintro e w7 ⟨rfl, b7⟩
  have HA7 := Lib.hid (hA.below b7)
  have HR7 := Lib.hid (row_below (row_below HROW.out b6) b7)
  obtain ⟨B, hB⟩ : ∃ B, B = w4.heap.size := ⟨_, rfl⟩
  have hgl := fun g hg => (World.ownsRow.lt HROW.out g hg)
  rw [← hB] at HA7 hgl
  have HB3 : Hid (w3.heap.size ≤ B) := Lib.hid (by rw [hB]; exact B34.out.size)
  have BL7 := Lib.hid (B34.out.trans ((b6.mono B34.out.size).trans (b7.mono (Nat.le_trans B34.out.size b6.size))))
  have HBB7 : Hid (B ≤ w7.heap.size) := Lib.hid (by rw [hB]; exact Nat.le_trans b6.size b7.size)
  -- the bytes' own row
  obtain ⟨gB, rfl, hb3, hb4⟩ : ∃ gB, va = some ⟨gB, 0, none⟩ ∧ w3.heap.size ≤ gB ∧ gB < B := by
    rcases HROW.out.2 with ⟨h, h0⟩ | ⟨g, cap, cur, h, hba, -⟩
    · exfalso; omega
    · cases h
      exact ⟨g, rfl, hba, (hgl g rfl).2⟩
  have HBG3 := Lib.hid hb3
  have HBGB := Lib.hid hb4
  obtain ⟨Y, hY, hYl⟩ : ∃ Y : List Value, blockIs w7 gB Y 5 ∧ Y.length = vc := by
    rcases HR7.out.2 with ⟨h, -⟩ | ⟨g, cap, cur, h, -, h1, -, -, h2, -⟩
    · cases h
    · cases h
      exact ⟨cur.toList, by unfold blockIs; rw [Array.toArray_toList]; exact h1, by rw [Array.length_toList]; omega⟩
  have HY := Lib.hid hY
  have HYL := Lib.hid hYl
  clear hb3 hb4 hY hYl HR7 HROW hgl hB hA b6 b7 E4 B34
  have HRD := Lib.hid R3.out
  go_wp2_with fail
  go_loopw [7] (fun i wr => ∃ (j : Nat) (Y : List Value), j ≤ E.length ∧ i = .int .i64 j ∧ Y.length = vc ∧ Hid (blockIs wr gB Y 5) ∧ Hid (ownA wr B (.slice a6 S.length c6) Q) ∧ Hid (Below w3.heap.size w3 wr) ∧ Hid (B ≤ wr.heap.size)) (fun i _ => E.length - (intOf i).toNat)
  case atStart => exact ⟨0, Y, Nat.zero_le _, rfl, HYL.out, HY, HA7, BL7, HBB7⟩
  case round =>
    clear HY HYL HA7 BL7 HBB7
    obtain ⟨j, X, hj, rfl, hXl, HX, HA, BL, HBB⟩ := hrel
    have p0 : 0 ≤ (j : Int) := by omega
    by_cases hlt : j < E.length
    · have q0 : (j : Int) < (E.length : Int) := by omega
      have cB := HX.out.at j (by omega)
      have fB := HX.out.free j
      have HX2 : Hid (blockIs (wr.setCell ⟨gB, j, none⟩ (.int .u8 119)) gB (X.set j (.int .u8 119)) 5) := Lib.hid (HX.out.set j _)
      have BG : But gB wr (wr.setCell ⟨gB, j, none⟩ (.int .u8 119)) := (But.refl gB wr).setCell _ _ (Or.inl rfl)
      have HA2 := Lib.hid (HA.out.but BG HBGB.out)
      have BL2 := Lib.hid (BL.out.trans (BG.below HBG3.out BL.out.size))
      have HBB2 := Lib.hid (Nat.le_trans HBB.out BG.size)
      have HXL2 : Hid ((X.set j (.int .u8 119)).length = vc) := Lib.hid (by rw [List.length_set]; exact hXl)
      clear BG HX HA BL HBB
      go_wp2_with fail
      go_roundw
      case rel => exact ⟨j + 1, X.set j (.int .u8 119), by omega, by go_num, HXL2.out, HX2, HA2, BL2, HBB2⟩
      case measure => simp [intOf]; omega
    · obtain rfl : j = E.length := by omega
      have q0 : ¬ ((E.length : Int) < (E.length : Int)) := by omega
      clear HX hXl X
      obtain ⟨gM, HGM⟩ : ∃ gM, Hid (0 < S.length → a6 = some ⟨gM, 0, none⟩ ∧ B ≤ gM ∧ ∃ X, ApAt wr B gM c6 Q X 0) := by
        by_cases h0 : 0 < S.length
        · obtain ⟨gM, h1, h2, -, h3⟩ := HA.out.ap2 (by rw [HQL.out]; exact h0)
          exact ⟨gM, Lib.hid (fun _ => ⟨h1, h2, h3⟩)⟩
        · exact ⟨0, Lib.hid (fun h => absurd h h0)⟩
      have HG0 : Hid (0 < S.length → a6 = some ⟨gM, 0, none⟩ ∧ B ≤ gM) := Lib.hid (fun h => ⟨(HGM.out h).1, (HGM.out h).2.1⟩)
      have HGX : Hid (0 < S.length → ∃ X, ApAt wr B gM c6 Q X 0) := Lib.hid (fun h => (HGM.out h).2.2)
      clear HGM HA
      go_wp2_with fail
      go_loopw [8] (fun i wr => ∃ j : Nat, j ≤ S.length ∧ i = .int .i64 j ∧ Hid (0 < S.length → ∃ X, ApAt wr B gM c6 Q X j) ∧ Hid (Below w3.heap.size w3 wr) ∧ Hid (B ≤ wr.heap.size)) (fun i _ => S.length - (intOf i).toNat)
      case atStart => exact ⟨0, Nat.zero_le _, rfl, HGX, BL, HBB⟩
      case round =>
        clear HGX BL HBB
        obtain ⟨j, hj, rfl, HAP, BL, HBB⟩ := hrel
        have p0 : 0 ≤ (j : Int) := by omega
        by_cases hlt : j < S.length
        · have q0 : (j : Int) < (S.length : Int) := by omega
          obtain ⟨rfl, hBM⟩ := HG0.out (by omega)
          obtain ⟨X, hap⟩ := HAP.out (by omega)
          have hjQ : j < Q.length := by rw [HQL.out]; exact hlt
          obtain ⟨b2, o2, rfl, -⟩ := R3.out.at j hlt
          have hr3 := (R3.out.below BL.out (Nat.le_refl _)).one j hlt
          have hrm := hap.row hjQ (HWQ.out _ (List.getElem_mem hjQ))
          have hsj : S[j] = Q[j].1 := by
            have h1 : (Q.map Prod.fst)[j]? = some Q[j].1 := by rw [List.getElem?_map, List.getElem?_eq_getElem hjQ]; rfl
            rw [HQS.out, List.getElem?_eq_getElem hlt] at h1
            exact Option.some.inj h1
          rw [hsj] at hr3
          obtain ⟨pa, pc, hpv⟩ := (own_ids (hap.own j hjQ (Nat.le_refl _)) (HWQ.out _ (List.getElem_mem hjQ)).part 0).1.form
          have hpl : Q[j].1.parts.length ≤ 300 := (HS3.out _ (by rw [← hsj]; exact List.getElem_mem hlt)).2
          have hown := hap.own j hjQ (Nat.le_refl _)
          have hcell := hap.pv hjQ
          have hpw : ∀ t (ht : t < Q.length), j < t → Q[j].2.ownBlock = none ∨ Q[j].2.ownBlock ≠ Q[t].2.ownBlock := fun t ht hjt => List.pairwise_iff_getElem.1 HPW.out j t hjQ ht hjt
          rw [hpv] at hown hcell hpw
          obtain ⟨n, hn⟩ : ∃ n, n = Q[j].1 := ⟨_, rfl⟩
          rw [← hn] at hr3 hrm hpl hown hcell hpw
          have HPL := Lib.hid hpl
          have HOWN : Hid (∃ xs, wr.ownsRow B 24 32 (.slice pa n.parts.length pc) n.parts.length xs) := Lib.hid ⟨_, hown⟩
          have HCELL := Lib.hid hcell
          have HPWJ := Lib.hid hpw
          have HAPN := Lib.hid hap.next
          have HRM := Lib.hid hrm
          have HRL := Lib.hid hr3
          have HBM := Lib.hid hBM
          have HJQ := Lib.hid hjQ
          clear hpl hcell hpw hap hrm hr3 hBM HAP hsj hpv hn hown
          obtain ⟨j1, hj1⟩ : ∃ j1, j1 = j + 1 := ⟨_, rfl⟩
          have ew : IntKind.i64.wrap ((j : Int) + 1) = (j1 : Int) := by rw [IntWalk.i64_in _ (by omega)]; omega
          have RP1 := run_partN gM S.length c6 j j1 hj1 hlt hlc6
          have RP2 := run_part b2 o2 S.length c2 j j1 hj1 hlt hlc2
          have HJ1 := Lib.hid hj1
          clear hj1 hjQ
          go_upto_region 13 with fail
          refine wp_region_noPanic ?_
          refine wp_region_held_drew (S := fun x => Below wr.heap.size wr x) (by kernel_rfl) (below_drewN (Below.refl wr.heap.size wr) 1) (fun hH => ?_)
          generalize wr.drew = y0 at *
          refine wpAnyH_take (i := 0) (oi := { dst := some 49, op := Op.move (Operand.tmp 5), type := 27, pos := "law.go:157", after := #[], guard := none }) (v := .slice (some ⟨gM, 0, none⟩) S.length c6) rfl (by kernel_rfl) (by kernel_rfl) (by kernel_rfl) (fun _ _ _ h => h) (Or.inl ⟨by rfl, fun wx hS => ?_⟩) hH ?_
          · go_simp
          simp only [Act.put, List.setIfInBounds_toArray, List.set_cons_zero, List.set_cons_succ]
          refine wpAnyH_take (i := 1) (oi := { dst := some 50, op := Op.move (Operand.tmp 8), type := 3, pos := "law.go:157", after := #[], guard := none }) (v := .int .i64 (j : Int)) rfl (by kernel_rfl) (by kernel_rfl) (by kernel_rfl) (fun _ _ _ h => h) (Or.inl ⟨by rfl, fun wx hS => ?_⟩) hH ?_
          · go_simp
          simp only [Act.put, List.setIfInBounds_toArray, List.set_cons_zero, List.set_cons_succ]
          refine wpAnyH_take (i := 2) (oi := { dst := some 51, op := Op.move (Operand.tmp 8), type := 3, pos := "law.go:157", after := #[], guard := none }) (v := .int .i64 (j : Int)) rfl (by kernel_rfl) (by kernel_rfl) (by kernel_rfl) (fun _ _ _ h => h) (Or.inl ⟨by rfl, fun wx hS => ?_⟩) hH ?_
          · go_simp
          simp only [Act.put, List.setIfInBounds_toArray, List.set_cons_zero, List.set_cons_succ]
          refine wpAnyH_take (i := 3) (oi := { dst := some 52, op := Op.binOp BinOp.add 3 (Operand.tmp 51) (Operand.const (Value.int IntKind.i64 1)) 3, type := 3, pos := "law.go:157", after := #[{ on := 2, ground := Ground.data }], guard := none }) (v := .int .i64 (j1 : Int)) rfl (by kernel_rfl) (by kernel_rfl) (by kernel_rfl) (fun _ _ _ h => h) (Or.inl ⟨by rfl, fun wx hS => ?_⟩) hH ?_
          · go_simp
          simp only [Act.put, List.setIfInBounds_toArray, List.set_cons_zero, List.set_cons_succ]
          refine wpAnyH_take (i := 4) (oi := { dst := some 53, op := Op.slice 27 (Operand.tmp 49) (some (Operand.tmp 50)) (some (Operand.tmp 52)) none, type := 27, pos := "law.go:157", after := #[{ on := 0, ground := Ground.data }, { on := 1, ground := Ground.data }, { on := 3, ground := Ground.data }], guard := none }) (v := .slice (some ⟨gM, j * 39, none⟩) 1 (c6 - j)) rfl (by kernel_rfl) (by kernel_rfl) (by kernel_rfl) (fun _ _ _ h => h) (Or.inl ⟨by rfl, fun wx hS => ?_⟩) hH ?_
          · have e1 := RP1; go_simp
          simp only [Act.put, List.setIfInBounds_toArray, List.set_cons_zero, List.set_cons_succ]
          refine wpAnyH_take (i := 6) (oi := { dst := some 55, op := Op.move (Operand.tmp 0), type := 29, pos := "law.go:157", after := #[], guard := none }) (v := .slice (some ⟨b2, o2, none⟩) S.length c2) rfl (by kernel_rfl) (by kernel_rfl) (by kernel_rfl) (fun _ _ _ h => h) (Or.inl ⟨by rfl, fun wx hS => ?_⟩) hH ?_
          · go_simp
          simp only [Act.put, List.setIfInBounds_toArray, List.set_cons_zero, List.set_cons_succ]
          refine wpAnyH_take (i := 7) (oi := { dst := some 56, op := Op.move (Operand.tmp 8), type := 3, pos := "law.go:157", after := #[], guard := none }) (v := .int .i64 (j : Int)) rfl (by kernel_rfl) (by kernel_rfl) (by kernel_rfl) (fun _ _ _ h => h) (Or.inl ⟨by rfl, fun wx hS => ?_⟩) hH ?_
          · go_simp
          simp only [Act.put, List.setIfInBounds_toArray, List.set_cons_zero, List.set_cons_succ]
          refine wpAnyH_take (i := 8) (oi := { dst := some 57, op := Op.move (Operand.tmp 8), type := 3, pos := "law.go:157", after := #[], guard := none }) (v := .int .i64 (j : Int)) rfl (by kernel_rfl) (by kernel_rfl) (by kernel_rfl) (fun _ _ _ h => h) (Or.inl ⟨by rfl, fun wx hS => ?_⟩) hH ?_
          · go_simp
          simp only [Act.put, List.setIfInBounds_toArray, List.set_cons_zero, List.set_cons_succ]
          refine wpAnyH_take (i := 9) (oi := { dst := some 58, op := Op.binOp BinOp.add 3 (Operand.tmp 57) (Operand.const (Value.int IntKind.i64 1)) 3, type := 3, pos := "law.go:157", after := #[{ on := 8, ground := Ground.data }], guard := none }) (v := .int .i64 (j1 : Int)) rfl (by kernel_rfl) (by kernel_rfl) (by kernel_rfl) (fun _ _ _ h => h) (Or.inl ⟨by rfl, fun wx hS => ?_⟩) hH ?_
          · go_simp
          simp only [Act.put, List.setIfInBounds_toArray, List.set_cons_zero, List.set_cons_succ]
          refine wpAnyH_take (i := 10) (oi := { dst := some 59, op := Op.slice 29 (Operand.tmp 55) (some (Operand.tmp 56)) (some (Operand.tmp 58)) none, type := 29, pos := "law.go:157", after := #[{ on := 6, ground := Ground.data }, { on := 7, ground := Ground.data }, { on := 9, ground := Ground.data }], guard := none }) (v := .slice (some ⟨b2, o2 + j * 39, none⟩) 1 (c2 - j)) rfl (by kernel_rfl) (by kernel_rfl) (by kernel_rfl) (fun _ _ _ h => h) (Or.inl ⟨by rfl, fun wx hS => ?_⟩) hH ?_
          · have e1 := RP2; go_simp
          simp only [Act.put, List.setIfInBounds_toArray, List.set_cons_zero, List.set_cons_succ]
          have PFR := from_one (some ⟨gM, j * 39, none⟩) (c6 - j) n y0 (HRM.out.below hH (Nat.le_refl _))
          refine wpAnyH_ready (rs := [5]) (by kernel_rfl) (by simp) ?_
          refine AllReadyH.cons (o := { dst := some 54, op := Op.call { callee := Callee.value (Operand.func 20), args := #[Operand.tmp 53], argTypes := #[27] }, type := 29, pos := "law.go:157", after := #[{ on := 4, ground := Ground.data }], guard := none }) rfl (fun KK hKK => ?_) AllReadyH.nil
          go_simp
          refine PFR.mono ?_
          rintro e y1 ⟨⟨a7, c7, rfl, hr7⟩, kb⟩
          have hN := hH.trans (kb.mono hH.size)
          clear hH kb
          refine hKK.out _ _ hN (fun hH => ?_)
          clear hKK KK hN PFR
          try simp only [Act.put, List.setIfInBounds_toArray, List.set_cons_zero, List.set_cons_succ]
          have PSA := same_one a7 (some ⟨b2, o2 + j * 39, none⟩) c7 (c2 - j) n y1 hr7 (HRL.out.below hH (Nat.le_refl _))
          refine wpAnyH_ready (rs := [11]) (by kernel_rfl) (by simp) ?_
          refine AllReadyH.cons (o := { dst := some 60, op := Op.call { callee := Callee.value (Operand.func 19), args := #[Operand.tmp 54, Operand.tmp 59], argTypes := #[29, 29] }, type := 4, pos := "law.go:157", after := #[{ on := 5, ground := Ground.data }, { on := 10, ground := Ground.data }, { on := 5, ground := Ground.chain }], guard := none }) rfl (fun KK hKK => ?_) AllReadyH.nil
          go_simp
          refine PSA.mono ?_
          rintro e y2 ⟨rfl, kb⟩
          have hN := hH.trans (kb.mono hH.size)
          clear hH kb hr7
          refine hKK.out _ _ hN (fun hH => ?_)
          clear hKK KK hN PSA
          try simp only [Act.put, List.setIfInBounds_toArray, List.set_cons_zero, List.set_cons_succ]
          refine wpAnyH_take (i := 12) (oi := { dst := some 61, op := Op.unOp UnOp.not 4 (Operand.tmp 60), type := 4, pos := "law.go:157", after := #[{ on := 11, ground := Ground.data }], guard := none }) (v := .bool false) rfl (by kernel_rfl) (by kernel_rfl) (by kernel_rfl) (fun _ _ _ h => h) (Or.inl ⟨by rfl, fun wx hS => ?_⟩) hH ?_
          · go_simp
          simp only [Act.put, List.setIfInBounds_toArray, List.set_cons_zero, List.set_cons_succ]
          refine wpAnyH_done (by kernel_rfl) ?_ _
          refine NoPanic.normal ?_
          have HAP2 := Lib.hid (HAPN.out.below hH)
          have HOWN2 : Hid (∃ xs, y2.ownsRow B 24 32 (.slice pa n.parts.length pc) n.parts.length xs) := Lib.hid (by obtain ⟨xs, h⟩ := HOWN.out; exact ⟨xs, row_below h hH⟩)
          have BL2 := Lib.hid (BL.out.trans (hH.mono BL.out.size))
          have HBB2 := Lib.hid (Nat.le_trans HBB.out hH.size)
          clear hH HAPN HOWN BL HBB HRM HRL RP1 RP2
          have HNL := HCELL
          have BI := HBM
          obtain ⟨pl, hpl⟩ : ∃ pl, pl = n.parts.length := ⟨_, rfl⟩
          rw [← hpl] at HPL HOWN2 HCELL HPWJ
          clear hpl HNL BI
          have HXB := Lib.hid HAP2.out.blk
          have c6' : y2.cell? ⟨gM, j * 39 + 6, none⟩ = some (.slice pa pl pc) := by rw [HXB.out.cell]; exact HCELL.out
          go_wp2_with fail
          go_loopw [9] (fun i wr => ∃ k : Nat, k ≤ pl ∧ i = .int .i64 k ∧ Hid (ApAt wr B gM c6 Q X (j + 1)) ∧ Hid (∃ xs, wr.ownsRow B 24 32 (.slice pa pl pc) pl xs) ∧ Hid (Below w3.heap.size w3 wr) ∧ Hid (B ≤ wr.heap.size)) (fun i _ => pl - (intOf i).toNat)
          case atStart => exact ⟨0, Nat.zero_le _, rfl, HAP2, HOWN2, BL2, HBB2⟩
          case round =>
            clear HAP2 HOWN2 BL2 HBB2 HXB c6'
            obtain ⟨k, hk, rfl, HAP, HOWN, BL, HBB⟩ := hrel
            have pk : 0 ≤ (k : Int) := by omega
            have hpl9 := HPL.out
            have c6' : wr.cell? ⟨gM, j * 39 + 6, none⟩ = some (.slice pa pl pc) := by rw [HAP.out.blk.cell]; exact HCELL.out
            by_cases hkl : k < pl
            · have qk : (k : Int) < (pl : Int) := by omega
              obtain ⟨xs, hxs⟩ := HOWN.out
              obtain ⟨gP, cur, rfl, hPB, hcb, hcl⟩ : ∃ gP cur, pa = some ⟨gP, 0, none⟩ ∧ B ≤ gP ∧ blockIs wr gP cur 24 ∧ pl * 32 ≤ cur.length := by
                rcases hxs.2 with ⟨-, h0⟩ | ⟨g, cap, cur, h, hba, h1, h2, -, h3, -⟩
                · omega
                · cases h
                  have := Nat.mul_le_mul_right 32 h2
                  exact ⟨g, cur.toList, rfl, hba, by unfold blockIs; rw [Array.toArray_toList]; exact h1, by rw [Array.length_toList]; omega⟩
              have HCB := Lib.hid hcb
              have HCLN := Lib.hid hcl
              have HXS := Lib.hid hxs
              have HPB := Lib.hid hPB
              obtain ⟨cs, hcs⟩ : ∃ cs, cs = bvals (idOf 255) := ⟨_, rfl⟩
              have HC32 : Hid (cs.length = 32) := Lib.hid (by rw [hcs]; exact idOf_len 255)
              have HCO : Hid (∀ v ∈ cs, v.oneCell' = true) := Lib.hid (by rw [hcs]; exact fun v hv => bvals_one _ v hv)
              have HCS := Lib.hid hcs
              have HIN : Hid ((Try.prog.info? 24).map (·.size) = some cs.length) := Lib.hid (by rw [HC32.out]; kernel_rfl)
              clear hcb hcl hxs hPB hcs HOWN
              go_wp2_with (first | (refine build_ff (by rfl) rfl cs HCS.out ?_) | (refine wpList_store_block rfl 24 _ _ rfl gP (k * 32) cs rfl rfl cur 24 HCB.out HIN.out (by have := HC32.out; have := HCLN.out; omega) HCO.out ?_))
              intro w9 k1 k2 k3
              have hgm : gP ≠ gM := fun e => HAP.out.not_M HXS.out (by rw [e]; rfl)
              have HAP9 := Lib.hid (HAP.out.but k2.out hgm (fun t ht hjt => by
                have := (HPWJ.out t ht (by omega)).resolve_left (fun h => by cases h)
                exact Or.inr (fun e => this (by rw [e]; rfl))))
              have HOWN9 : Hid (∃ xs, w9.ownsRow B 24 32 (.slice (some ⟨gP, 0, none⟩) pl pc) pl xs) := Lib.hid (own_new HXS.out k1.out (fun c0 h0 => by
                have h1 := HCB.out
                unfold blockIs at h0 h1
                rw [h1] at h0
                have h2 : cur.toArray = c0.toArray := by simpa using h0
                rw [length_splice _ _ _ (by have := HC32.out; have := HCLN.out; omega), show cur = c0 by simpa using h2]))
              have BL9 := Lib.hid (BL.out.trans (k2.out.below (Nat.le_trans HB3.out HPB.out) BL.out.size))
              have HBB9 := Lib.hid (Nat.le_trans HBB.out k2.out.size)
              clear k1 k2 k3 HAP BL HBB HCB HXS hgm
              go_wp2_with fail
              go_roundw
              case rel => exact ⟨k + 1, by omega, by go_num, HAP9, HOWN9, BL9, HBB9⟩
              case measure => simp [intOf]; omega
            · obtain rfl : k = pl := by omega
              have qk : ¬ ((k : Int) < (k : Int)) := by omega
              obtain ⟨xs, hxs⟩ := HOWN.out
              obtain ⟨i0, hi, hz0, hz1, hz2⟩ := info_parts info_ids
              obtain ⟨cs, hcs⟩ : ∃ cs, cs = bvals (idOf 1) := ⟨_, rfl⟩
              have HC32 : Hid (cs.length = 32) := Lib.hid (by rw [hcs]; exact idOf_len 1)
              have HCO : Hid (∀ v ∈ cs, v.oneCell' = true) := Lib.hid (by rw [hcs]; exact fun v hv => bvals_one _ v hv)
              have HCS := Lib.hid hcs
              have HXS := Lib.hid hxs
              clear hcs hxs HOWN
              go_wp2_with (first | (refine build_01 (by rfl) rfl cs HCS.out ?_) | (refine build_ids1 (by rfl) _ rfl cs HC32.out rfl ?_; refine Hid.out ?_))
              have kb := alloc_below wr (.cells cs.toArray 24 (0, 0))
              have HL : Hid (blockIs (wr.alloc (.cells cs.toArray 24)) wr.heap.size cs 24) := Lib.hid (blockIs.new wr cs 24)
              have HAP3 : Hid (ApAt (wr.alloc (.cells cs.toArray 24)) B gM c6 Q X (j + 1)) := Lib.hid (HAP.out.below kb)
              have HXS3 : Hid ((wr.alloc (.cells cs.toArray 24)).ownsRow B 24 32 (.slice pa k pc) k xs) := Lib.hid (row_below HXS.out kb)
              have BL3 : Hid (Below w3.heap.size w3 (wr.alloc (.cells cs.toArray 24))) := Lib.hid (BL.out.trans (kb.mono BL.out.size))
              have HBB3 : Hid (B ≤ (wr.alloc (.cells cs.toArray 24)).heap.size) := Lib.hid (Nat.le_trans HBB.out kb.size)
              clear kb HAP HXS BL HBB c6'
              generalize wr.alloc (.cells cs.toArray 24) = y3 at *
              generalize wr.heap.size = gl at *
              refine Lib.hid ?_
              go_wp2_with (refine wpList_append_own_at _ rfl _ _ 22 rfl B 24 i0 _ 32 32 Try.underlying22 hi hz0 hz1 hz2 (by simp [Value.cells, bvals, noughts]) (by decide) _ k xs rfl HXS3.out ⟨gl, 0, none⟩ 1 1 cs rfl (by rw [HC32.out]) (fun i u hu => by rw [Addr.add_lit, Nat.zero_add, HL.out.cell]; exact hu) HCO.out (by have := HPL.out; unfold maxLen; omega) (by have := HPL.out; omega) HBB3.out ?_)
              intro v9 y4 h1 h2 h3 h4
              obtain ⟨g9, p9, rfl⟩ := ownsRow_succ h1
              have hrow := HAP3.out.not_M HXS3.out
              have hap4 := HAP3.out.grown h2 hrow (fun t ht hjt => by
                rcases HPWJ.out t ht (by omega) with h | h
                · rw [h]
                  cases Q[t].2.ownBlock with
                  | none => exact Or.inl rfl
                  | some g => exact Or.inr (fun e => by cases e)
                · exact Or.inr (fun e => h e.symm))
              have c6' : y4.cell? ⟨gM, j * 39 + 6, none⟩ = some (.slice pa k pc) := by rw [hap4.blk.cell]; exact HCELL.out
              have f6' := hap4.blk.free (j * 39 + 6)
              have HAP5 := Lib.hid (hap4.store (j * 39 + 6) (.slice (some ⟨g9, 0, none⟩) (k + 1) p9) (fun t ht s => by omega))
              have hb4 : Below B y3 y4 := (Below.refl B y3).grown h2 HBB3.out (fun g hg => (HXS3.out.lt g hg).1)
              have BL5 := Lib.hid ((BL3.out.trans (hb4.mono HB3.out)).setCell (p := ⟨gM, j * 39 + 6, none⟩) (Nat.le_trans HB3.out HBM.out) (.slice (some ⟨g9, 0, none⟩) (k + 1) p9))
              have HBB5 : Hid (B ≤ (y4.setCell ⟨gM, j * 39 + 6, none⟩ (.slice (some ⟨g9, 0, none⟩) (k + 1) p9)).heap.size) := Lib.hid (Nat.le_trans (Nat.le_trans HBB3.out hb4.size) (((Below.refl B y4).setCell (p := ⟨gM, j * 39 + 6, none⟩) HBM.out (.slice (some ⟨g9, 0, none⟩) (k + 1) p9)).size))
              have HXX : Hid (0 < S.length → ∃ X, ApAt (y4.setCell ⟨gM, j * 39 + 6, none⟩ (.slice (some ⟨g9, 0, none⟩) (k + 1) p9)) B gM c6 Q X (j + 1)) := Lib.hid (fun _ => ⟨_, HAP5.out⟩)
              clear h1 h2 h3 h4 hb4 hap4 HAP3 HXS3 BL3 HBB3 HAP5 HL hrow
              go_wp2_with fail
              obtain rfl := HJ1.out
              go_roundw
              case rel => exact ⟨j + 1, by omega, by go_num, HXX, BL5, HBB5⟩
              case measure => simp [intOf]; omega
        · obtain rfl : j = S.length := by omega
          have q0 : ¬ ((S.length : Int) < (S.length : Int)) := by omega
          have HFIN := Lib.hid (B3.out.trans (BL.out.mono B3.out.size))
          go_wp2_with fail
          go_ret
          exact ⟨rfl, HFIN.out⟩
end Go.Proofs.Ytjgmhaajcglpmaa
