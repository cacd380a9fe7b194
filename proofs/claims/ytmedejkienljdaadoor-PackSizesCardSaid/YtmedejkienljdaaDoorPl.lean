/- The law PackSizes: its walk. -/
import Derived.Test.YtmedejkienljdaaDoorPp
namespace Go.Proofs.YtmedejkienljdaaDoor
open Go.RowKit Sha

theorem lo_get (D : List Lo) (j : Nat) (hj : j < D.length) (i : Nat) (u : Value) (hi : (D[j].cells)[i]? = some u) : (loCells D)[j * 2 + i]? = some u := by
  induction D generalizing j with
  | nil => exact absurd hj (Nat.not_lt_zero _)
  | cons x L ih =>
    rw [loCells, List.flatMap_cons]
    have hx : x.cells.length = 2 := rfl
    cases j with
    | zero =>
      have hi : x.cells[i]? = some u := hi
      rw [Nat.zero_mul, Nat.zero_add, List.getElem?_append_left (List.getElem?_eq_some_iff.1 hi).1]
      exact hi
    | succ j =>
      rw [List.getElem?_append_right (by omega), hx, show (j + 1) * 2 + i - 2 = j * 2 + i by omega]
      exact ih j (by simpa using hj) (by simpa using hi)
/-- Lumps in a row: how long they are. -/
def losIn (w : World) (a : Option Addr) (D : List Lo) : Prop := ∀ j (h : j < D.length), ∃ b o, a = some ⟨b, o, none⟩ ∧ w.cell? ⟨b, o + j * 2 + 1, none⟩ = some (.slice D[j].a D[j].n D[j].c)
theorem own_los {X : World} {base : Nat} {v : Value} {D : List Lo} (h : X.ownsRow base 40 2 v D.length (loCells D)) : ∃ A c, v = .slice A D.length c ∧ losIn X A D := by
  have hc := fun g hg => h.cells (g := g) hg
  rcases h.2 with ⟨rfl, h0⟩ | ⟨g, cap, cur, rfl, -⟩
  · rw [h0]; exact ⟨_, _, rfl, fun j hj => absurd hj (by omega)⟩
  · refine ⟨_, _, rfl, fun j hj => ⟨g, 0, rfl, ?_⟩⟩
    have := hc g rfl (j * 2 + 1) _ (lo_get D j hj 1 _ rfl)
    rw [Addr.add_lit] at this
    rw [← this]
    first
      | rfl
      | (congr 2; done)
      | (congr 2; omega)
theorem losIn.below {w w' : World} {a : Option Addr} {D : List Lo} (h : losIn w a D) (k : Below w.heap.size w w') : losIn w' a D := fun j hj => by
  obtain ⟨b, o, e, h1⟩ := h j hj
  exact ⟨b, o, e, (k.cell (block_lt_of_cell h1)).trans h1⟩
theorem ensIn.at {w : World} {a : Option Addr} {L : List En} (h : ensIn w a L) (j : Nat) (hj : j < L.length) : ∃ b o, a = some ⟨b, o, none⟩ ∧ w.rangeAt b (o + j * 35) L[j].cells := by
  rcases h with h | ⟨b, o, e, hc⟩
  · rw [h] at hj; exact absurd hj (Nat.not_lt_zero _)
  · exact ⟨b, o, e, hc j hj⟩
theorem en_cell33 {w : World} {b o : Nat} {x : En} (hx : x.ok) (h : w.rangeAt b o x.cells) : w.cell? ⟨b, o + 33, none⟩ = some (.int .i64 (x.off : Int)) := by
  have h1 : (byteCells x.id).length = 32 := by rw [byteCells_length]; exact hx
  refine h 33 _ ?_
  unfold En.cells
  rw [List.getElem?_append_right (by omega), h1]
  rfl
theorem en_cell34 {w : World} {b o : Nat} {x : En} (hx : x.ok) (h : w.rangeAt b o x.cells) : w.cell? ⟨b, o + 34, none⟩ = some (.int .i64 (x.len : Int)) := by
  have h1 : (byteCells x.id).length = 32 := by rw [byteCells_length]; exact hx
  refine h 34 _ ?_
  unfold En.cells
  rw [List.getElem?_append_right (by omega), h1]
  rfl
/-- A head is no longer than the law says, and no shorter. -/
theorem flat_len (M : List En) (h : ∀ x ∈ M, x.fine ∧ x.len ≤ 198 ∧ 48 ≤ x.len) : 34 * M.length ≤ (M.flatMap enB).length ∧ (M.flatMap enB).length ≤ 36 * M.length := by
  induction M with
  | nil => simp
  | cons x M ih =>
    have h0 := ih fun y hy => h y (List.mem_cons_of_mem _ hy)
    obtain ⟨hf, hl, -⟩ := h x (List.mem_cons_self ..)
    have h1 := (enB_len x hf).2
    have h2 : (enB x).length ≤ 36 := by
      obtain ⟨g1, g2, g3⟩ := hf
      have a1 : (Gl.numBytes x.kind.toNat).length = 1 := by rcases g2 with e | e <;> rw [e] <;> rw [Gl.numBytes_small (by decide)] <;> rfl
      have a2 : (Gl.numBytes x.len).length ≤ 2 := Gl.numBytes_le 1 x.len (by omega)
      have a4 : x.id.length = 32 := g1
      unfold enB
      rw [List.length_append, List.length_append]
      omega
    rw [List.flatMap_cons, List.length_append, List.length_cons]
    omega
theorem headB_len (s : Ms) (k : Nat) (h : s.Good k) (hk : k ≤ 20) : 4 + 34 * s.L.length ≤ (headB s.L).length ∧ (headB s.L).length ≤ 4 + 36 * s.L.length := by
  have hl := h.len
  have a1 : (Gl.numBytes s.L.length).length = 1 := by rw [Gl.numBytes_small (by omega)]; rfl
  have a2 := flat_len s.L h.fine
  unfold headB headP
  rw [List.length_append, List.length_append, a1, List.take_length]
  show 4 + _ ≤ 3 + 1 + _ ∧ 3 + 1 + _ ≤ _
  omega
theorem closeB_is (n : UInt8) (s : Ms) : (closeB (kN n 1) (kN n 2) [n] s.told s.B s.L).length = s.B.length + ((headB s.L).length + 48) + 4 := by
  unfold closeB
  rw [List.length_append, List.length_append, wseal_length _ _ _ _ _ _ (tbytes_16 _ _)]
  show _ + (_ + 4) = _
  omega
theorem sum_take (l : List Nat) (i : Nat) : (l.take i).sum ≤ l.sum := by
  have := congrArg List.sum (List.take_append_drop i l)
  rw [List.sum_append] at this
  omega
theorem packName_len (b : List UInt8) : (packName b).length = 42 := by
  unfold packName
  rw [List.length_append, List.length_take, hexL_length, sha_length]
  rfl

set_option maxRecDepth 100000 in
set_option maxHeartbeats 8000000 in
theorem law_packSizes (n : UInt8) (a : Option Addr) (c : Nat) (R : List Lmp) (w : World) (hR : lumpsIn w a R) (ht : tables w) :
    Calls Tryd.prog 6 #[.int .u8 (V n), .slice a R.length c] w fun e w' => e = .returned (.bool true) ∧ Below w.heap.size w w' := by
  have HR := Lib.hid hR
  have T0 := Lib.hid ht
  have M1 := made_any n a c R w hR ht
  clear hR ht
  go_enter Tryd.func6, Tryd.ntmps6
  go_wp2_with ((with_reducible refine M1.mono ?_); rintro e w1 ⟨bv, lv, hv, Dl, S, P, hS, hP, rfl, hb, hl, hh, hd, kb⟩; refine Hid.out ?_)
  refine Lib.hid ?_
  have M2 := made_any n a c R w1 (HR.out.below kb) (T0.out.below kb T0.out.2.2.1 T0.out.2.2.2)
  have OB := Lib.hid hb
  have OL := Lib.hid hl
  have OH := Lib.hid hh
  have HD := Lib.hid hd
  have HSE := Lib.hid hS
  have HPE := Lib.hid hP
  have KB := Lib.hid kb
  clear M1 hb hl hh hd hS hP kb
  go_wp2_with ((with_reducible refine M2.mono ?_); rintro e w2 ⟨bv2, lv2, hv2, Dl2, S2, P2, hS2, hP2, rfl, hb2, hl2, -, -, kb⟩; refine Hid.out ?_)
  refine Lib.hid ?_
  obtain rfl : S2 = S := hS2.trans HSE.out.symm
  obtain rfl : P2 = P := hP2.trans HPE.out.symm
  have KB2 := Lib.hid (KB.out.trans (kb.mono KB.out.size))
  have kz : Kp (fun _ => False) w1 w2 := Kp.below kb
  have GD := Lib.hid (HSE.out.symm ▸ madeS_good n R (min R.length 10) (Nat.min_le_left _ _) : S2.Good (min R.length 10 + 1))
  have hok : ∀ x ∈ S2.L, x.ok := fun x hx => (GD.out.fine x hx).1.1
  have HOK := Lib.hid hok
  obtain ⟨ab, db, hbe, ob⟩ := Pt.ok0_of (row_kp OB.out kz fun _ _ => id)
  obtain ⟨ab2, db2, hbe2, ob2⟩ := Pt.ok0_of hb2
  obtain ⟨al, dl, hle, el⟩ := own_ens (row_kp OL.out kz fun _ _ => id) hok
  obtain ⟨al2, dl2, hle2, el2⟩ := own_ens hl2 hok
  obtain ⟨ah, dh, hhe, eh⟩ := own_los (row_kp OH.out kz fun _ _ => id)
  subst hbe hbe2 hle hle2 hhe
  have O1 := Lib.hid ob
  have O2 := Lib.hid ob2
  have L1 := Lib.hid el
  have L2 := Lib.hid el2
  have H1 := Lib.hid eh
  have DL : Hid (Dl.length = S2.L.length) := Lib.hid (by have h1 := congrArg List.length HD.out; rw [List.length_map, List.length_map] at h1; have h2 := GD.out.dl; omega)
  have LN : Hid (∀ i (h : i < S2.L.length) (h' : i < Dl.length), S2.L[i].len = Dl[i].n + 48) := Lib.hid (fun i h h' => by
    have h2 : i < S2.D.length := by rw [GD.out.dl]; exact h
    rw [GD.out.ln i h h2]
    have h3 := congrArg (fun l => l[i]?) HD.out
    simp only [List.getElem?_map, List.getElem?_eq_getElem h', List.getElem?_eq_getElem h2, Option.map_some, Option.some.injEq, Prod.mk.injEq] at h3
    omega)
  have PLN : Hid (P2.length = S2.B.length + ((headB S2.L).length + 48) + 4) := Lib.hid (by rw [HPE.out]; exact closeB_is n S2)
  have HBL := Lib.hid (headB_len S2 _ GD.out (by omega))
  have T2 := Lib.hid (T0.out.below KB2.out T0.out.2.2.1 T0.out.2.2.2)
  have BBD : Hid (S2.B.length ≤ 3000) := Lib.hid (by have := GD.out.b; omega)
  have LLD : Hid (S2.L.length ≤ 20) := Lib.hid (by have := GD.out.len; omega)
  clear M2 OB OL OH hb2 hl2 ob ob2 el el2 eh hok kz kb hS2 hP2 HD KB
  have PK := packs_any w2 T2.out
  generalize headB S2.L = HB at *
  go_wp2_with (with_reducible refine PK.mono ?_; rintro e w3 ⟨rfl, kb⟩)
  have KB3 := Lib.hid (KB2.out.trans (kb.mono KB2.out.size))
  have T3 := Lib.hid (T2.out.below kb T2.out.2.2.1 T2.out.2.2.2)
  have O13 := Lib.hid (O1.out.below kb)
  have O23 := Lib.hid (O2.out.below kb)
  have L13 := Lib.hid (L1.out.below kb HOK.out)
  have L23 := Lib.hid (L2.out.below kb HOK.out)
  have H13 := Lib.hid (H1.out.below kb)
  clear PK kb KB2 T2 O1 O2 L1 L2 H1
  go_loopw [14, 13] (fun iv av wr => ∃ i : Nat, i ≤ S2.L.length ∧ iv = .int .i64 i ∧ av = .int .i64 ((((S2.L.take i).map En.len).sum : Nat) : Int) ∧ Hid (Below w3.heap.size w3 wr)) (fun iv _ _ => S2.L.length - (intOf iv).toNat)
  case atStart => exact ⟨0, Nat.zero_le _, rfl, rfl, Lib.hid (Below.refl _ _)⟩
  case round =>
    obtain ⟨i, hi, rfl, rfl, HB3⟩ := hrel
    have p0 : 0 ≤ (i : Int) := by omega
    have hll := LLD.out
    by_cases hlt : i < S2.L.length
    · have q0 : (i : Int) < (S2.L.length : Int) := by omega
      have hltD : i < Dl.length := by rw [DL.out]; exact hlt
      have q1 : (i : Int) < (Dl.length : Int) := by omega
      obtain ⟨b1, o1, rfl, r1⟩ := (L13.out.below HB3.out HOK.out).at i hlt
      obtain ⟨b2, o2, rfl, r2⟩ := (L23.out.below HB3.out HOK.out).at i hlt
      obtain ⟨b3, o3, rfl, r3⟩ := (H13.out.below HB3.out) i hltD
      have OKX := Lib.hid (HOK.out _ (List.getElem_mem hlt))
      have OF := Lib.hid (GD.out.off i hlt)
      have LE := Lib.hid (LN.out i hlt hltD)
      have SM : Hid (((S2.L.take (i + 1)).map En.len).sum = ((S2.L.take i).map En.len).sum + S2.L[i].len) := Lib.hid (by rw [List.take_succ_eq_append_getElem hlt, List.map_append, List.sum_append]; simp)
      have LX0 : Hid (S2.L[i].len ≤ 198) := Lib.hid ((GD.out.fine _ (List.getElem_mem hlt)).2.1)
      have LB : Hid (S2.L[i].len ≤ 198) := Lib.hid ((GD.out.fine _ (List.getElem_mem hlt)).2.1)
      have SB : Hid (((S2.L.take i).map En.len).sum ≤ 3000) := Lib.hid (by have h1 := GD.out.bl; have h2 := BBD.out; have h3 : ((S2.L.take i).map En.len).sum ≤ (S2.L.map En.len).sum := (by rw [List.map_take]; exact sum_take _ _); omega)
      generalize S2.L[i] = x at *
      generalize Dl[i] = d at *
      obtain ⟨dk, da, dn, dc⟩ := d
      dsimp only at r3 LE
      generalize ((S2.L.take i).map En.len).sum = at1 at *
      generalize hA2 : ((S2.L.take (i + 1)).map En.len).sum = at2 at *
      have HA2 := Lib.hid hA2
      clear hA2
      have X1 := Lib.hid (fun X (h : Below wr.heap.size wr X) => ((fun j u hj => (h.cell (block_lt_of_cell (r1 j u hj))).trans (r1 j u hj)) : X.rangeAt b1 (o1 + i * 35) x.cells))
      have X2 := Lib.hid (fun X (h : Below wr.heap.size wr X) => ((fun j u hj => (h.cell (block_lt_of_cell (r2 j u hj))).trans (r2 j u hj)) : X.rangeAt b2 (o2 + i * 35) x.cells))
      have X3 := Lib.hid (fun X (h : Below wr.heap.size wr X) => (h.cell (block_lt_of_cell r3)).trans r3)
      have LX : Hid (IntKind.i64.wrap ((dn : Int) + 48) = (x.len : Int)) := Lib.hid (by have h1 := LE.out; have h2 := LB.out; rw [IntWalk.i64_in _ (by omega)]; omega)
      clear r1 r2 r3 hltD LX0
      go_upto_region 9 with fail
      refine wp_region_noPanic ?_
      refine wp_region_held_drew (S := fun X => Below wr.heap.size wr X) (by kernel_rfl) (below_drew' (Below.refl _ _)) (fun hH => ?_)
      generalize wr.drew = z0 at *
      refine wpAnyH_take (i := 0) (oi := { dst := some 48, op := Op.move (Operand.tmp 6), type := 31, pos := "more.go:16", after := #[], guard := none }) (v := .slice (some ⟨b1, o1, none⟩) S2.L.length dl) rfl (by kernel_rfl) (by kernel_rfl) (by kernel_rfl) (fun _ _ _ h => h) (Or.inl ⟨by rfl, fun wx hS => ?_⟩) hH ?_
      · go_simp
      simp only [Act.put, List.setIfInBounds_toArray, List.set_cons_zero, List.set_cons_succ]
      refine wpAnyH_take (i := 1) (oi := { dst := some 49, op := Op.move (Operand.tmp 14), type := 3, pos := "more.go:16", after := #[], guard := none }) (v := .int .i64 (i : Int)) rfl (by kernel_rfl) (by kernel_rfl) (by kernel_rfl) (fun _ _ _ h => h) (Or.inl ⟨by rfl, fun wx hS => ?_⟩) hH ?_
      · go_simp
      simp only [Act.put, List.setIfInBounds_toArray, List.set_cons_zero, List.set_cons_succ]
      refine wpAnyH_take (i := 2) (oi := { dst := some 50, op := Op.indexAddr 31 (Operand.tmp 48) (Operand.tmp 49), type := 0, pos := "more.go:16", after := #[{ on := 0, ground := Ground.data }, { on := 1, ground := Ground.data }], guard := none }) (v := .pointer (some ⟨b1, o1 + i * 35, none⟩)) rfl (by kernel_rfl) (by kernel_rfl) (by kernel_rfl) (fun _ _ _ h => h) (Or.inl ⟨by rfl, fun wx hS => ?_⟩) hH ?_
      · go_simp
      simp only [Act.put, List.setIfInBounds_toArray, List.set_cons_zero, List.set_cons_succ]
      refine wpAnyH_take (i := 3) (oi := { dst := some 51, op := Op.fieldAddr 66 (Operand.tmp 50) 2, type := 0, pos := "more.go:16", after := #[{ on := 2, ground := Ground.data }], guard := none }) (v := .pointer (some ⟨b1, o1 + i * 35 + 33, none⟩)) rfl (by kernel_rfl) (by kernel_rfl) (by kernel_rfl) (fun _ _ _ h => h) (Or.inl ⟨by rfl, fun wx hS => ?_⟩) hH ?_
      · go_simp
      simp only [Act.put, List.setIfInBounds_toArray, List.set_cons_zero, List.set_cons_succ]
      refine wpAnyH_take (i := 4) (oi := { dst := some 52, op := Op.load 3 (Operand.tmp 51), type := 3, pos := "more.go:16", after := #[{ on := 3, ground := Ground.data }], guard := none }) (v := .int .i64 (at1 : Int)) rfl (by kernel_rfl) (by kernel_rfl) (by kernel_rfl) (fun _ _ _ h => h) (Or.inl ⟨by rfl, fun wx hS => ?_⟩) hH ?_
      · have e1 := en_cell33 OKX.out (X1.out wx hS); rw [OF.out] at e1; go_simp
      simp only [Act.put, List.setIfInBounds_toArray, List.set_cons_zero, List.set_cons_succ]
      refine wpAnyH_take (i := 5) (oi := { dst := some 53, op := Op.move (Operand.tmp 13), type := 3, pos := "more.go:16", after := #[], guard := none }) (v := .int .i64 (at1 : Int)) rfl (by kernel_rfl) (by kernel_rfl) (by kernel_rfl) (fun _ _ _ h => h) (Or.inl ⟨by rfl, fun wx hS => ?_⟩) hH ?_
      · go_simp
      simp only [Act.put, List.setIfInBounds_toArray, List.set_cons_zero, List.set_cons_succ]
      refine wpAnyH_take (i := 6) (oi := { dst := some 54, op := Op.binOp BinOp.neq 3 (Operand.tmp 52) (Operand.tmp 53) 3, type := 4, pos := "more.go:16", after := #[{ on := 4, ground := Ground.data }, { on := 5, ground := Ground.data }], guard := none }) (v := .bool false) rfl (by kernel_rfl) (by kernel_rfl) (by kernel_rfl) (fun _ _ _ h => h) (Or.inl ⟨by rfl, fun wx hS => ?_⟩) hH ?_
      · go_simp
      simp only [Act.put, List.setIfInBounds_toArray, List.set_cons_zero, List.set_cons_succ]
      refine wpAnyH_take (i := 7) (oi := { dst := some 55, op := Op.move (Operand.tmp 54), type := 4, pos := "more.go:16", after := #[{ on := 6, ground := Ground.data }], guard := none }) (v := .bool false) rfl (by kernel_rfl) (by kernel_rfl) (by kernel_rfl) (fun _ _ _ h => h) (Or.inl ⟨by rfl, fun wx hS => ?_⟩) hH ?_
      · go_simp
      simp only [Act.put, List.setIfInBounds_toArray, List.set_cons_zero, List.set_cons_succ]
      refine wpAnyH_take (i := 8) (oi := { dst := some 56, op := Op.move (Operand.tmp 6), type := 31, pos := "more.go:16", after := #[{ on := 7, ground := Ground.guard }], guard := some (7, false) }) (v := .slice (some ⟨b1, o1, none⟩) S2.L.length dl) rfl (by kernel_rfl) (by kernel_rfl) (by kernel_rfl) (fun _ _ _ h => h) (Or.inl ⟨by rfl, fun wx hS => ?_⟩) hH ?_
      · go_simp
      simp only [Act.put, List.setIfInBounds_toArray, List.set_cons_zero, List.set_cons_succ]
      refine wpAnyH_take (i := 9) (oi := { dst := some 57, op := Op.move (Operand.tmp 14), type := 3, pos := "more.go:16", after := #[{ on := 7, ground := Ground.guard }], guard := some (7, false) }) (v := .int .i64 (i : Int)) rfl (by kernel_rfl) (by kernel_rfl) (by kernel_rfl) (fun _ _ _ h => h) (Or.inl ⟨by rfl, fun wx hS => ?_⟩) hH ?_
      · go_simp
      simp only [Act.put, List.setIfInBounds_toArray, List.set_cons_zero, List.set_cons_succ]
      refine wpAnyH_take (i := 10) (oi := { dst := some 58, op := Op.indexAddr 31 (Operand.tmp 56) (Operand.tmp 57), type := 0, pos := "more.go:16", after := #[{ on := 8, ground := Ground.data }, { on := 9, ground := Ground.data }, { on := 7, ground := Ground.guard }], guard := some (7, false) }) (v := .pointer (some ⟨b1, o1 + i * 35, none⟩)) rfl (by kernel_rfl) (by kernel_rfl) (by kernel_rfl) (fun _ _ _ h => h) (Or.inl ⟨by rfl, fun wx hS => ?_⟩) hH ?_
      · go_simp
      simp only [Act.put, List.setIfInBounds_toArray, List.set_cons_zero, List.set_cons_succ]
      refine wpAnyH_take (i := 11) (oi := { dst := some 59, op := Op.fieldAddr 66 (Operand.tmp 58) 3, type := 0, pos := "more.go:16", after := #[{ on := 10, ground := Ground.data }, { on := 7, ground := Ground.guard }], guard := some (7, false) }) (v := .pointer (some ⟨b1, o1 + i * 35 + 34, none⟩)) rfl (by kernel_rfl) (by kernel_rfl) (by kernel_rfl) (fun _ _ _ h => h) (Or.inl ⟨by rfl, fun wx hS => ?_⟩) hH ?_
      · go_simp
      simp only [Act.put, List.setIfInBounds_toArray, List.set_cons_zero, List.set_cons_succ]
      refine wpAnyH_take (i := 12) (oi := { dst := some 60, op := Op.load 3 (Operand.tmp 59), type := 3, pos := "more.go:16", after := #[{ on := 11, ground := Ground.data }, { on := 7, ground := Ground.guard }], guard := some (7, false) }) (v := .int .i64 (x.len : Int)) rfl (by kernel_rfl) (by kernel_rfl) (by kernel_rfl) (fun _ _ _ h => h) (Or.inl ⟨by rfl, fun wx hS => ?_⟩) hH ?_
      · have e1 := en_cell34 OKX.out (X1.out wx hS); go_simp
      simp only [Act.put, List.setIfInBounds_toArray, List.set_cons_zero, List.set_cons_succ]
      refine wpAnyH_take (i := 13) (oi := { dst := some 61, op := Op.move (Operand.tmp 7), type := 22, pos := "more.go:16", after := #[{ on := 7, ground := Ground.guard }], guard := some (7, false) }) (v := .slice (some ⟨b3, o3, none⟩) Dl.length dh) rfl (by kernel_rfl) (by kernel_rfl) (by kernel_rfl) (fun _ _ _ h => h) (Or.inl ⟨by rfl, fun wx hS => ?_⟩) hH ?_
      · go_simp
      simp only [Act.put, List.setIfInBounds_toArray, List.set_cons_zero, List.set_cons_succ]
      refine wpAnyH_take (i := 14) (oi := { dst := some 62, op := Op.move (Operand.tmp 14), type := 3, pos := "more.go:16", after := #[{ on := 7, ground := Ground.guard }], guard := some (7, false) }) (v := .int .i64 (i : Int)) rfl (by kernel_rfl) (by kernel_rfl) (by kernel_rfl) (fun _ _ _ h => h) (Or.inl ⟨by rfl, fun wx hS => ?_⟩) hH ?_
      · go_simp
      simp only [Act.put, List.setIfInBounds_toArray, List.set_cons_zero, List.set_cons_succ]
      refine wpAnyH_take (i := 15) (oi := { dst := some 63, op := Op.indexAddr 22 (Operand.tmp 61) (Operand.tmp 62), type := 0, pos := "more.go:16", after := #[{ on := 13, ground := Ground.data }, { on := 14, ground := Ground.data }, { on := 7, ground := Ground.guard }], guard := some (7, false) }) (v := .pointer (some ⟨b3, o3 + i * 2, none⟩)) rfl (by kernel_rfl) (by kernel_rfl) (by kernel_rfl) (fun _ _ _ h => h) (Or.inl ⟨by rfl, fun wx hS => ?_⟩) hH ?_
      · go_simp
      simp only [Act.put, List.setIfInBounds_toArray, List.set_cons_zero, List.set_cons_succ]
      refine wpAnyH_take (i := 16) (oi := { dst := some 64, op := Op.fieldAddr 40 (Operand.tmp 63) 1, type := 0, pos := "more.go:16", after := #[{ on := 15, ground := Ground.data }, { on := 7, ground := Ground.guard }], guard := some (7, false) }) (v := .pointer (some ⟨b3, o3 + i * 2 + 1, none⟩)) rfl (by kernel_rfl) (by kernel_rfl) (by kernel_rfl) (fun _ _ _ h => h) (Or.inl ⟨by rfl, fun wx hS => ?_⟩) hH ?_
      · go_simp
      simp only [Act.put, List.setIfInBounds_toArray, List.set_cons_zero, List.set_cons_succ]
      refine wpAnyH_take (i := 17) (oi := { dst := some 65, op := Op.load 30 (Operand.tmp 64), type := 30, pos := "more.go:16", after := #[{ on := 16, ground := Ground.data }, { on := 7, ground := Ground.guard }], guard := some (7, false) }) (v := .slice da dn dc) rfl (by kernel_rfl) (by kernel_rfl) (by kernel_rfl) (fun _ _ _ h => h) (Or.inl ⟨by rfl, fun wx hS => ?_⟩) hH ?_
      · have e1 := X3.out wx hS; go_simp
      simp only [Act.put, List.setIfInBounds_toArray, List.set_cons_zero, List.set_cons_succ]
      refine wpAnyH_take (i := 18) (oi := { dst := some 66, op := Op.call { callee := Callee.builtin Builtin.len, args := #[Operand.tmp 65], argTypes := #[30] }, type := 3, pos := "more.go:16", after := #[{ on := 17, ground := Ground.data }, { on := 7, ground := Ground.guard }], guard := some (7, false) }) (v := .int .i64 (dn : Int)) rfl (by kernel_rfl) (by kernel_rfl) (by kernel_rfl) (fun _ _ _ h => h) (Or.inl ⟨by rfl, fun wx hS => ?_⟩) hH ?_
      · go_simp
      simp only [Act.put, List.setIfInBounds_toArray, List.set_cons_zero, List.set_cons_succ]
      refine wpAnyH_take (i := 19) (oi := { dst := some 67, op := Op.binOp BinOp.add 3 (Operand.tmp 66) (Operand.const (Value.int IntKind.i64 48)) 3, type := 3, pos := "more.go:16", after := #[{ on := 18, ground := Ground.data }, { on := 7, ground := Ground.guard }], guard := some (7, false) }) (v := .int .i64 (x.len : Int)) rfl (by kernel_rfl) (by kernel_rfl) (by kernel_rfl) (fun _ _ _ h => h) (Or.inl ⟨by rfl, fun wx hS => ?_⟩) hH ?_
      · have e1 := LX.out; go_simp
      simp only [Act.put, List.setIfInBounds_toArray, List.set_cons_zero, List.set_cons_succ]
      refine wpAnyH_take (i := 20) (oi := { dst := some 68, op := Op.binOp BinOp.neq 3 (Operand.tmp 60) (Operand.tmp 67) 3, type := 4, pos := "more.go:16", after := #[{ on := 12, ground := Ground.data }, { on := 19, ground := Ground.data }, { on := 7, ground := Ground.guard }], guard := some (7, false) }) (v := .bool false) rfl (by kernel_rfl) (by kernel_rfl) (by kernel_rfl) (fun _ _ _ h => h) (Or.inl ⟨by rfl, fun wx hS => ?_⟩) hH ?_
      · go_simp
      simp only [Act.put, List.setIfInBounds_toArray, List.set_cons_zero, List.set_cons_succ]
      refine wpAnyH_take (i := 21) (oi := { dst := some 69, op := Op.pick (Operand.tmp 55) (Operand.const (Value.bool true)) (Operand.tmp 68), type := 4, pos := "more.go:16", after := #[{ on := 7, ground := Ground.data }, { on := 20, ground := Ground.data }], guard := none }) (v := .bool false) rfl (by kernel_rfl) (by kernel_rfl) (by kernel_rfl) (fun _ _ _ h => h) (Or.inl ⟨by rfl, fun wx hS => ?_⟩) hH ?_
      · go_simp
      simp only [Act.put, List.setIfInBounds_toArray, List.set_cons_zero, List.set_cons_succ]
      refine wpAnyH_take (i := 22) (oi := { dst := some 70, op := Op.move (Operand.tmp 69), type := 4, pos := "more.go:16", after := #[{ on := 21, ground := Ground.data }, { on := 7, ground := Ground.chain }], guard := none }) (v := .bool false) rfl (by kernel_rfl) (by kernel_rfl) (by kernel_rfl) (fun _ _ _ h => h) (Or.inl ⟨by rfl, fun wx hS => ?_⟩) hH ?_
      · go_simp
      simp only [Act.put, List.setIfInBounds_toArray, List.set_cons_zero, List.set_cons_succ]
      refine wpAnyH_take (i := 23) (oi := { dst := some 71, op := Op.move (Operand.tmp 10), type := 31, pos := "more.go:16", after := #[{ on := 22, ground := Ground.guard }], guard := some (22, false) }) (v := .slice (some ⟨b2, o2, none⟩) S2.L.length dl2) rfl (by kernel_rfl) (by kernel_rfl) (by kernel_rfl) (fun _ _ _ h => h) (Or.inl ⟨by rfl, fun wx hS => ?_⟩) hH ?_
      · go_simp
      simp only [Act.put, List.setIfInBounds_toArray, List.set_cons_zero, List.set_cons_succ]
      refine wpAnyH_take (i := 24) (oi := { dst := some 72, op := Op.move (Operand.tmp 14), type := 3, pos := "more.go:16", after := #[{ on := 22, ground := Ground.guard }], guard := some (22, false) }) (v := .int .i64 (i : Int)) rfl (by kernel_rfl) (by kernel_rfl) (by kernel_rfl) (fun _ _ _ h => h) (Or.inl ⟨by rfl, fun wx hS => ?_⟩) hH ?_
      · go_simp
      simp only [Act.put, List.setIfInBounds_toArray, List.set_cons_zero, List.set_cons_succ]
      refine wpAnyH_take (i := 25) (oi := { dst := some 73, op := Op.indexAddr 31 (Operand.tmp 71) (Operand.tmp 72), type := 0, pos := "more.go:16", after := #[{ on := 23, ground := Ground.data }, { on := 24, ground := Ground.data }, { on := 22, ground := Ground.guard }], guard := some (22, false) }) (v := .pointer (some ⟨b2, o2 + i * 35, none⟩)) rfl (by kernel_rfl) (by kernel_rfl) (by kernel_rfl) (fun _ _ _ h => h) (Or.inl ⟨by rfl, fun wx hS => ?_⟩) hH ?_
      · go_simp
      simp only [Act.put, List.setIfInBounds_toArray, List.set_cons_zero, List.set_cons_succ]
      refine wpAnyH_take (i := 26) (oi := { dst := some 74, op := Op.load 66 (Operand.tmp 73), type := 66, pos := "more.go:16", after := #[{ on := 25, ground := Ground.data }, { on := 22, ground := Ground.guard }], guard := some (22, false) }) (v := .agg x.cells.toArray) rfl (by kernel_rfl) (by kernel_rfl) (by kernel_rfl) (fun _ _ _ h => h) (yieldsIf_load_mid (by rfl) 66 _ rfl b2 (o2 + i * 35) rfl x.cells _ (fun wx hS => X2.out wx hS) Tryd.underlying66 rfl (by rw [info_en, En.len35 OKX.out])) hH ?_
      simp only [Act.put, List.setIfInBounds_toArray, List.set_cons_zero, List.set_cons_succ]
      refine wpAnyH_take (i := 27) (oi := { dst := some 75, op := Op.move (Operand.tmp 6), type := 31, pos := "more.go:16", after := #[{ on := 22, ground := Ground.guard }], guard := some (22, false) }) (v := .slice (some ⟨b1, o1, none⟩) S2.L.length dl) rfl (by kernel_rfl) (by kernel_rfl) (by kernel_rfl) (fun _ _ _ h => h) (Or.inl ⟨by rfl, fun wx hS => ?_⟩) hH ?_
      · go_simp
      simp only [Act.put, List.setIfInBounds_toArray, List.set_cons_zero, List.set_cons_succ]
      refine wpAnyH_take (i := 28) (oi := { dst := some 76, op := Op.move (Operand.tmp 14), type := 3, pos := "more.go:16", after := #[{ on := 22, ground := Ground.guard }], guard := some (22, false) }) (v := .int .i64 (i : Int)) rfl (by kernel_rfl) (by kernel_rfl) (by kernel_rfl) (fun _ _ _ h => h) (Or.inl ⟨by rfl, fun wx hS => ?_⟩) hH ?_
      · go_simp
      simp only [Act.put, List.setIfInBounds_toArray, List.set_cons_zero, List.set_cons_succ]
      refine wpAnyH_take (i := 29) (oi := { dst := some 77, op := Op.indexAddr 31 (Operand.tmp 75) (Operand.tmp 76), type := 0, pos := "more.go:16", after := #[{ on := 27, ground := Ground.data }, { on := 28, ground := Ground.data }, { on := 22, ground := Ground.guard }], guard := some (22, false) }) (v := .pointer (some ⟨b1, o1 + i * 35, none⟩)) rfl (by kernel_rfl) (by kernel_rfl) (by kernel_rfl) (fun _ _ _ h => h) (Or.inl ⟨by rfl, fun wx hS => ?_⟩) hH ?_
      · go_simp
      simp only [Act.put, List.setIfInBounds_toArray, List.set_cons_zero, List.set_cons_succ]
      refine wpAnyH_take (i := 30) (oi := { dst := some 78, op := Op.load 66 (Operand.tmp 77), type := 66, pos := "more.go:16", after := #[{ on := 29, ground := Ground.data }, { on := 22, ground := Ground.guard }], guard := some (22, false) }) (v := .agg x.cells.toArray) rfl (by kernel_rfl) (by kernel_rfl) (by kernel_rfl) (fun _ _ _ h => h) (yieldsIf_load_mid (by rfl) 66 _ rfl b1 (o1 + i * 35) rfl x.cells _ (fun wx hS => X1.out wx hS) Tryd.underlying66 rfl (by rw [info_en, En.len35 OKX.out])) hH ?_
      simp only [Act.put, List.setIfInBounds_toArray, List.set_cons_zero, List.set_cons_succ]
      refine wpAnyH_take (i := 31) (oi := { dst := some 79, op := Op.binOp BinOp.neq 66 (Operand.tmp 74) (Operand.tmp 78) 66, type := 4, pos := "more.go:16", after := #[{ on := 26, ground := Ground.data }, { on := 30, ground := Ground.data }, { on := 22, ground := Ground.guard }], guard := some (22, false) }) (v := .bool false) rfl (by kernel_rfl) (by kernel_rfl) (by kernel_rfl) (fun _ _ _ h => h) (Or.inl ⟨by rfl, fun wx hS => ?_⟩) hH ?_
      · exact neq_enO _ _ _ _ x rfl rfl rfl OKX.out wx
      simp only [Act.put, List.setIfInBounds_toArray, List.set_cons_zero, List.set_cons_succ]
      refine wpAnyH_take (i := 32) (oi := { dst := some 80, op := Op.pick (Operand.tmp 70) (Operand.const (Value.bool true)) (Operand.tmp 79), type := 4, pos := "more.go:16", after := #[{ on := 22, ground := Ground.data }, { on := 31, ground := Ground.data }], guard := none }) (v := .bool false) rfl (by kernel_rfl) (by kernel_rfl) (by kernel_rfl) (fun _ _ _ h => h) (Or.inl ⟨by rfl, fun wx hS => ?_⟩) hH ?_
      · go_simp
      simp only [Act.put, List.setIfInBounds_toArray, List.set_cons_zero, List.set_cons_succ]
      refine wpAnyH_done (by kernel_rfl) ?_ _
      refine NoPanic.normal ?_
      have B4 := Lib.hid (HB3.out.trans (hH.mono HB3.out.size))
      have e34 := en_cell34 OKX.out (X1.out z0 hH)
      have g1 : IntKind.i64.wrap ((at1 : Int) + (x.len : Int)) = (at2 : Int) := by have h1 := SM.out; have h2 := SB.out; have h3 := LB.out; rw [IntWalk.i64_in _ (by omega)]; omega
      clear hH HB3 X1 X2 X3 OF LE SM LB SB
      go_wp2_with fail
      go_roundw
      case rel => exact ⟨i + 1, hlt, by go_num, by rw [HA2.out], B4⟩
      case measure => simp [intOf]; omega
    · obtain rfl : i = S2.L.length := by omega
      have q0 : ¬ (S2.L.length : Int) < (S2.L.length : Int) := by omega
      rw [List.take_length, ← GD.out.bl]
      have O14 := Lib.hid (O13.out.below HB3.out)
      have O24 := Lib.hid (O23.out.below HB3.out)
      have T4 := Lib.hid (T3.out.below HB3.out T3.out.2.2.1 T3.out.2.2.2)
      have KB4 := Lib.hid (KB3.out.trans (HB3.out.mono KB3.out.size))
      have PB : Hid (P2.length ≤ 100000) := Lib.hid (by have h1 := PLN.out; have h2 := HBL.out; have h3 := BBD.out; omega)
      have NA := Lib.hid (fun X (h : Below wr.heap.size wr X) => name_any ab db P2 X (O14.out.below h).1 (Nat.le_trans PB.out (by decide)) (T4.out.below h T4.out.2.2.1 T4.out.2.2.2))
      have NB := Lib.hid (fun X (h : Below wr.heap.size wr X) => name_any ab2 db2 P2 X (O24.out.below h).1 (Nat.le_trans PB.out (by decide)) (T4.out.below h T4.out.2.2.1 T4.out.2.2.2))
      have cs1 := conv_string wr ab P2 db O14.out.1.2.2
      have cs2 := conv_string wr ab2 P2 db2 O24.out.1.2.2
      have g1 : IntKind.i64.wrap ((P2.length : Int) - (S2.B.length : Int)) = (P2.length : Int) - (S2.B.length : Int) := by have h1 := PLN.out; have h2 := HBL.out; have h3 := BBD.out; rw [IntWalk.i64_in _ (by omega)]
      obtain ⟨hl, hhl⟩ : ∃ hl : Int, hl = (P2.length : Int) - (S2.B.length : Int) - 4 := ⟨_, rfl⟩
      have g2 : IntKind.i64.wrap ((P2.length : Int) - (S2.B.length : Int) - 4) = hl := by have h1 := PLN.out; have h2 := HBL.out; have h3 := BBD.out; rw [IntWalk.i64_in _ (by omega)]; exact hhl.symm
      have gl : Hid (52 + 34 * (S2.L.length : Int) ≤ hl ∧ hl ≤ 53 + 36 * (S2.L.length : Int)) := Lib.hid (by have h1 := PLN.out; have h2 := HBL.out; omega)
      have nl := packName_len P2
      clear hhl HB3 O13 O23 T3 KB3 L13 L23 H13 LN DL HBL PLN BBD
      have NA1 := NA.out wr (Below.refl _ _)
      have NB0 := NB
      generalize packName P2 = NM at *
      have sz : (str NM).size = 42 := by rw [str_size', nl]
      go_wp2_with ((with_reducible refine NA1.mono ?_); rintro e w5 ⟨rfl, kb⟩; refine Hid.out ?_)
      refine Lib.hid ?_
      have K5 := Lib.hid kb
      have NB1 := NB.out w5 kb
      clear NA1 kb cs1 cs2
      go_wp2_with ((with_reducible refine NB1.mono ?_); rintro e w6 ⟨rfl, kb⟩; refine Hid.out ?_)
      refine Lib.hid ?_
      have K6 := Lib.hid (K5.out.trans (kb.mono K5.out.size))
      have NA2 := NA.out w6 K6.out
      clear NB1 kb
      have e1 : IntKind.i64.wrap (34 * (S2.L.length : Int)) = 34 * (S2.L.length : Int) := by rw [IntWalk.i64_in _ (by omega)]
      have e2 : IntKind.i64.wrap (52 + 34 * (S2.L.length : Int)) = 52 + 34 * (S2.L.length : Int) := by rw [IntWalk.i64_in _ (by omega)]
      have e3 : IntKind.i64.wrap (36 * (S2.L.length : Int)) = 36 * (S2.L.length : Int) := by rw [IntWalk.i64_in _ (by omega)]
      have e4 : IntKind.i64.wrap (53 + 36 * (S2.L.length : Int)) = 53 + 36 * (S2.L.length : Int) := by rw [IntWalk.i64_in _ (by omega)]
      have t1 : 52 + 34 * (S2.L.length : Int) ≤ hl := gl.out.1
      have t2 : hl ≤ 53 + 36 * (S2.L.length : Int) := gl.out.2
      go_wp2_with ((with_reducible refine NA2.mono ?_); rintro e w7 ⟨rfl, kb⟩)
      go_ret
      exact ⟨rfl, KB4.out.trans ((K6.out.trans (kb.mono K6.out.size)).mono KB4.out.size)⟩
end Go.Proofs.YtmedejkienljdaaDoor
