/- pack.Blob, of a blob that was taken. -/
import Derived.Test.YtfhlcondnaahiaaDoorQe
import Derived.Test.YtfhlcondnaahiaaDoorPz
import Derived.Test.YtfhlcondnaahiaaDoorHex
namespace Go.Proofs.YtfhlcondnaahiaaDoor
open Go.RowKit Sha

theorem neq_id (l : List UInt8) (hl : l.length = 32) (w : World) : (binOp .neq 24 (.agg (byteCells l).toArray) (.agg (byteCells l).toArray)).run Tryd.prog w = .ok (.bool false) w := by
  rw [run_neq_struct, show (Op.equalIn 10000 24 (.agg (byteCells l).toArray) (.agg (byteCells l).toArray)).run Tryd.prog w = .ok true w from eq_id_at 9998 l hl w]
  rfl
theorem neq_idO (a : Act) (o : Oper) (x y : Operand) (l : List UInt8) (ho : o.op = .binOp .neq 24 x y 24) (hx : a.eval x = .agg (byteCells l).toArray) (hy : a.eval y = .agg (byteCells l).toArray) (hl : l.length = 32) (w : World) :
    (execOp a.eval o).run Tryd.prog w = .ok (.value (.bool false)) w := by
  unfold execOp
  simp only [ho, hx, hy, Sem.run_bind, neq_id l hl, run_eqGuard_agg _ _ _ _ _ _ _ egtId, Result.andThen_ok, Sem.run_pure]
set_option maxRecDepth 100000 in
set_option maxHeartbeats 4000000 in
theorem blob_yes (H M C N b A D : List UInt8) (k8 : UInt8) (p : Pt) (x : En) (w : World) (hH : H.length = 32) (hM : M.length = 32) (hC : C.length = 32) (hN : N.length = 16) (hp : p.ok0 w) (he : p.l = A ++ (wseal H M k8 (hexL x.id) N b ++ D)) (hl : p.l.length ≤ 100000000)
    (hk : (x.kind = 1 ∧ k8 = 1) ∨ (x.kind = 2 ∧ k8 = 2)) (hi : x.id = hmac C (k8 :: b)) (hb : b.length ≤ 131072) (hoff : x.off = A.length) (hlen : x.len = b.length + 48) (ht : tables w) :
    Calls Tryd.prog 21 #[.agg (byteCells (H ++ (M ++ C))).toArray, .slice p.a p.l.length p.c, .agg x.cells.toArray] w fun e w' => ∃ v, e = .returned (.tuple #[v, .int .i64 0]) ∧ Ci.ownB w' w.heap.size v b ∧ Below w.heap.size w w' := by
  have h32 : x.id.length = 32 := by rw [hi]; exact hmac_length _ _
  obtain ⟨Z, hZ⟩ : ∃ Z, Z = wseal H M k8 (hexL x.id) N b := ⟨_, rfl⟩
  have hxl : (hexL x.id).length ≤ 255 := by rw [hexL_length, h32]; decide
  have hor := openR_seal H M k8 (hexL x.id) N b hN hxl
  rw [← hZ] at he hor
  have hZl : Z.length = b.length + 48 := by rw [hZ]; exact wseal_length _ _ _ _ _ _ hN
  have hpl : p.l.length = A.length + (Z.length + D.length) := by rw [he]; simp
  obtain ⟨q, hq⟩ : ∃ q, q = p.sub x.off (x.off + x.len) := ⟨_, rfl⟩
  have lq : q.l = Z := by
    rw [hq]; show (p.l.take _).drop _ = _
    rw [he, hoff, hlen, ← hZl, List.take_length_add_append, List.take_left, List.drop_left]
  have RL : Hid (∀ X, _) := Lib.hid (fun X => p.run_lh x.off (x.off + x.len) (by omega) (by omega) hp.1.1 X)
  have OQ : Hid (∀ X, p.ok0 X → q.ok0 X) := Lib.hid (fun X h => by rw [hq]; exact Pt.sub_ok0 h _ _ (by omega) (by omega))
  rw [← hq] at RL
  have PO := Lib.hid (fun X (h : q.ok0 X) (t : tables X) => openR_any H M k8 (hexL x.id) Z q.a q.c X hH hM (by omega) (lq ▸ h.1.1) h.1.2.1 (lq ▸ h.1.2.2) t)
  rw [hor] at PO
  rw [lq] at RL
  have P0 := Lib.hid hp
  have T0 := Lib.hid ht
  have X35 : Hid (x.cells.length = 35) := Lib.hid (En.len35 h32)
  have XI : Hid (∀ i u, (byteCells x.id)[i]? = some u → x.cells[i]? = some u) := Lib.hid (fun i u hi => by unfold En.cells; rw [List.getElem?_append_left (List.getElem?_eq_some_iff.1 hi).1]; exact hi)
  obtain ⟨kd, hkd⟩ : ∃ kd : Nat, x.kind = (kd : Int) ∧ (kd = 1 ∨ kd = 2) ∧ IntKind.u8.wrap (kd : Int) = V k8 := by
    rcases hk with ⟨e1, rfl⟩ | ⟨e1, rfl⟩
    · exact ⟨1, e1, Or.inl rfl, rfl⟩
    · exact ⟨2, e1, Or.inr rfl, rfl⟩
  have x0 : x.cells[32]? = some (.int .i64 (kd : Int)) := by unfold En.cells; rw [List.getElem?_append_right (by rw [byteCells_length, h32]; decide), byteCells_length, h32, hkd.1]; rfl
  have x1 : x.cells[33]? = some (.int .i64 (x.off : Int)) := by unfold En.cells; rw [List.getElem?_append_right (by rw [byteCells_length, h32]; decide), byteCells_length, h32]; rfl
  have x2 : x.cells[34]? = some (.int .i64 (x.len : Int)) := by unfold En.cells; rw [List.getElem?_append_right (by rw [byteCells_length, h32]; decide), byteCells_length, h32]; rfl
  have IDA := Lib.hid (fun X (t : tables X) a c (h : partsIn X a [b]) (hc : 1 ≤ c) (ha : a = none → c = 0) => id_any (H ++ M) C k8 a c [b] X (by simp [hH, hM]) hC (by simp) hc ha (by simp; omega) h t)
  rw [show [b].flatten = b by simp, ← hi, List.append_assoc] at IDA
  have HB := Lib.hid hb
  have CL : Hid ((byteCells (H ++ (M ++ C))).length = 96) := Lib.hid (by rw [byteCells_length]; simp [hH, hM, hC])
  have KHM : Hid ((keyCells H M).length = 64) := Lib.hid (keyCells_length hH hM)
  have H32 := Lib.hid h32
  have KD := Lib.hid hkd
  have PT := Lib.hid (fun X => stext_any x.id X h32)
  have g1 : ¬ (x.off : Int) < 0 := by omega
  have g2 : ¬ (x.len : Int) < 0 := by omega
  have e1 : IntKind.i64.wrap ((p.l.length : Int) - (x.off : Int)) = (p.l.length : Int) - (x.off : Int) := by rw [IntWalk.i64_in _ (by omega)]
  have g3 : ¬ (p.l.length : Int) - (x.off : Int) < (x.len : Int) := by omega
  have e2 : IntKind.i64.wrap ((x.off : Int) + (x.len : Int)) = ((x.off + x.len : Nat) : Int) := by rw [IntWalk.i64_in _ (by omega)]; omega
  obtain ⟨tt, htt⟩ : ∃ t, t = x.off + x.len := ⟨_, rfl⟩
  rw [← htt] at RL e2
  have E2 := Lib.hid e2
  clear htt
  have ZL : Hid (Z.length = x.len) := Lib.hid (by omega)
  generalize x.off = xo at *
  generalize x.len = xl at *
  generalize p.l.length = pn at *
  generalize Z.length = zn at *
  obtain ⟨XC, hXC⟩ : ∃ XC, XC = x.cells := ⟨_, rfl⟩
  rw [← hXC] at X35 XI x0 x1 x2 ⊢
  clear hp he hl hk hi hb hoff hlen ht h32 hZ hxl hor hZl hpl hq lq hkd e2 hXC
  go_enter Tryd.func21, Tryd.ntmps21
  have kb1 := alloc_below w (.cells (byteCells (H ++ (M ++ C))).toArray 58 (0, 0))
  have kb2 := alloc_below (w.alloc (.cells (byteCells (H ++ (M ++ C))).toArray 58 (0, 0))) (.cells XC.toArray 66 (0, 0))
  have RB := Lib.hid ((blockIs.new w (byteCells (H ++ (M ++ C))) 58).below kb2 (blockIs.new w (byteCells (H ++ (M ++ C))) 58).lt)
  have XB := Lib.hid (blockIs.new (w.alloc (.cells (byteCells (H ++ (M ++ C))).toArray 58 (0, 0))) XC 66)
  have BA := Lib.hid (kb1.trans (kb2.mono kb1.size))
  have hsz : (w.alloc (.cells (byteCells (H ++ (M ++ C))).toArray 58 (0, 0))).heap.size = w.heap.size + 1 := by simp
  rw [hsz] at XB
  have PK := isKind_yes (kd : Int) (by have := KD.out.2.1; omega)
  clear kb1 kb2 hsz
  go_wp2_with ((with_reducible refine (PK _).mono ?_); rintro e wk ⟨rfl, rfl⟩; refine Hid.out ?_)
  refine Lib.hid ?_
  clear PK
  generalize (w.alloc (.cells (byteCells (H ++ (M ++ C))).toArray 58 (0, 0))).alloc (.cells XC.toArray 66 (0, 0)) = wa at *
  generalize hrb : w.heap.size = rb at *
  have HRB := Lib.hid hrb
  clear hrb
  generalize rb + 1 = xb at *
  have BW : Hid (rb ≤ wa.heap.size) := Lib.hid (by have := BA.out.size; have := HRB.out; omega)
  have CX : Hid (∀ X, Below wa.heap.size wa X → ∀ i u, XC[i]? = some u → X.cell? ⟨xb, i, none⟩ = some u) := Lib.hid (fun X hX i u hi => by
    have := (XB.out.below hX XB.out.lt).cell i
    exact this.trans hi)
  have CI : Hid (∀ X, Below wa.heap.size wa X → X.rangeAt xb 0 (byteCells x.id)) := Lib.hid (fun X hX i u hi => by
    have := CX.out X hX i u (XI.out i u hi)
    rwa [Nat.zero_add])
  have CK : Hid (∀ X, Below wa.heap.size wa X → X.rangeAt rb 0 (keyCells H M)) := Lib.hid (fun X hX i u hi => by
    have e : byteCells (H ++ (M ++ C)) = keyCells H M ++ byteCells C := by simp [keyCells, byteCells, List.append_assoc]
    have := (RB.out.below hX RB.out.lt).cell (0 + i)
    rw [Nat.zero_add, e, List.getElem?_append_left (List.getElem?_eq_some_iff.1 hi).1] at this
    rw [Nat.zero_add]
    exact this.trans hi)
  have CR : Hid (∀ X, Below wa.heap.size wa X → X.rangeAt rb 0 (byteCells (H ++ (M ++ C)))) := Lib.hid (fun X hX i u hi => by
    have := (RB.out.below hX RB.out.lt).cell (0 + i)
    rw [Nat.zero_add] at this ⊢
    exact this.trans hi)
  have y0 := Lib.hid x0
  have y1 := Lib.hid x1
  have y2 := Lib.hid x2
  clear x0 x1 x2 RB XB g1 g2 g3 e1
  go_wp2_with fail
  refine wp_region_noPanic ?_
  refine wp_region_held_drew (S := fun w' => Below wa.heap.size wa w') (by kernel_rfl) (below_drew' (Below.refl _ _)) (fun hH => ?_)
  generalize wa.drew = z0 at *
  refine wpAnyH_take (i := 0) (oi := { dst := some 33, op := Op.fieldAddr 58 (Operand.tmp 3) 0, type := 0, pos := "pack.go:75", after := #[], guard := none }) (v := .pointer (some ⟨rb, 0, none⟩)) rfl (by kernel_rfl) (by kernel_rfl) (by kernel_rfl) (fun _ _ _ h => h) (Or.inl ⟨by rfl, fun wx hS => ?_⟩) hH ?_
  · go_simp
  simp only [Act.put, List.setIfInBounds_toArray, List.set_cons_zero, List.set_cons_succ]
  refine wpAnyH_take (i := 1) (oi := { dst := some 34, op := Op.load 56 (Operand.tmp 33), type := 56, pos := "pack.go:75", after := #[⟨0, .data⟩], guard := none }) (v := .agg (keyCells H M).toArray) rfl (by kernel_rfl) (by kernel_rfl) (by kernel_rfl) (fun _ _ _ h => h) (yieldsIf_load_mid (by rfl) 56 _ rfl (rb) 0 rfl (keyCells H M) _ (fun wx hS => CK.out wx hS) Tryd.underlying56 rfl (by rw [infoKeys, KHM.out])) hH ?_
  simp only [Act.put, List.setIfInBounds_toArray, List.set_cons_zero, List.set_cons_succ]
  refine wpAnyH_take (i := 2) (oi := { dst := some 35, op := Op.fieldAddr 66 (Operand.tmp 5) 1, type := 0, pos := "pack.go:75", after := #[], guard := none }) (v := .pointer (some ⟨xb, 32, none⟩)) rfl (by kernel_rfl) (by kernel_rfl) (by kernel_rfl) (fun _ _ _ h => h) (Or.inl ⟨by rfl, fun wx hS => ?_⟩) hH ?_
  · go_simp
  simp only [Act.put, List.setIfInBounds_toArray, List.set_cons_zero, List.set_cons_succ]
  refine wpAnyH_take (i := 3) (oi := { dst := some 36, op := Op.load 3 (Operand.tmp 35), type := 3, pos := "pack.go:75", after := #[⟨2, .data⟩], guard := none }) (v := .int .i64 (kd : Int)) rfl (by kernel_rfl) (by kernel_rfl) (by kernel_rfl) (fun _ _ _ h => h) (Or.inl ⟨by rfl, fun wx hS => ?_⟩) hH ?_
  · have e1 := CX.out wx hS _ _ y0.out; go_simp
  simp only [Act.put, List.setIfInBounds_toArray, List.set_cons_zero, List.set_cons_succ]
  refine wpAnyH_take (i := 4) (oi := { dst := some 37, op := Op.convert 3 5 (Operand.tmp 36), type := 5, pos := "pack.go:75", after := #[⟨3, .data⟩], guard := none }) (v := .int .u8 (V k8)) rfl (by kernel_rfl) (by kernel_rfl) (by kernel_rfl) (fun _ _ _ h => h) (Or.inl ⟨by rfl, fun wx hS => ?_⟩) hH ?_
  · have e1 := KD.out.2.2; go_simp
  simp only [Act.put, List.setIfInBounds_toArray, List.set_cons_zero, List.set_cons_succ]
  refine wpAnyH_take (i := 5) (oi := { dst := some 38, op := Op.fieldAddr 66 (Operand.tmp 5) 0, type := 0, pos := "pack.go:75", after := #[], guard := none }) (v := .pointer (some ⟨xb, 0, none⟩)) rfl (by kernel_rfl) (by kernel_rfl) (by kernel_rfl) (fun _ _ _ h => h) (Or.inl ⟨by rfl, fun wx hS => ?_⟩) hH ?_
  · go_simp
  simp only [Act.put, List.setIfInBounds_toArray, List.set_cons_zero, List.set_cons_succ]
  refine wpAnyH_take (i := 6) (oi := { dst := some 39, op := Op.load 24 (Operand.tmp 38), type := 24, pos := "pack.go:75", after := #[⟨5, .data⟩], guard := none }) (v := .agg (byteCells x.id).toArray) rfl (by kernel_rfl) (by kernel_rfl) (by kernel_rfl) (fun _ _ _ h => h) (yieldsIf_load_mid (by rfl) 24 _ rfl (xb) 0 rfl (byteCells x.id) _ (fun wx hS => CI.out wx hS) Tryd.underlying24 rfl (by rw [infoId, byteCells_length, H32.out])) hH ?_
  simp only [Act.put, List.setIfInBounds_toArray, List.set_cons_zero, List.set_cons_succ]
  refine wpAnyH_take (i := 8) (oi := { dst := some 41, op := Op.move (Operand.tmp 1), type := 30, pos := "pack.go:75", after := #[], guard := none }) (v := .slice p.a pn p.c) rfl (by kernel_rfl) (by kernel_rfl) (by kernel_rfl) (fun _ _ _ h => h) (Or.inl ⟨by rfl, fun wx hS => ?_⟩) hH ?_
  · go_simp
  simp only [Act.put, List.setIfInBounds_toArray, List.set_cons_zero, List.set_cons_succ]
  refine wpAnyH_take (i := 9) (oi := { dst := some 42, op := Op.fieldAddr 66 (Operand.tmp 5) 2, type := 0, pos := "pack.go:75", after := #[], guard := none }) (v := .pointer (some ⟨xb, 33, none⟩)) rfl (by kernel_rfl) (by kernel_rfl) (by kernel_rfl) (fun _ _ _ h => h) (Or.inl ⟨by rfl, fun wx hS => ?_⟩) hH ?_
  · go_simp
  simp only [Act.put, List.setIfInBounds_toArray, List.set_cons_zero, List.set_cons_succ]
  refine wpAnyH_take (i := 10) (oi := { dst := some 43, op := Op.load 3 (Operand.tmp 42), type := 3, pos := "pack.go:75", after := #[⟨9, .data⟩], guard := none }) (v := .int .i64 (xo : Int)) rfl (by kernel_rfl) (by kernel_rfl) (by kernel_rfl) (fun _ _ _ h => h) (Or.inl ⟨by rfl, fun wx hS => ?_⟩) hH ?_
  · have e1 := CX.out wx hS _ _ y1.out; go_simp
  simp only [Act.put, List.setIfInBounds_toArray, List.set_cons_zero, List.set_cons_succ]
  refine wpAnyH_take (i := 11) (oi := { dst := some 44, op := Op.fieldAddr 66 (Operand.tmp 5) 2, type := 0, pos := "pack.go:75", after := #[], guard := none }) (v := .pointer (some ⟨xb, 33, none⟩)) rfl (by kernel_rfl) (by kernel_rfl) (by kernel_rfl) (fun _ _ _ h => h) (Or.inl ⟨by rfl, fun wx hS => ?_⟩) hH ?_
  · go_simp
  simp only [Act.put, List.setIfInBounds_toArray, List.set_cons_zero, List.set_cons_succ]
  refine wpAnyH_take (i := 12) (oi := { dst := some 45, op := Op.load 3 (Operand.tmp 44), type := 3, pos := "pack.go:75", after := #[⟨11, .data⟩], guard := none }) (v := .int .i64 (xo : Int)) rfl (by kernel_rfl) (by kernel_rfl) (by kernel_rfl) (fun _ _ _ h => h) (Or.inl ⟨by rfl, fun wx hS => ?_⟩) hH ?_
  · have e1 := CX.out wx hS _ _ y1.out; go_simp
  simp only [Act.put, List.setIfInBounds_toArray, List.set_cons_zero, List.set_cons_succ]
  refine wpAnyH_take (i := 13) (oi := { dst := some 46, op := Op.fieldAddr 66 (Operand.tmp 5) 3, type := 0, pos := "pack.go:75", after := #[], guard := none }) (v := .pointer (some ⟨xb, 34, none⟩)) rfl (by kernel_rfl) (by kernel_rfl) (by kernel_rfl) (fun _ _ _ h => h) (Or.inl ⟨by rfl, fun wx hS => ?_⟩) hH ?_
  · go_simp
  simp only [Act.put, List.setIfInBounds_toArray, List.set_cons_zero, List.set_cons_succ]
  refine wpAnyH_take (i := 14) (oi := { dst := some 47, op := Op.load 3 (Operand.tmp 46), type := 3, pos := "pack.go:75", after := #[⟨13, .data⟩], guard := none }) (v := .int .i64 (xl : Int)) rfl (by kernel_rfl) (by kernel_rfl) (by kernel_rfl) (fun _ _ _ h => h) (Or.inl ⟨by rfl, fun wx hS => ?_⟩) hH ?_
  · have e1 := CX.out wx hS _ _ y2.out; go_simp
  simp only [Act.put, List.setIfInBounds_toArray, List.set_cons_zero, List.set_cons_succ]
  refine wpAnyH_take (i := 15) (oi := { dst := some 48, op := Op.binOp BinOp.add 3 (Operand.tmp 45) (Operand.tmp 47) 3, type := 3, pos := "pack.go:75", after := #[⟨12, .data⟩, ⟨14, .data⟩], guard := none }) (v := .int .i64 (tt : Int)) rfl (by kernel_rfl) (by kernel_rfl) (by kernel_rfl) (fun _ _ _ h => h) (Or.inl ⟨by rfl, fun wx hS => ?_⟩) hH ?_
  · have e1 := E2.out; go_simp
  simp only [Act.put, List.setIfInBounds_toArray, List.set_cons_zero, List.set_cons_succ]
  refine wpAnyH_take (i := 16) (oi := { dst := some 49, op := Op.slice 30 (Operand.tmp 41) (some (Operand.tmp 43)) (some (Operand.tmp 48)) none, type := 30, pos := "pack.go:75", after := #[⟨8, .data⟩, ⟨10, .data⟩, ⟨15, .data⟩], guard := none }) (v := .slice q.a zn q.c) rfl (by kernel_rfl) (by kernel_rfl) (by kernel_rfl) (fun _ _ _ h => h) (Or.inl ⟨by rfl, fun wx hS => ?_⟩) hH ?_
  · have e1 := RL.out wx; go_simp
  simp only [Act.put, List.setIfInBounds_toArray, List.set_cons_zero, List.set_cons_succ]
  refine wpAnyH_ready (rs := [7]) (by kernel_rfl) (by simp) ?_
  refine AllReadyH.cons (o := { dst := some 40, op := Op.call { callee := Callee.value (Operand.func 27), args := #[Operand.tmp 39], argTypes := #[23] }, type := 9, pos := "pack.go:75", after := #[⟨6, .data⟩], guard := none }) rfl (fun KK hKK => ?_) AllReadyH.nil
  go_simp
  refine (PT.out z0).mono ?_
  rintro e z1 ⟨rfl, hb⟩
  have kk := hH.trans (hb.mono hH.size)
  clear hH hb
  refine hKK.out _ _ kk (fun hH => ?_)
  clear hKK KK kk
  try simp only [Act.put, List.setIfInBounds_toArray, List.set_cons_zero, List.set_cons_succ]
  refine wpAnyH_ready (rs := [17]) (by kernel_rfl) (by simp) ?_
  refine AllReadyH.cons (o := { dst := some 50, op := Op.call { callee := Callee.value (Operand.func 42), args := #[Operand.tmp 34, Operand.tmp 37, Operand.tmp 40, Operand.tmp 49], argTypes := #[56, 5, 9, 30] }, type := 63, pos := "pack.go:75", after := #[⟨1, .data⟩, ⟨4, .data⟩, ⟨7, .data⟩, ⟨16, .data⟩, ⟨7, .chain⟩], guard := none }) rfl (fun KK hKK => ?_) AllReadyH.nil
  go_simp
  have BZ := BA.out.trans (hH.mono BW.out)
  refine (PO.out z1 (OQ.out z1 (P0.out.below (HRB.out ▸ BZ))) (T0.out.below (HRB.out ▸ BZ) T0.out.2.2.1 T0.out.2.2.2)).mono ?_
  rintro e z2 ⟨v, rfl, hv, hb⟩
  have OV : Hid (Ci.ownB z2 wa.heap.size v b) := Lib.hid (Joins.ownsRow_le hv (show wa.heap.size ≤ z1.heap.size from hH.size))
  have kk := hH.trans (hb.mono hH.size)
  clear hH hb hv BZ
  refine hKK.out _ _ kk (fun hH => ?_)
  clear hKK KK kk
  try simp only [Act.put, List.setIfInBounds_toArray, List.set_cons_zero, List.set_cons_succ]
  refine wpAnyH_take (i := 18) (oi := { dst := some 32, op := Op.move (Operand.tmp 50), type := 63, pos := "pack.go:75", after := #[⟨17, .data⟩], guard := none }) (v := .tuple #[v, .int .i64 0]) rfl (by kernel_rfl) (by kernel_rfl) (by kernel_rfl) (fun _ _ _ h => h) (Or.inl ⟨by rfl, fun wx hS => ?_⟩) hH ?_
  · go_simp
  simp only [Act.put, List.setIfInBounds_toArray, List.set_cons_zero, List.set_cons_succ]
  refine wpAnyH_take (i := 19) (oi := { dst := some 51, op := Op.extract (Operand.tmp 32) 0, type := 30, pos := "pack.go:75", after := #[⟨18, .data⟩], guard := none }) (v := v) rfl (by kernel_rfl) (by kernel_rfl) (by kernel_rfl) (fun _ _ _ h => h) (Or.inl ⟨by rfl, fun wx hS => ?_⟩) hH ?_
  · go_simp
  simp only [Act.put, List.setIfInBounds_toArray, List.set_cons_zero, List.set_cons_succ]
  refine wpAnyH_take (i := 20) (oi := { dst := some 52, op := Op.extract (Operand.tmp 32) 1, type := 25, pos := "pack.go:75", after := #[⟨18, .data⟩, ⟨21, .gcOnly .lateStores⟩], guard := none }) (v := .int .i64 0) rfl (by kernel_rfl) (by kernel_rfl) (by kernel_rfl) (fun _ _ _ h => h) (Or.inl ⟨by rfl, fun wx hS => ?_⟩) hH ?_
  · go_simp
  simp only [Act.put, List.setIfInBounds_toArray, List.set_cons_zero, List.set_cons_succ]
  refine wpAnyH_ready (rs := [21]) (by kernel_rfl) (by simp) ?_
  refine AllReadyH.cons (o := { dst := some 8, op := Op.assign (Operand.tmp 51), type := 30, pos := "pack.go:75", after := #[⟨19, .data⟩, ⟨17, .chain⟩, ⟨0, .phase⟩, ⟨1, .phase⟩, ⟨2, .phase⟩, ⟨3, .phase⟩, ⟨4, .phase⟩, ⟨5, .phase⟩, ⟨6, .phase⟩, ⟨7, .phase⟩, ⟨8, .phase⟩, ⟨9, .phase⟩, ⟨10, .phase⟩, ⟨11, .phase⟩, ⟨12, .phase⟩, ⟨13, .phase⟩, ⟨14, .phase⟩, ⟨15, .phase⟩, ⟨16, .phase⟩, ⟨17, .phase⟩, ⟨18, .phase⟩, ⟨19, .phase⟩, ⟨20, .textOnly .lateStores⟩], guard := none }) rfl (fun KK hKK => ?_) AllReadyH.nil
  go_simp
  refine hKK.out _ _ hH (fun hH => ?_)
  clear hKK KK
  try simp only [Act.put, List.setIfInBounds_toArray, List.set_cons_zero, List.set_cons_succ]
  refine wpAnyH_ready (rs := [22]) (by kernel_rfl) (by simp) ?_
  refine AllReadyH.cons (o := { dst := some 9, op := Op.assign (Operand.tmp 52), type := 25, pos := "pack.go:75", after := #[⟨20, .data⟩, ⟨21, .chain⟩, ⟨0, .phase⟩, ⟨1, .phase⟩, ⟨2, .phase⟩, ⟨3, .phase⟩, ⟨4, .phase⟩, ⟨5, .phase⟩, ⟨6, .phase⟩, ⟨7, .phase⟩, ⟨8, .phase⟩, ⟨9, .phase⟩, ⟨10, .phase⟩, ⟨11, .phase⟩, ⟨12, .phase⟩, ⟨13, .phase⟩, ⟨14, .phase⟩, ⟨15, .phase⟩, ⟨16, .phase⟩, ⟨17, .phase⟩, ⟨18, .phase⟩, ⟨19, .phase⟩, ⟨20, .phase⟩, ⟨21, .phase⟩], guard := none }) rfl (fun KK hKK => ?_) AllReadyH.nil
  go_simp
  refine hKK.out _ _ hH (fun hH => ?_)
  clear hKK KK
  try simp only [Act.put, List.setIfInBounds_toArray, List.set_cons_zero, List.set_cons_succ]
  refine wpAnyH_done (by kernel_rfl) ?_ _
  refine NoPanic.normal ?_
  have BK := Lib.hid hH
  clear hH
  go_wp2_with fail
  obtain ⟨va, vc, rfl, h1, h2, h3, h4⟩ := OV.out.form
  have BI := Lib.hid (bytesIn.below h3 (below_drew' (Below.refl z2.heap.size z2)))
  have OV2 : Hid (Ci.ownB z2.drew wa.heap.size (.slice va b.length vc) b) := Lib.hid (row_kp OV.out (Kp.below (f := fun _ => False) (below_drew' (Below.refl z2.heap.size z2))) fun _ _ => id)
  have VC := Lib.hid (And.intro h1 (And.intro h2 h4))
  have gb : ¬ (131072 : Int) < (b.length : Int) := by have := HB.out; omega
  clear h1 h2 h3 h4 OV
  refine wp_region_noPanic ?_
  refine wp_region_held_drew (S := fun w' => Below wa.heap.size wa w') (by kernel_rfl) (below_drew' BK.out) (fun hH => ?_)
  generalize z2.drew = t0 at *
  refine wpAnyH_take (i := 0) (oi := { dst := some 53, op := Op.move (Operand.tmp 9), type := 25, pos := "pack.go:76", after := #[], guard := none }) (v := .int .i64 0) rfl (by kernel_rfl) (by kernel_rfl) (by kernel_rfl) (fun _ _ _ h => h) (Or.inl ⟨by rfl, fun wx hS => ?_⟩) hH ?_
  · go_simp
  simp only [Act.put, List.setIfInBounds_toArray, List.set_cons_zero, List.set_cons_succ]
  refine wpAnyH_take (i := 1) (oi := { dst := some 54, op := Op.binOp BinOp.neq 25 (Operand.tmp 53) (Operand.const (Value.int IntKind.i64 0)) 25, type := 4, pos := "pack.go:76", after := #[⟨0, .data⟩], guard := none }) (v := .bool false) rfl (by kernel_rfl) (by kernel_rfl) (by kernel_rfl) (fun _ _ _ h => h) (Or.inl ⟨by rfl, fun wx hS => ?_⟩) hH ?_
  · go_simp
  simp only [Act.put, List.setIfInBounds_toArray, List.set_cons_zero, List.set_cons_succ]
  refine wpAnyH_take (i := 2) (oi := { dst := some 55, op := Op.move (Operand.tmp 54), type := 4, pos := "pack.go:76", after := #[⟨1, .data⟩], guard := none }) (v := .bool false) rfl (by kernel_rfl) (by kernel_rfl) (by kernel_rfl) (fun _ _ _ h => h) (Or.inl ⟨by rfl, fun wx hS => ?_⟩) hH ?_
  · go_simp
  simp only [Act.put, List.setIfInBounds_toArray, List.set_cons_zero, List.set_cons_succ]
  refine wpAnyH_take (i := 3) (oi := { dst := some 56, op := Op.move (Operand.tmp 8), type := 30, pos := "pack.go:76", after := #[⟨2, .guard⟩], guard := some (2, false) }) (v := .slice va b.length vc) rfl (by kernel_rfl) (by kernel_rfl) (by kernel_rfl) (fun _ _ _ h => h) (Or.inl ⟨by rfl, fun wx hS => ?_⟩) hH ?_
  · go_simp
  simp only [Act.put, List.setIfInBounds_toArray, List.set_cons_zero, List.set_cons_succ]
  refine wpAnyH_take (i := 4) (oi := { dst := some 57, op := Op.call { callee := Callee.builtin Builtin.len, args := #[Operand.tmp 56], argTypes := #[30] }, type := 3, pos := "pack.go:76", after := #[⟨3, .data⟩, ⟨2, .guard⟩], guard := some (2, false) }) (v := .int .i64 (b.length : Int)) rfl (by kernel_rfl) (by kernel_rfl) (by kernel_rfl) (fun _ _ _ h => h) (Or.inl ⟨by rfl, fun wx hS => ?_⟩) hH ?_
  · go_simp
  simp only [Act.put, List.setIfInBounds_toArray, List.set_cons_zero, List.set_cons_succ]
  refine wpAnyH_take (i := 5) (oi := { dst := some 58, op := Op.binOp BinOp.gtr 3 (Operand.tmp 57) (Operand.const (Value.int IntKind.i64 131072)) 3, type := 4, pos := "pack.go:76", after := #[⟨4, .data⟩, ⟨2, .guard⟩], guard := some (2, false) }) (v := .bool false) rfl (by kernel_rfl) (by kernel_rfl) (by kernel_rfl) (fun _ _ _ h => h) (Or.inl ⟨by rfl, fun wx hS => ?_⟩) hH ?_
  · go_simp
  simp only [Act.put, List.setIfInBounds_toArray, List.set_cons_zero, List.set_cons_succ]
  refine wpAnyH_take (i := 6) (oi := { dst := some 59, op := Op.pick (Operand.tmp 55) (Operand.const (Value.bool true)) (Operand.tmp 58), type := 4, pos := "pack.go:76", after := #[⟨2, .data⟩, ⟨5, .data⟩], guard := none }) (v := .bool false) rfl (by kernel_rfl) (by kernel_rfl) (by kernel_rfl) (fun _ _ _ h => h) (Or.inl ⟨by rfl, fun wx hS => ?_⟩) hH ?_
  · go_simp
  simp only [Act.put, List.setIfInBounds_toArray, List.set_cons_zero, List.set_cons_succ]
  refine wpAnyH_take (i := 7) (oi := { dst := some 60, op := Op.move (Operand.tmp 59), type := 4, pos := "pack.go:76", after := #[⟨6, .data⟩, ⟨2, .chain⟩], guard := none }) (v := .bool false) rfl (by kernel_rfl) (by kernel_rfl) (by kernel_rfl) (fun _ _ _ h => h) (Or.inl ⟨by rfl, fun wx hS => ?_⟩) hH ?_
  · go_simp
  simp only [Act.put, List.setIfInBounds_toArray, List.set_cons_zero, List.set_cons_succ]
  refine wpAnyH_take (i := 8) (oi := { dst := some 61, op := Op.load 58 (Operand.tmp 3), type := 58, pos := "pack.go:76", after := #[⟨7, .guard⟩], guard := some (7, false) }) (v := .agg (byteCells (H ++ (M ++ C))).toArray) rfl (by kernel_rfl) (by kernel_rfl) (by kernel_rfl) (fun _ _ _ h => h) (yieldsIf_load_mid (by rfl) 58 _ rfl (rb) 0 rfl (byteCells (H ++ (M ++ C))) _ (fun wx hS => CR.out wx hS) Tryd.underlying58 rfl (by rw [info_ring, CL.out])) hH ?_
  simp only [Act.put, List.setIfInBounds_toArray, List.set_cons_zero, List.set_cons_succ]
  refine wpAnyH_take (i := 9) (oi := { dst := some 62, op := Op.fieldAddr 66 (Operand.tmp 5) 1, type := 0, pos := "pack.go:76", after := #[⟨7, .guard⟩], guard := some (7, false) }) (v := .pointer (some ⟨xb, 32, none⟩)) rfl (by kernel_rfl) (by kernel_rfl) (by kernel_rfl) (fun _ _ _ h => h) (Or.inl ⟨by rfl, fun wx hS => ?_⟩) hH ?_
  · go_simp
  simp only [Act.put, List.setIfInBounds_toArray, List.set_cons_zero, List.set_cons_succ]
  refine wpAnyH_take (i := 10) (oi := { dst := some 63, op := Op.load 3 (Operand.tmp 62), type := 3, pos := "pack.go:76", after := #[⟨9, .data⟩, ⟨7, .guard⟩], guard := some (7, false) }) (v := .int .i64 (kd : Int)) rfl (by kernel_rfl) (by kernel_rfl) (by kernel_rfl) (fun _ _ _ h => h) (Or.inl ⟨by rfl, fun wx hS => ?_⟩) hH ?_
  · have e1 := CX.out wx hS _ _ y0.out; go_simp
  simp only [Act.put, List.setIfInBounds_toArray, List.set_cons_zero, List.set_cons_succ]
  refine wpAnyH_take (i := 11) (oi := { dst := some 64, op := Op.convert 3 5 (Operand.tmp 63), type := 5, pos := "pack.go:76", after := #[⟨10, .data⟩, ⟨7, .guard⟩], guard := some (7, false) }) (v := .int .u8 (V k8)) rfl (by kernel_rfl) (by kernel_rfl) (by kernel_rfl) (fun _ _ _ h => h) (Or.inl ⟨by rfl, fun wx hS => ?_⟩) hH ?_
  · have e1 := KD.out.2.2; go_simp
  simp only [Act.put, List.setIfInBounds_toArray, List.set_cons_zero, List.set_cons_succ]
  refine wpAnyH_take (i := 12) (oi := { dst := some 65, op := Op.move (Operand.tmp 8), type := 30, pos := "pack.go:76", after := #[⟨7, .guard⟩], guard := some (7, false) }) (v := .slice va b.length vc) rfl (by kernel_rfl) (by kernel_rfl) (by kernel_rfl) (fun _ _ _ h => h) (Or.inl ⟨by rfl, fun wx hS => ?_⟩) hH ?_
  · go_simp
  simp only [Act.put, List.setIfInBounds_toArray, List.set_cons_zero, List.set_cons_succ]
  refine wpAnyH_take (i := 15) (oi := { dst := some 68, op := Op.fieldAddr 66 (Operand.tmp 5) 0, type := 0, pos := "pack.go:76", after := #[⟨7, .guard⟩], guard := some (7, false) }) (v := .pointer (some ⟨xb, 0, none⟩)) rfl (by kernel_rfl) (by kernel_rfl) (by kernel_rfl) (fun _ _ _ h => h) (Or.inl ⟨by rfl, fun wx hS => ?_⟩) hH ?_
  · go_simp
  simp only [Act.put, List.setIfInBounds_toArray, List.set_cons_zero, List.set_cons_succ]
  refine wpAnyH_take (i := 16) (oi := { dst := some 69, op := Op.load 24 (Operand.tmp 68), type := 24, pos := "pack.go:76", after := #[⟨15, .data⟩, ⟨7, .guard⟩], guard := some (7, false) }) (v := .agg (byteCells x.id).toArray) rfl (by kernel_rfl) (by kernel_rfl) (by kernel_rfl) (fun _ _ _ h => h) (yieldsIf_load_mid (by rfl) 24 _ rfl (xb) 0 rfl (byteCells x.id) _ (fun wx hS => CI.out wx hS) Tryd.underlying24 rfl (by rw [infoId, byteCells_length, H32.out])) hH ?_
  simp only [Act.put, List.setIfInBounds_toArray, List.set_cons_zero, List.set_cons_succ]
  refine wpAnyH_ready (rs := [13]) (by kernel_rfl) (by simp) ?_
  refine AllReadyH.cons (o := { dst := some 66, op := Op.buildSlice 71 1 #[(0, Operand.tmp 65)], type := 71, pos := "pack.go:76", after := #[⟨12, .data⟩, ⟨7, .guard⟩], guard := some (7, false) }) rfl (fun KK hKK => ?_) AllReadyH.nil
  go_simp
  have kb := alloc_below t0 (.cells #[.slice va b.length vc] 30 (0, 0))
  have PP := parts_lit t0 [⟨va, vc, b⟩] (fun q hq => by rw [List.mem_singleton.1 hq]; exact ⟨VC.out.1, VC.out.2.1, BI.out⟩) #[.slice va b.length vc] rfl
  have PP : Hid (partsIn (t0.alloc (.cells #[.slice va b.length vc] 30 (0, 0))) (some ⟨t0.heap.size, 0, none⟩) [b]) := Lib.hid PP
  have OV3 : Hid (Ci.ownB (t0.alloc (.cells #[.slice va b.length vc] 30 (0, 0))) wa.heap.size (.slice va b.length vc) b) := Lib.hid (row_kp OV2.out (Kp.below (f := fun _ => False) kb) fun _ _ => id)
  have kk := hH.trans (kb.mono hH.size)
  clear hH kb OV2 BI
  refine hKK.out _ _ kk (fun hH => ?_)
  clear hKK KK kk
  try simp only [Act.put, List.setIfInBounds_toArray, List.set_cons_zero, List.set_cons_succ]
  generalize t0.alloc (.cells #[.slice va b.length vc] 30 (0, 0)) = t1 at *
  generalize t0.heap.size = pb at *
  refine wpAnyH_ready (rs := [14]) (by kernel_rfl) (by simp) ?_
  refine AllReadyH.cons (o := { dst := some 67, op := Op.call { callee := Callee.value (Operand.func 22), args := #[Operand.tmp 61, Operand.tmp 64, Operand.tmp 66], argTypes := #[58, 5, 71] }, type := 24, pos := "pack.go:76", after := #[⟨8, .data⟩, ⟨11, .data⟩, ⟨13, .data⟩, ⟨7, .chain⟩, ⟨7, .guard⟩], guard := some (7, false) }) rfl (fun KK hKK => ?_) AllReadyH.nil
  go_simp
  have BZ := BA.out.trans (hH.mono BW.out)
  refine (IDA.out t1 (T0.out.below (HRB.out ▸ BZ) T0.out.2.2.1 T0.out.2.2.2) _ 1 PP.out (Nat.le_refl _) (fun h => by cases h)).mono ?_
  rintro e t2 ⟨rfl, hb⟩
  have OV4 : Hid (Ci.ownB t2 wa.heap.size (.slice va b.length vc) b) := Lib.hid (row_kp OV3.out (Kp.below (f := fun _ => False) hb) fun _ _ => id)
  have kk := hH.trans (hb.mono hH.size)
  clear hH hb BZ OV3 PP
  refine hKK.out _ _ kk (fun hH => ?_)
  clear hKK KK kk
  try simp only [Act.put, List.setIfInBounds_toArray, List.set_cons_zero, List.set_cons_succ]
  refine wpAnyH_take (i := 17) (oi := { dst := some 70, op := Op.binOp BinOp.neq 24 (Operand.tmp 67) (Operand.tmp 69) 24, type := 4, pos := "pack.go:76", after := #[⟨14, .data⟩, ⟨16, .data⟩, ⟨7, .guard⟩], guard := some (7, false) }) (v := .bool false) rfl (by kernel_rfl) (by kernel_rfl) (by kernel_rfl) (fun _ _ _ h => h) (Or.inl ⟨by rfl, fun wx hS => ?_⟩) hH ?_
  · exact neq_idO _ _ _ _ x.id (by rfl) rfl rfl H32.out wx
  simp only [Act.put, List.setIfInBounds_toArray, List.set_cons_zero, List.set_cons_succ]
  refine wpAnyH_take (i := 18) (oi := { dst := some 71, op := Op.pick (Operand.tmp 60) (Operand.const (Value.bool true)) (Operand.tmp 70), type := 4, pos := "pack.go:76", after := #[⟨7, .data⟩, ⟨17, .data⟩], guard := none }) (v := .bool false) rfl (by kernel_rfl) (by kernel_rfl) (by kernel_rfl) (fun _ _ _ h => h) (Or.inl ⟨by rfl, fun wx hS => ?_⟩) hH ?_
  · go_simp
  simp only [Act.put, List.setIfInBounds_toArray, List.set_cons_zero, List.set_cons_succ]
  refine wpAnyH_done (by kernel_rfl) ?_ _
  refine NoPanic.normal ?_
  have BE := Lib.hid hH
  clear hH
  go_wp2_with fail
  refine bodyPost_ret (v := .tuple #[.slice va b.length vc, .int .i64 0]) (results_tmp2 (t := 6) (u := 7) rfl _ _ _) rfl ?_
  rw [HRB.out]
  exact ⟨_, rfl, Joins.ownsRow_le OV4.out BW.out, BA.out.trans (BE.out.mono BW.out)⟩
