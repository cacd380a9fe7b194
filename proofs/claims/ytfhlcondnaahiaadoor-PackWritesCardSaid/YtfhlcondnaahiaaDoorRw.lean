/- The document's Writer: write, four. -/
import Derived.Test.YtfhlcondnaahiaaDoorTk
import Derived.Test.YtfhlcondnaahiaaDoorPq
import Derived.Test.YtfhlcondnaahiaaDoorPa
namespace Go.Proofs.YtfhlcondnaahiaaDoor
open Go.RowKit Sha

theorem rfour_any (n : Nat) (hn : n ≤ 1000000000) (w : World) :
    Calls Tryd.prog 37 #[.int .i64 (n : Int)] w fun e w' => e = .returned (.string (str (be4 n))) ∧ Below w.heap.size w w' := by
  have e1 : IntKind.u8.wrap ((n : Int) / 16777216) = V (UInt8.ofNat (n / 16777216)) := wrap8 n 16777216
  have e2 : IntKind.u8.wrap ((n : Int) / 65536) = V (UInt8.ofNat (n / 65536)) := wrap8 n 65536
  have e3 : IntKind.u8.wrap ((n : Int) / 256) = V (UInt8.ofNat (n / 256)) := wrap8 n 256
  have e4 : IntKind.u8.wrap (n : Int) = V (UInt8.ofNat n) := by have := wrap8 n 1; simpa using this
  have p : 0 ≤ (n : Int) := by omega
  go_enter Tryd.func37, Tryd.ntmps37
  have hb : bytesIn (w.alloc (.cells #[.int .u8 (V (UInt8.ofNat (n / 16777216))), .int .u8 (V (UInt8.ofNat (n / 65536))), .int .u8 (V (UInt8.ofNat (n / 256))), .int .u8 (V (UInt8.ofNat n))] 5 (0, 0))) (some ⟨w.heap.size, 0, none⟩) (be4 n) := salt_in _ _ (be4 n) (0, 0) (heap_alloc_new w _)
  have cv := conv_string _ (some ⟨w.heap.size, 0, none⟩) (be4 n) 4 hb
  rw [show (be4 n).length = 4 from rfl] at cv
  go_wp2_with fail
  go_ret
  exact ⟨rfl, alloc_below _ _⟩
theorem ref_at96 {X : World} {rb : Nat} {RG F B : List UInt8} {u : Int} {lv : Value} (hR : RG.length = 96) (h : blockIs X rb (refCells RG F u B lv) 52) : X.cell? ⟨rb, 96, none⟩ = some (.string (str F)) := by
  rw [h.cell]; unfold refCells; rw [List.getElem?_append_right (by rw [byteCells_length]; omega), byteCells_length, hR]; rfl
theorem ref_at97 {X : World} {rb : Nat} {RG F B : List UInt8} {u : Int} {lv : Value} (hR : RG.length = 96) (h : blockIs X rb (refCells RG F u B lv) 52) : X.cell? ⟨rb, 97, none⟩ = some (.int .i64 u) := by
  rw [h.cell]; unfold refCells; rw [List.getElem?_append_right (by rw [byteCells_length]; omega), byteCells_length, hR]; rfl
theorem ref_at98 {X : World} {rb : Nat} {RG F B : List UInt8} {u : Int} {lv : Value} (hR : RG.length = 96) (h : blockIs X rb (refCells RG F u B lv) 52) : X.cell? ⟨rb, 98, none⟩ = some (.string (str B)) := by
  rw [h.cell]; unfold refCells; rw [List.getElem?_append_right (by rw [byteCells_length]; omega), byteCells_length, hR]; rfl
theorem ref_at99 {X : World} {rb : Nat} {RG F B : List UInt8} {u : Int} {lv : Value} (hR : RG.length = 96) (h : blockIs X rb (refCells RG F u B lv) 52) : X.cell? ⟨rb, 99, none⟩ = some lv := by
  rw [h.cell]; unfold refCells; rw [List.getElem?_append_right (by rw [byteCells_length]; omega), byteCells_length, hR]; rfl
theorem ref_len {RG F B : List UInt8} {u : Int} {lv : Value} (hR : RG.length = 96) : (refCells RG F u B lv).length = 100 := by
  unfold refCells; rw [List.length_append, byteCells_length, hR]; rfl
theorem ref_set97 {RG F B : List UInt8} {u z : Int} {lv : Value} (hR : RG.length = 96) : (refCells RG F u B lv).set 97 (.int .i64 z) = refCells RG F z B lv := by
  unfold refCells; rw [List.set_append_right _ _ (by rw [byteCells_length]; omega), byteCells_length, hR]; rfl
theorem ref_set98 {RG F B D : List UInt8} {u : Int} {lv : Value} (hR : RG.length = 96) : (refCells RG F u B lv).set 98 (.string (str D)) = refCells RG F u D lv := by
  unfold refCells; rw [List.set_append_right _ _ (by rw [byteCells_length]; omega), byteCells_length, hR]; rfl
theorem ref_set99 {RG F B : List UInt8} {u : Int} {lv v : Value} (hR : RG.length = 96) : (refCells RG F u B lv).set 99 v = refCells RG F u B v := by
  unfold refCells; rw [List.set_append_right _ _ (by rw [byteCells_length]; omega), byteCells_length, hR]; rfl
theorem ref_keys {X : World} {rb : Nat} {H M C F B : List UInt8} {u : Int} {lv : Value} (h : blockIs X rb (refCells (H ++ (M ++ C)) F u B lv) 52) : X.rangeAt rb 0 (keyCells H M) := fun i v hi => by
  have e : refCells (H ++ (M ++ C)) F u B lv = keyCells H M ++ (byteCells C ++ [.string (str F), .int .i64 u, .string (str B), lv]) := by
    simp [refCells, keyCells, byteCells_append, List.append_assoc]
  rw [Nat.zero_add, h.cell, e, List.getElem?_append_left (List.getElem?_eq_some_iff.1 hi).1]
  exact hi
theorem ref_ring {X : World} {rb : Nat} {RG F B : List UInt8} {u : Int} {lv : Value} (h : blockIs X rb (refCells RG F u B lv) 52) : X.rangeAt rb 0 (byteCells RG) := fun i v hi => by
  rw [Nat.zero_add, h.cell, refCells, List.getElem?_append_left (List.getElem?_eq_some_iff.1 hi).1]
  exact hi
theorem info_int : (Tryd.prog.info? 3).map (·.size) = some 1 := by kernel_rfl
theorem info_str : (Tryd.prog.info? 9).map (·.size) = some 1 := by kernel_rfl
set_option maxRecDepth 100000 in
set_option maxHeartbeats 4000000 in
theorem rwrite_any (H M C F : List UInt8) (used : Nat) (B : List UInt8) (lv : Value) (rb : Nat) (kd : UInt8) (ki : Int) (nm b : List UInt8) (w : World) (hH : H.length = 32) (hM : M.length = 32) (hC : C.length = 32) (hF : F.length ≤ 400) (hu : used ≤ 60000) (hk : IntKind.u8.wrap ki = V kd) (hnm : nm.length ≤ 255) (hb : b.length ≤ 1000)
    (hR : blockIs w rb (refCells (H ++ (M ++ C)) F used B lv) 52) :
    Calls Tryd.prog 36 #[.pointer (some ⟨rb, 0, none⟩), .int .i64 ki, .string (str nm), .string (str b)] w fun e w' => e = .returned (.string (str (wseal H M kd nm (tbytes F (16 * used) 16) b))) ∧ blockIs w' rb (refCells (H ++ (M ++ C)) F (used + 1 : Nat) B lv) 52 ∧ Kp (fun k => k = rb) w w' := by
  have RGL : Hid ((H ++ (M ++ C)).length = 96) := Lib.hid (by simp [hH, hM, hC])
  have KHM : Hid ((keyCells H M).length = 64) := Lib.hid (keyCells_length hH hM)
  have TP := Lib.hid (fun X => docTape_any F (16 * used) 16 X hF (by omega) (by omega))
  rw [show ((16 : Nat) : Int) = 16 from rfl] at TP
  have DS := Lib.hid (fun N X (hN : N.length = 16) => docSeal_ok H M N kd nm b X hH hM hN hnm hb)
  have HK := Lib.hid hk
  have qm : Hid (IntKind.i64.wrap (16 * (used : Int)) = ((16 * used : Nat) : Int)) := Lib.hid (by rw [IntWalk.i64_in _ (by omega)]; omega)
  have qa : IntKind.i64.wrap ((used : Int) + 1) = ((used + 1 : Nat) : Int) := by rw [IntWalk.i64_in _ (by omega)]; omega
  have R0 := Lib.hid hR
  have hz := Ci.zeroBlk
  generalize hKC : keyCells H M = KC at *
  have HKC := Lib.hid hKC
  clear hH hM hC hF hu hk hnm hb hR hKC
  generalize 16 * used = t at *
  generalize hq : used + 1 = u1 at *
  obtain ⟨q, rfl⟩ : ∃ q, q = used := ⟨_, rfl⟩
  clear hq
  go_enter Tryd.func36, Tryd.ntmps36
  go_upto_region 2 with fail
  clear hz
  have nz := blockIs.new w (zeros 16) 106
  have kz := alloc_below w (.cells (zeros 16).toArray 106 (0, 0))
  generalize w.alloc (.cells (zeros 16).toArray 106 (0, 0)) = y0 at *
  obtain ⟨nb, hnb⟩ : ∃ nb, nb = w.heap.size := ⟨_, rfl⟩
  have HNB := Lib.hid hnb
  rw [← hnb] at nz ⊢
  clear hnb
  refine wp_region_noPanic ?_
  refine wp_region_held_drew (S := fun w' => Below w.heap.size w w') (by kernel_rfl) (below_drew' kz) (fun hH => ?_)
  have n2 : blockIs y0.drew nb (zeros 16) 106 := nz.drewN 1
  clear nz kz
  generalize y0.drew = y1 at *
  refine tk (i := 0) (oi := { dst := some 12, op := Op.slice 106 (Operand.tmp 9) none none none, type := 30, pos := "ref.go:46", after := #[], guard := none }) (v := .slice (some ⟨nb, 0, none⟩) 16 16) rfl (fun wx hS => ?_) hH ?_
  · go_simp
  refine tk (i := 1) (oi := { dst := some 13, op := Op.move (Operand.tmp 0), type := 36, pos := "ref.go:46", after := #[], guard := none }) (v := .pointer (some ⟨rb, 0, none⟩)) rfl (fun wx hS => ?_) hH ?_
  · go_simp
  refine tk (i := 2) (oi := { dst := some 14, op := Op.nilCheck (Operand.tmp 13), type := 0, pos := "ref.go:46", after := #[⟨1, .data⟩], guard := none }) (v := .pointer (some ⟨rb, 0, none⟩)) rfl (fun wx hS => ?_) hH ?_
  · go_simp
  refine tk (i := 3) (oi := { dst := some 15, op := Op.fieldAddr 52 (Operand.tmp 14) 1, type := 0, pos := "ref.go:46", after := #[⟨2, .data⟩], guard := none }) (v := .pointer (some ⟨rb, 96, none⟩)) rfl (fun wx hS => ?_) hH ?_
  · go_simp
  refine tk (i := 4) (oi := { dst := some 16, op := Op.load 9 (Operand.tmp 15), type := 9, pos := "ref.go:46", after := #[⟨3, .data⟩], guard := none }) (v := .string (str F)) rfl (fun wx hS => ?_) hH ?_
  · have e1 := ref_at96 RGL.out (R0.out.below hS R0.out.lt); go_simp
  refine tk (i := 5) (oi := { dst := some 17, op := Op.move (Operand.tmp 0), type := 36, pos := "ref.go:46", after := #[], guard := none }) (v := .pointer (some ⟨rb, 0, none⟩)) rfl (fun wx hS => ?_) hH ?_
  · go_simp
  refine tk (i := 6) (oi := { dst := some 18, op := Op.nilCheck (Operand.tmp 17), type := 0, pos := "ref.go:46", after := #[⟨5, .data⟩], guard := none }) (v := .pointer (some ⟨rb, 0, none⟩)) rfl (fun wx hS => ?_) hH ?_
  · go_simp
  refine tk (i := 7) (oi := { dst := some 19, op := Op.fieldAddr 52 (Operand.tmp 18) 2, type := 0, pos := "ref.go:46", after := #[⟨6, .data⟩], guard := none }) (v := .pointer (some ⟨rb, 97, none⟩)) rfl (fun wx hS => ?_) hH ?_
  · go_simp
  refine tk (i := 8) (oi := { dst := some 20, op := Op.load 3 (Operand.tmp 19), type := 3, pos := "ref.go:46", after := #[⟨7, .data⟩], guard := none }) (v := .int .i64 (q : Int)) rfl (fun wx hS => ?_) hH ?_
  · have e1 := ref_at97 RGL.out (R0.out.below hS R0.out.lt); go_simp
  refine tk (i := 9) (oi := { dst := some 21, op := Op.binOp BinOp.mul 3 (Operand.const (Value.int IntKind.i64 16)) (Operand.tmp 20) 3, type := 3, pos := "ref.go:46", after := #[⟨8, .data⟩], guard := none }) (v := .int .i64 (t : Int)) rfl (fun wx hS => ?_) hH ?_
  · have e1 := qm.out; go_simp
  refine wpAnyH_ready (rs := [10]) (by kernel_rfl) (by simp) ?_
  refine AllReadyH.cons (o := { dst := some 22, op := Op.call { callee := Callee.value (Operand.func 55), args := #[Operand.tmp 16, Operand.tmp 21, Operand.const (Value.int IntKind.i64 16)], argTypes := #[9, 3, 3] }, type := 9, pos := "ref.go:46", after := #[⟨4, .data⟩, ⟨9, .data⟩], guard := none }) rfl (fun KK hKK => ?_) AllReadyH.nil
  go_simp
  with_reducible refine (TP.out y1).mono ?_
  rintro e y2 ⟨rfl, kb⟩
  replace n2 := n2.below kb n2.lt
  have hN := hH.trans (kb.mono hH.size)
  clear hH kb
  refine hKK.out _ _ hN (fun hH => ?_)
  clear hKK KK hN
  try simp only [Act.put, List.setIfInBounds_toArray, List.set_cons_zero, List.set_cons_succ]
  have NL : Hid ((tbytes F t 16).length = 16) := Lib.hid (tbytes_length _ _ _)
  generalize hN : tbytes F t 16 = N at *
  have HN := Lib.hid hN
  clear hN TP qm
  refine wpAnyH_ready (rs := [11]) (by kernel_rfl) (by simp) ?_
  refine AllReadyH.cons (o := { dst := some 23, op := Op.call { callee := Callee.builtin Builtin.copy, args := #[Operand.tmp 12, Operand.tmp 22], argTypes := #[30, 9] }, type := 3, pos := "ref.go:46", after := #[⟨0, .data⟩, ⟨10, .data⟩, ⟨10, .chain⟩], guard := none }) rfl (fun KK hKK => ?_) AllReadyH.nil
  refine Ci.step_copy_text rfl _ _ 30 9 rfl 5 Tryd.underlying30 size5 nb 0 16 16 rfl N rfl (zeros 16) 106 n2 (by rw [NL.out]; decide) (by rw [NL.out]; decide) ?_
  intro y3 h1 h2
  have h1 := h1.out
  rw [splice_all _ _ (by rw [byteCells_length, NL.out]; rfl)] at h1
  have hN := hH.trans (h2.out.below (Nat.le_of_eq HNB.out.symm) hH.size)
  have M4 := Lib.hid h1
  clear h1 h2 hH n2
  refine hKK.out _ _ hN (fun hH => ?_)
  clear hKK KK hN
  try simp only [Act.put, List.setIfInBounds_toArray, List.set_cons_zero, List.set_cons_succ]
  refine wpAnyH_done (by kernel_rfl) ?_ _
  refine NoPanic.normal ?_
  have B2 := Lib.hid hH
  have R2 := Lib.hid (R0.out.below hH R0.out.lt)
  clear hH
  have e97 := ref_at97 RGL.out R2.out
  have hfit := (ref_len RGL.out (F := F) (B := B) (u := (q : Int)) (lv := lv)).symm ▸ (show 97 < 100 by decide)
  go_wp2_with (refine wpList_store_cell (by rfl) 3 _ _ rfl rb 97 (.int .i64 (u1 : Int)) rfl rfl _ 52 R2.out info_int hfit rfl rfl ?_)
  intro z5 P1 P2 P3
  have P1 := P1.out
  rw [ref_set97 RGL.out] at P1
  have R5 := Lib.hid P1
  have K5 := Lib.hid ((Kp.below (f := fun k => k = rb) B2.out).trans (Kp.but (f := fun k => k = rb) P2.out (Or.inl rfl)) fun i hi => Or.inl hi)
  have M5 := Lib.hid (P2.out.is M4.out (by have := R0.out.lt; have := HNB.out; omega))
  clear P1 P2 P3 R2 B2 M4 R0 hfit e97
  go_wp2_with fail
  refine wp_region_noPanic ?_
  refine wp_region_held_drew (S := fun w' => Below z5.heap.size z5 w') (by kernel_rfl) (below_drew' (Below.refl _ _)) (fun hH => ?_)
  generalize z5.drew = z6 at *
  refine tk (i := 0) (oi := { dst := some 32, op := Op.move (Operand.tmp 0), type := 36, pos := "ref.go:48", after := #[], guard := none }) (v := .pointer (some ⟨rb, 0, none⟩)) rfl (fun wx hS => ?_) hH ?_
  · go_simp
  refine tk (i := 1) (oi := { dst := some 33, op := Op.nilCheck (Operand.tmp 32), type := 0, pos := "ref.go:48", after := #[⟨0, .data⟩], guard := none }) (v := .pointer (some ⟨rb, 0, none⟩)) rfl (fun wx hS => ?_) hH ?_
  · go_simp
  refine tk (i := 2) (oi := { dst := some 34, op := Op.fieldAddr 52 (Operand.tmp 33) 0, type := 0, pos := "ref.go:48", after := #[⟨1, .data⟩], guard := none }) (v := .pointer (some ⟨rb, 0, none⟩)) rfl (fun wx hS => ?_) hH ?_
  · go_simp
  refine tk (i := 3) (oi := { dst := some 35, op := Op.fieldAddr 50 (Operand.tmp 34) 0, type := 0, pos := "ref.go:48", after := #[⟨2, .data⟩], guard := none }) (v := .pointer (some ⟨rb, 0, none⟩)) rfl (fun wx hS => ?_) hH ?_
  · go_simp
  refine tky (i := 4) (oi := { dst := some 36, op := Op.load 48 (Operand.tmp 35), type := 48, pos := "ref.go:48", after := #[⟨3, .data⟩], guard := none }) (v := .agg (KC).toArray) rfl (yieldsIf_load_mid (by rfl) 48 _ rfl (rb) 0 rfl (KC) _ (fun wx hS => HKC.out ▸ ref_keys (R5.out.below hS R5.out.lt)) Tryd.underlying48 rfl (by rw [infoRK, KHM.out])) hH ?_
  refine tk (i := 5) (oi := { dst := some 37, op := Op.move (Operand.tmp 1), type := 3, pos := "ref.go:48", after := #[], guard := none }) (v := .int .i64 ki) rfl (fun wx hS => ?_) hH ?_
  · go_simp
  refine tk (i := 6) (oi := { dst := some 38, op := Op.convert 3 5 (Operand.tmp 37), type := 5, pos := "ref.go:48", after := #[⟨5, .data⟩], guard := none }) (v := .int .u8 (V kd)) rfl (fun wx hS => ?_) hH ?_
  · have e1 := HK.out; go_simp
  refine tk (i := 7) (oi := { dst := some 39, op := Op.move (Operand.tmp 2), type := 9, pos := "ref.go:48", after := #[], guard := none }) (v := .string (str nm)) rfl (fun wx hS => ?_) hH ?_
  · go_simp
  refine tky (i := 8) (oi := { dst := some 40, op := Op.load 106 (Operand.tmp 9), type := 106, pos := "ref.go:48", after := #[], guard := none }) (v := .agg (byteCells N).toArray) rfl (yieldsIf_load_mid (by rfl) 106 _ rfl (nb) 0 rfl (byteCells N) _ (fun wx hS => Ci.range_of (M5.out.below hS M5.out.lt)) Tryd.underlying106 rfl (by rw [infoN, byteCells_length, NL.out])) hH ?_
  refine tk (i := 9) (oi := { dst := some 41, op := Op.move (Operand.tmp 3), type := 9, pos := "ref.go:48", after := #[], guard := none }) (v := .string (str b)) rfl (fun wx hS => ?_) hH ?_
  · go_simp
  refine wpAnyH_ready (rs := [10]) (by kernel_rfl) (by simp) ?_
  refine AllReadyH.cons (o := { dst := some 42, op := Op.call { callee := Callee.value (Operand.func 56), args := #[Operand.tmp 36, Operand.tmp 38, Operand.tmp 39, Operand.tmp 40, Operand.tmp 41], argTypes := #[48, 5, 9, 106, 9] }, type := 120, pos := "ref.go:48", after := #[⟨4, .data⟩, ⟨6, .data⟩, ⟨7, .data⟩, ⟨8, .data⟩, ⟨9, .data⟩], guard := none }) rfl (fun KK hKK => ?_) AllReadyH.nil
  go_simp
  with_reducible refine (DS.out N z6 NL.out).mono ?_
  rintro e z7 ⟨rfl, kb⟩
  have hN := hH.trans (kb.mono hH.size)
  clear hH kb
  refine hKK.out _ _ hN (fun hH => ?_)
  clear hKK KK hN
  try simp only [Act.put, List.setIfInBounds_toArray, List.set_cons_zero, List.set_cons_succ]
  refine tk (i := 11) (oi := { dst := some 31, op := Op.move (Operand.tmp 42), type := 120, pos := "ref.go:48", after := #[⟨10, .data⟩], guard := none }) (v := .tuple #[.string (str (wseal H M kd nm N b)), .int .i64 0]) rfl (fun wx hS => ?_) hH ?_
  · go_simp
  refine tk (i := 12) (oi := { dst := some 43, op := Op.extract (Operand.tmp 31) 0, type := 9, pos := "ref.go:48", after := #[⟨11, .data⟩], guard := none }) (v := .string (str (wseal H M kd nm N b))) rfl (fun wx hS => ?_) hH ?_
  · go_simp
  refine tk (i := 13) (oi := { dst := some 44, op := Op.extract (Operand.tmp 31) 1, type := 25, pos := "ref.go:48", after := #[⟨11, .data⟩, ⟨14, .gcOnly .lateStores⟩], guard := none }) (v := .int .i64 0) rfl (fun wx hS => ?_) hH ?_
  · go_simp
  refine wpAnyH_ready (rs := [14]) (by kernel_rfl) (by simp) ?_
  refine AllReadyH.cons (o := { dst := some 10, op := Op.assign (Operand.tmp 43), type := 9, pos := "ref.go:48", after := #[⟨12, .data⟩, ⟨10, .chain⟩, ⟨0, .phase⟩, ⟨1, .phase⟩, ⟨2, .phase⟩, ⟨3, .phase⟩, ⟨4, .phase⟩, ⟨5, .phase⟩, ⟨6, .phase⟩, ⟨7, .phase⟩, ⟨8, .phase⟩, ⟨9, .phase⟩, ⟨10, .phase⟩, ⟨11, .phase⟩, ⟨12, .phase⟩, ⟨13, .textOnly .lateStores⟩], guard := none }) rfl (fun KK hKK => ?_) AllReadyH.nil
  go_simp
  refine hKK.out _ _ hH (fun hH => ?_)
  clear hKK KK
  try simp only [Act.put, List.setIfInBounds_toArray, List.set_cons_zero, List.set_cons_succ]
  refine wpAnyH_ready (rs := [15]) (by kernel_rfl) (by simp) ?_
  refine AllReadyH.cons (o := { dst := some 11, op := Op.assign (Operand.tmp 44), type := 25, pos := "ref.go:48", after := #[⟨13, .data⟩, ⟨14, .chain⟩, ⟨0, .phase⟩, ⟨1, .phase⟩, ⟨2, .phase⟩, ⟨3, .phase⟩, ⟨4, .phase⟩, ⟨5, .phase⟩, ⟨6, .phase⟩, ⟨7, .phase⟩, ⟨8, .phase⟩, ⟨9, .phase⟩, ⟨10, .phase⟩, ⟨11, .phase⟩, ⟨12, .phase⟩, ⟨13, .phase⟩, ⟨14, .phase⟩], guard := none }) rfl (fun KK hKK => ?_) AllReadyH.nil
  go_simp
  refine hKK.out _ _ hH (fun hH => ?_)
  clear hKK KK
  try simp only [Act.put, List.setIfInBounds_toArray, List.set_cons_zero, List.set_cons_succ]
  refine wpAnyH_done (by kernel_rfl) ?_ _
  refine NoPanic.normal ?_
  have R6 := Lib.hid (R5.out.below hH R5.out.lt)
  have K6 := Lib.hid (K5.out.trans (Kp.below (f := fun _ => False) hH) fun _ q => q.elim)
  clear hH
  go_wp2_with fail
  go_ret
  exact ⟨by rw [HN.out]; rfl, R6.out, K6.out⟩
end Go.Proofs.YtfhlcondnaahiaaDoor
