/- hypogeumlaw12.ring, pack.New. -/
import Derived.Test.YtfhlcondnaahiaaDoorTk
import Derived.Test.YtfhlcondnaahiaaDoorPe
import Derived.Test.YtfhlcondnaahiaaDoorHc
namespace Go.Proofs.YtfhlcondnaahiaaDoor
open Go.RowKit Sha

/-- The law's keys. -/
def kN (n k : UInt8) : List UInt8 := n :: k :: List.replicate 30 0
def ringN (n : UInt8) : List UInt8 := kN n 1 ++ (kN n 2 ++ kN n 3)
theorem kN_length (n k : UInt8) : (kN n k).length = 32 := by simp [kN]
theorem ringN_length (n : UInt8) : (ringN n).length = 96 := by simp [ringN, kN_length]
theorem buildK1 (n : UInt8) (w : World) : (Instr.build 23 #[(0, .int .u8 (V n)), (1, .int .u8 1)]).run Tryd.prog w = .ok (.agg (byteCells (kN n 1)).toArray) w := by kernel_rfl
theorem buildK2 (n : UInt8) (w : World) : (Instr.build 23 #[(0, .int .u8 (V n)), (1, .int .u8 2)]).run Tryd.prog w = .ok (.agg (byteCells (kN n 2)).toArray) w := by kernel_rfl
theorem buildK3 (n : UInt8) (w : World) : (Instr.build 23 #[(0, .int .u8 (V n)), (1, .int .u8 3)]).run Tryd.prog w = .ok (.agg (byteCells (kN n 3)).toArray) w := by kernel_rfl
set_option maxRecDepth 100000 in
theorem buildKeysP (A B : List Value) (hA : A.length = 32) (hB : B.length = 32) (w : World) :
    (Instr.build 56 #[(0, .agg A.toArray), (1, .agg B.toArray)]).run Tryd.prog w = .ok (.agg (A ++ B).toArray) w := by
  refine run_build_struct w _ (Tryd.prog.fieldsOf 56) #[(0, 32), (32, 32)] (.agg (zeros 64).toArray) _ _ (by kernel_rfl) (by kernel_rfl) (by kernel_rfl) ?_
  show Instr.fill _ (zeros 64).toArray [(0, .agg A.toArray), (1, .agg B.toArray)] = _
  rw [fill_splice _ _ 0 A _ 0 (by rw [hA]; rfl) (by rw [hA]; decide), fill_splice _ _ 1 B _ 32 (by rw [hB]; rfl) (by rw [splice_keep (by rw [hA]; decide), hB]; decide), splice_two A B 32 32 hA hB _ rfl]
  rfl
set_option maxRecDepth 100000 in
theorem buildRingP (A B : List Value) (hA : A.length = 64) (hB : B.length = 32) (w : World) :
    (Instr.build 58 #[(0, .agg A.toArray), (1, .agg B.toArray)]).run Tryd.prog w = .ok (.agg (A ++ B).toArray) w := by
  refine run_build_struct w _ (Tryd.prog.fieldsOf 58) #[(0, 64), (64, 32)] (.agg (zeros 96).toArray) _ _ (by kernel_rfl) (by kernel_rfl) (by kernel_rfl) ?_
  show Instr.fill _ (zeros 96).toArray [(0, .agg A.toArray), (1, .agg B.toArray)] = _
  rw [fill_splice _ _ 0 A _ 0 (by rw [hA]; rfl) (by rw [hA]; decide), fill_splice _ _ 1 B _ 64 (by rw [hB]; rfl) (by rw [splice_keep (by rw [hA]; decide), hB]; decide), splice_two A B 64 32 hA hB _ rfl]
  rfl

-- RING
theorem info32b : (Tryd.prog.info? 23).map (·.size) = some 32 := by kernel_rfl
set_option maxRecDepth 100000 in
theorem zeroRingP (w : World) : (zeroValue 58).run Tryd.prog w = .ok (.agg (zeros 96).toArray) w := by kernel_rfl
theorem results_cells2 {fn : Func} {p q : Tmp} {ty tz : TypeId} (h : fn.results = #[.cell p ty, .cell q tz]) (tmps : Array Value) (w : World) (g k : Nat) (cs ds : Array Value)
    (hp : tmps.getD p undef = .pointer (some ⟨g, 0, none⟩)) (hq : tmps.getD q undef = .pointer (some ⟨k, 0, none⟩)) (hl : (loadVar ty ⟨g, 0, none⟩).run Tryd.prog w = .ok (.agg cs) w) (hm : (loadVar tz ⟨k, 0, none⟩).run Tryd.prog w = .ok (.agg ds) w) :
    (results fn tmps).run Tryd.prog w = .ok (.tuple #[.agg cs, .agg ds]) w := by
  have hp' : tmps[p]?.getD undef = .pointer (some ⟨g, 0, none⟩) := by simpa using hp
  have hq' : tmps[q]?.getD undef = .pointer (some ⟨k, 0, none⟩) := by simpa using hq
  simp [results, h, hp', hq', asAddr, hl, hm]
theorem wpList_build_any {w : World} {ops : Array Oper} {rest : List Oper} {o : Oper} {a : Act} {Q : Exit → Act → World → Prop} (hw : Region.wanted o (yielded ops a.tmps) = true) (ty : TypeId) (ps : Array (Nat × Operand)) (ho : o.op = .build ty ps)
    (qs : Array (Nat × Value)) (v : Value) (hrun : (Instr.build ty qs).run Tryd.prog w = .ok v w) (hq : (ps.toList.map fun p => (p.1, a.eval p.2)) = qs.toList) (h : wpList Tryd.prog ops Q rest (a.put o.dst v) w) : wpList Tryd.prog ops Q (o :: rest) a w :=
  BigFrame.wpList_want hw fun _ hK => by
    have e : (ps.map fun (i, x) => (i, a.eval x)) = qs := by
      apply Array.toList_inj.1
      rw [Array.toList_map, ← hq]
    unfold Oper.wp execOp
    simp only [ho, Sem.run_bind, e, hrun, Result.andThen_ok]
    exact hK _ _ h
theorem ring_cells (n : UInt8) : byteCells (ringN n) = byteCells (kN n 1) ++ (byteCells (kN n 2) ++ byteCells (kN n 3)) := by rw [ringN, byteCells_append, byteCells_append]
theorem ring_part {X : World} {kb : Nat} {n : UInt8} {t : TypeId} (h : blockIs X kb (byteCells (ringN n)) t) (_ : Nat) : X.rangeAt kb 0 (byteCells (kN n 1)) := by
  rw [ring_cells] at h
  exact Ci.rangeAt_block (p := []) h
theorem ring_part1 {X : World} {kb : Nat} {n : UInt8} {t : TypeId} (h : blockIs X kb (byteCells (ringN n)) t) : X.rangeAt kb 32 (byteCells (kN n 2)) := by
  rw [ring_cells] at h
  have := Ci.rangeAt_block (p := byteCells (kN n 1)) h
  rwa [byteCells_length, kN_length] at this
theorem ring_part2 {X : World} {kb : Nat} {n : UInt8} {t : TypeId} (h : blockIs X kb (byteCells (ringN n)) t) : X.rangeAt kb 64 (byteCells (kN n 3)) := by
  have e : byteCells (ringN n) = (byteCells (kN n 1) ++ byteCells (kN n 2)) ++ (byteCells (kN n 3) ++ []) := by rw [ring_cells, List.append_nil, List.append_assoc]
  rw [e] at h
  have := Ci.rangeAt_block (p := byteCells (kN n 1) ++ byteCells (kN n 2)) h
  rwa [List.length_append, byteCells_length, kN_length, byteCells_length, kN_length] at this
set_option maxRecDepth 100000 in
set_option maxHeartbeats 4000000 in
theorem ring_any (n : UInt8) (w : World) :
    Calls Tryd.prog 19 #[.int .u8 (V n)] w fun e w' => e = .returned (.tuple #[.agg (byteCells (ringN n)).toArray, .agg (byteCells (ringN n)).toArray]) ∧ Below w.heap.size w w' := by
  have hz := zeroRingP
  have hz2 := zeroRing2
  have ZL : Hid ((zeros 96).length = 96) := Lib.hid (by simp [zeros])
  go_enter Tryd.func19, Tryd.ntmps19
  go_wp2_with (first
    | (refine wpList_build_any (by rfl) 23 _ rfl #[(0, .int .u8 (V n)), (1, .int .u8 1)] _ (buildK1 n _) rfl ?_)
    | (refine wpList_build_any (by rfl) 23 _ rfl #[(0, .int .u8 (V n)), (1, .int .u8 2)] _ (buildK2 n _) rfl ?_)
    | (refine wpList_build_any (by rfl) 23 _ rfl #[(0, .int .u8 (V n)), (1, .int .u8 3)] _ (buildK3 n _) rfl ?_)
    | (refine wpList_build_any (by rfl) 56 _ rfl #[(0, .agg (byteCells (kN n 1)).toArray), (1, .agg (byteCells (kN n 2)).toArray)] _ (buildKeysP _ _ (by rw [byteCells_length, kN_length]) (by rw [byteCells_length, kN_length]) _) rfl ?_)
    | (refine wpList_build_any (by rfl) 58 _ rfl #[(0, .agg (byteCells (kN n 1) ++ byteCells (kN n 2)).toArray), (1, .agg (byteCells (kN n 3)).toArray)] _ (buildRingP _ _ (by rw [List.length_append, byteCells_length, byteCells_length, kN_length, kN_length]) (by rw [byteCells_length, kN_length]) _) rfl ?_)
    | (refine wpList_store_block rfl 58 _ _ rfl (w.heap.size + 1 + 1) 0 (byteCells (kN n 1) ++ (byteCells (kN n 2) ++ byteCells (kN n 3))) rfl rfl (zeros 96) 58 (blockIs.last _ (zeros 96) 58 (w.heap.size + 1 + 1) (by simp)) (by rw [infoRing96]; simp [byteCells_length, kN_length]) (by rw [ZL.out]; simp [byteCells_length, kN_length]) (by rw [← ring_cells]; exact byteCells_one _) ?_))
  intro w1 P1 P2 P3
  have P1 := P1.out
  rw [splice_all _ _ (by rw [ZL.out]; simp [byteCells_length, kN_length]), ← ring_cells] at P1
  have G0 := (((blockIs.new w (zeros 96) 58).alloc (.cells (zeros 96).toArray 50 (0, 0))).alloc (.cells (zeros 96).toArray 58 (0, 0)))
  have H0 := (blockIs.last (w.alloc (.cells (zeros 96).toArray 58 (0, 0))) (zeros 96) 50 (w.heap.size + 1) (by simp)).alloc (.cells (zeros 96).toArray 58 (0, 0))
  have G1 := Lib.hid (P2.out.is G0 (by omega))
  have H1 := Lib.hid (P2.out.is H0 (by omega))
  have B1 : Hid (Below w.heap.size w w1) := Lib.hid ((((alloc_below w (.cells (zeros 96).toArray 58 (0, 0))).alloc (by first | (simp; done) | (simp; omega)) (.cells (zeros 96).toArray 50 (0, 0))).alloc (by first | (simp; done) | (simp; omega)) (.cells (zeros 96).toArray 58 (0, 0))).trans (P2.out.below (by omega) (by first | (simp; done) | (simp; omega))))
  have G3 := Lib.hid P1
  clear P1 P2 P3 G0 H0
  generalize hkb : w.heap.size + 1 + 1 = kb at *
  have KB0 : Hid (kb ≠ w.heap.size) := Lib.hid (by omega)
  have KB1 : Hid (kb ≠ w.heap.size + 1) := Lib.hid (by omega)
  clear hkb
  go_wp2_with fail
  refine wp_region_noPanic ?_
  refine wp_region_held_drew (S := fun X => blockIs X kb (byteCells (ringN n)) 58) (by kernel_rfl) (G3.out.drewN 1) (fun hH => ?_)
  have G4 : Hid (blockIs w1.drew (w.heap.size) (zeros 96) 58) := Lib.hid (G1.out.drewN 1)
  have H4 : Hid (blockIs w1.drew (w.heap.size + 1) (zeros 96) 50) := Lib.hid (H1.out.drewN 1)
  have B4 := Lib.hid (below_drew' B1.out)
  clear G3 G1 H1 B1
  generalize w1.drew = z0 at *
  refine tky (i := 0) (oi := { dst := some 13, op := Op.load 58 (Operand.tmp 4), type := 58, pos := "law.go:18", after := #[], guard := none }) (v := .agg (byteCells (ringN n)).toArray) rfl (yieldsIf_load_mid (by rfl) 58 _ rfl kb 0 rfl (byteCells (ringN n)) _ (fun wx hS => Ci.range_of hS) Tryd.underlying58 rfl (by rw [infoRing96, byteCells_length, ringN_length])) hH ?_
  refine tk (i := 1) (oi := { dst := some 14, op := Op.fieldAddr 58 (Operand.tmp 4) 0, type := 0, pos := "law.go:18", after := #[⟨11, .gcOnly .lateStores⟩], guard := none }) (v := .pointer (some ⟨kb, 0, none⟩)) rfl (fun wx hS => ?_) hH ?_
  · go_simp
  refine tk (i := 2) (oi := { dst := some 15, op := Op.fieldAddr 56 (Operand.tmp 14) 0, type := 0, pos := "law.go:18", after := #[⟨1, .data⟩, ⟨11, .gcOnly .lateStores⟩], guard := none }) (v := .pointer (some ⟨kb, 0, none⟩)) rfl (fun wx hS => ?_) hH ?_
  · go_simp
  refine tk (i := 4) (oi := { dst := some 17, op := Op.fieldAddr 58 (Operand.tmp 4) 0, type := 0, pos := "law.go:18", after := #[⟨11, .gcOnly .lateStores⟩], guard := none }) (v := .pointer (some ⟨kb, 0, none⟩)) rfl (fun wx hS => ?_) hH ?_
  · go_simp
  refine tk (i := 5) (oi := { dst := some 18, op := Op.fieldAddr 56 (Operand.tmp 17) 1, type := 0, pos := "law.go:18", after := #[⟨4, .data⟩, ⟨11, .gcOnly .lateStores⟩], guard := none }) (v := .pointer (some ⟨kb, 32, none⟩)) rfl (fun wx hS => ?_) hH ?_
  · go_simp
  refine tky (i := 3) (oi := { dst := some 16, op := Op.load 23 (Operand.tmp 15), type := 23, pos := "law.go:18", after := #[⟨2, .data⟩, ⟨11, .gcOnly .lateStores⟩], guard := none }) (v := .agg (byteCells (kN n 1)).toArray) rfl (yieldsIf_load_mid (by rfl) 23 _ rfl kb 0 rfl (byteCells (kN n 1)) _ (fun wx hS => ring_part hS 0) Tryd.underlying23 rfl (by rw [info32b, byteCells_length, kN_length])) hH ?_
  refine tky (i := 6) (oi := { dst := some 19, op := Op.load 23 (Operand.tmp 18), type := 23, pos := "law.go:18", after := #[⟨5, .data⟩, ⟨11, .gcOnly .lateStores⟩], guard := none }) (v := .agg (byteCells (kN n 2)).toArray) rfl (yieldsIf_load_mid (by rfl) 23 _ rfl kb 32 rfl (byteCells (kN n 2)) _ (fun wx hS => ring_part1 hS) Tryd.underlying23 rfl (by rw [info32b, byteCells_length, kN_length])) hH ?_
  refine tk (i := 7) (oi := { dst := some 20, op := Op.build 48 #[(0, Operand.tmp 16), (1, Operand.tmp 19)], type := 48, pos := "law.go:18", after := #[⟨3, .data⟩, ⟨6, .data⟩, ⟨11, .gcOnly .lateStores⟩], guard := none }) (v := .agg (byteCells (kN n 1) ++ byteCells (kN n 2)).toArray) rfl (fun wx hS => ?_) hH ?_
  · exact run_buildO _ 48 _ rfl _ _ (buildKeys (byteCells (kN n 1)) (byteCells (kN n 2)) (by rw [byteCells_length, kN_length]) (by rw [byteCells_length, kN_length]) wx) rfl
  refine tk (i := 8) (oi := { dst := some 21, op := Op.fieldAddr 58 (Operand.tmp 4) 1, type := 0, pos := "law.go:18", after := #[⟨11, .gcOnly .lateStores⟩], guard := none }) (v := .pointer (some ⟨kb, 64, none⟩)) rfl (fun wx hS => ?_) hH ?_
  · go_simp
  refine tky (i := 9) (oi := { dst := some 22, op := Op.load 23 (Operand.tmp 21), type := 23, pos := "law.go:18", after := #[⟨8, .data⟩, ⟨11, .gcOnly .lateStores⟩], guard := none }) (v := .agg (byteCells (kN n 3)).toArray) rfl (yieldsIf_load_mid (by rfl) 23 _ rfl kb 64 rfl (byteCells (kN n 3)) _ (fun wx hS => ring_part2 hS) Tryd.underlying23 rfl (by rw [info32b, byteCells_length, kN_length])) hH ?_
  refine tk (i := 10) (oi := { dst := some 23, op := Op.build 50 #[(0, Operand.tmp 20), (1, Operand.tmp 22)], type := 50, pos := "law.go:18", after := #[⟨7, .data⟩, ⟨9, .data⟩, ⟨11, .gcOnly .lateStores⟩], guard := none }) (v := .agg ((byteCells (kN n 1) ++ byteCells (kN n 2)) ++ byteCells (kN n 3)).toArray) rfl (fun wx hS => ?_) hH ?_
  · exact run_buildO _ 50 _ rfl _ _ (buildRing2 (byteCells (kN n 1) ++ byteCells (kN n 2)) (byteCells (kN n 3)) (by rw [List.length_append, byteCells_length, byteCells_length, kN_length, kN_length]) (by rw [byteCells_length, kN_length]) wx) rfl
  refine wpAnyH_ready (rs := [11]) (by kernel_rfl) (by simp) ?_
  refine AllReadyH.cons (o := { dst := none, op := Op.store 58 (Operand.tmp 2) (Operand.tmp 13), type := 0, pos := "law.go:18", after := #[⟨0, .data⟩, ⟨0, .phase⟩, ⟨1, .textOnly .lateStores⟩, ⟨2, .textOnly .lateStores⟩, ⟨3, .textOnly .lateStores⟩, ⟨4, .textOnly .lateStores⟩, ⟨5, .textOnly .lateStores⟩, ⟨6, .textOnly .lateStores⟩, ⟨7, .textOnly .lateStores⟩, ⟨8, .textOnly .lateStores⟩, ⟨9, .textOnly .lateStores⟩, ⟨10, .textOnly .lateStores⟩], guard := none }) rfl (fun KK hKK => ?_) AllReadyH.nil
  refine step_store_block (by rfl) 58 _ _ rfl w.heap.size 0 (byteCells (ringN n)) rfl rfl (zeros 96) 58 G4.out (by rw [infoRing96, byteCells_length, ringN_length]) (by simp [zeros, byteCells_length, ringN_length]) (byteCells_one _) ?_
  intro z1 P1 P2 P3
  have P1 := P1.out
  rw [splice_all _ _ (by simp [zeros, byteCells_length, ringN_length])] at P1
  have hN := P2.out.is hH KB0.out
  have H5 := Lib.hid (P2.out.is H4.out (by omega))
  have G5 := Lib.hid P1
  have B5 := Lib.hid (B4.out.trans (P2.out.below (Nat.le_refl _) B4.out.size))
  clear hH P1 P2 P3 G4 H4 B4
  refine hKK.out _ _ hN (fun hH => ?_)
  clear hKK KK hN
  try simp only [Act.put, List.setIfInBounds_toArray, List.set_cons_zero, List.set_cons_succ]
  refine wpAnyH_ready (rs := [12]) (by kernel_rfl) (by simp) ?_
  refine AllReadyH.cons (o := { dst := none, op := Op.store 50 (Operand.tmp 3) (Operand.tmp 23), type := 0, pos := "law.go:18", after := #[⟨10, .data⟩, ⟨11, .chain⟩, ⟨0, .phase⟩, ⟨1, .phase⟩, ⟨2, .phase⟩, ⟨3, .phase⟩, ⟨4, .phase⟩, ⟨5, .phase⟩, ⟨6, .phase⟩, ⟨7, .phase⟩, ⟨8, .phase⟩, ⟨9, .phase⟩, ⟨10, .phase⟩, ⟨11, .phase⟩], guard := none }) rfl (fun KK hKK => ?_) AllReadyH.nil
  have RE : (byteCells (kN n 1) ++ byteCells (kN n 2)) ++ byteCells (kN n 3) = byteCells (ringN n) := by rw [ringN, byteCells_append, byteCells_append, List.append_assoc]
  rw [RE]
  refine step_store_block (by rfl) 50 _ _ rfl (w.heap.size + 1) 0 (byteCells (ringN n)) rfl rfl (zeros 96) 50 H5.out (by rw [infoRing2, byteCells_length, ringN_length]) (by simp [zeros, byteCells_length, ringN_length]) (byteCells_one _) ?_
  intro z2 P1 P2 P3
  have P1 := P1.out
  rw [splice_all _ _ (by simp [zeros, byteCells_length, ringN_length])] at P1
  have hN := P2.out.is hH KB1.out
  have G6 := Lib.hid (P2.out.is G5.out (by omega))
  have H6 := Lib.hid P1
  have B6 := Lib.hid (B5.out.trans (P2.out.below (Nat.le_succ _) B5.out.size))
  clear hH P1 P2 P3 G5 H5 B5
  refine hKK.out _ _ hN (fun hH => ?_)
  clear hKK KK hN
  try simp only [Act.put, List.setIfInBounds_toArray, List.set_cons_zero, List.set_cons_succ]
  refine wpAnyH_done (by kernel_rfl) ?_ _
  refine NoPanic.normal ?_
  clear hH
  go_wp2_with fail
  refine bodyPost_ret (v := .tuple #[.agg (byteCells (ringN n)).toArray, .agg (byteCells (ringN n)).toArray]) (results_cells2 (p := 2) (q := 3) rfl _ _ w.heap.size (w.heap.size + 1) _ _ rfl rfl (run_loadVar_row _ _ 58 _ _ (0, 0) _ G6.out Tryd.underlying58 rfl (by rw [infoRing96]; simp [byteCells_length, ringN_length])) (run_loadVar_row _ _ 50 _ _ (0, 0) _ H6.out Tryd.underlying50 rfl (by rw [infoRing2]; simp [byteCells_length, ringN_length]))) rfl ?_
  exact ⟨rfl, B6.out⟩

/-- A new writer. -/
theorem buildWr (RG : List Value) (h : RG.length = 97) (w : World) : (Instr.build 80 #[(0, .agg RG.toArray)]).run Tryd.prog w = .ok (.agg (RG ++ [Value.slice none 0 0, Value.slice none 0 0, Value.map none]).toArray) w := by
  refine Ci.run_build_struct w _ (Tryd.prog.fieldsOf 80) #[(0, 97), (97, 1), (98, 1), (99, 1)] (.agg ((zeros 96 ++ [Value.pointer none]) ++ [Value.slice none 0 0, Value.slice none 0 0, Value.map none]).toArray) _ _ (by kernel_rfl) (by kernel_rfl) (by kernel_rfl) ?_
  show Instr.fill _ ((zeros 96 ++ [Value.pointer none]) ++ [Value.slice none 0 0, Value.slice none 0 0, Value.map none]).toArray [(0, .agg RG.toArray)] = _
  have hz : (zeros 96 ++ [Value.pointer none]).length = 97 := by simp [zeros]
  rw [Ci.fill_cells _ _ 0 _ RG rfl _ 0 (by rw [h]; rfl) (by rw [h, List.length_append, hz]; omega)]
  have e : splice ((zeros 96 ++ [Value.pointer none]) ++ [Value.slice none 0 0, Value.slice none 0 0, Value.map none]) 0 RG = RG ++ [Value.slice none 0 0, Value.slice none 0 0, Value.map none] := by
    simp [splice, h, hz, zeros]
  rw [e]
  rfl
set_option maxRecDepth 100000 in
theorem new_any (PC : List Value) (h : PC.length = 97) (w : World) :
    Calls Tryd.prog 32 #[.agg PC.toArray] w fun e w' => ∃ wb, e = .returned (.pointer (some ⟨wb, 0, none⟩)) ∧ w.heap.size ≤ wb ∧ blockIs w' wb (PC ++ [Value.slice none 0 0, Value.slice none 0 0, Value.map none]) 80 ∧ Below w.heap.size w w' := by
  have G0 := blockIs.new w PC 77
  have R0 := Ci.range_of G0
  have A0 := alloc_below w (.cells PC.toArray 77 (0, 0))
  go_enter Tryd.func32, Tryd.ntmps32
  go_wp2_with (first
    | (refine Ci.wpList_load_mid_if (by rfl) 77 _ rfl w.heap.size 0 rfl PC _ R0 Tryd.underlying77 rfl (by rw [infoPen, h]) ?_)
    | (refine wpList_build_any (by rfl) 80 _ rfl #[(0, .agg PC.toArray)] _ (buildWr PC h _) rfl ?_))
  go_ret
  have G1 := blockIs.last (w.alloc (.cells PC.toArray 77 (0, 0))) (PC ++ [Value.slice none 0 0, Value.slice none 0 0, Value.map none]) 80 (w.heap.size + 1) (by simp)
  exact ⟨_, rfl, by simp, G1, A0.alloc A0.size _⟩
end Go.Proofs.YtfhlcondnaahiaaDoor
