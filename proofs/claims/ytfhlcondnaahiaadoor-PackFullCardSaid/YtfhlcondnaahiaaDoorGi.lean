/- One cell stored. -/
import Derived.Test.YtfhlcondnaahiaaDoorTk
import Derived.Test.YtfhlcondnaahiaaDoorCiMkk
section
namespace Go.Proofs.YtfhlcondnaahiaaDoor.Ci
open Go.RowKit Sha Aes

/-- One cell, stored into a block that is known whole. -/
theorem run_storeVar_cell {P : Program} (w : World) (g j : Nat) (ty : TypeId) (cur : List Value) (v : Value) (t : TypeId) (hg : blockIs w g cur t) (hi : (P.info? ty).map (·.size) = some 1) (hj : j < cur.length) (hc : v.cells = #[v]) (h1 : v.oneCell' = true) :
    (storeVar ty ⟨g, j, none⟩ v).run P w = .ok () (w.setRow g (cur.set j v).toArray) := by
  have := run_storeCells_at P g j t [v] 0 cur.toArray w hg (by simp; omega) (by simpa using h1)
  have e : cur.set j v = cur.take j ++ v :: cur.drop (j + 1) := by rw [List.set_eq_take_append_cons_drop, if_pos hj]
  cases hq : P.info? ty with
  | none => simp [hq] at hi
  | some i =>
    have hs : i.size = 1 := by simpa [hq] using hi
    simp only [Nat.add_zero, List.length_cons, List.length_nil, Nat.zero_add, List.append_assoc, List.singleton_append] at this
    simp [storeVar, sizeOf, typeInfo, hq, hc, hs, this, e]
theorem wpList_store_cell {P : Program} {ops : Array Oper} {rest : List Oper} {o : Oper} {a : Act} {w : World} {Q : Exit → Act → World → Prop} (hgd : o.guard = none) (ty : TypeId) (x y : Operand) (ho : o.op = .store ty x y)
    (g j : Nat) (v : Value) (hx : a.eval x = .pointer (some ⟨g, j, none⟩)) (hy : a.eval y = v) (cur : List Value) (t : TypeId) (hg : blockIs w g cur t) (hj : j < cur.length)
    (hi : (P.info? ty).map (·.size) = some 1) (hc : v.cells = #[v]) (h1 : v.oneCell' = true)
    (h : ∀ w', Hid (blockIs w' g (cur.set j v) t) → Hid (But g w w') → Hid (w'.heap.size = w.heap.size) → wpList P ops Q rest (a.put o.dst undef) w') : wpList P ops Q (o :: rest) a w := by
  refine wpList_plain hgd fun K hK => ?_
  unfold Oper.wp execOp
  simp only [ho, hx, hy, Instr.storeAt, Instr.sureAddr, Sem.run_bind, Sem.run_pure, Result.andThen_ok, run_storeVar_cell w g j ty cur v t hg hi hj hc h1]
  exact hK _ _ (h _ (show _ = _ by simpa using setRow_heap w g _ _ t _ hg) ⟨rfl, rfl, rfl, by simp [World.setRow], fun k _ hk => setRow_other w g k _ hk⟩ (by
    show (w.setRow g _).heap.size = _
    simp))
end Go.Proofs.YtfhlcondnaahiaaDoor.Ci
end
section
/- cipher.Key.Turn: a block is turned. -/
namespace Go.Proofs.YtfhlcondnaahiaaDoor.Ci
open Go.RowKit Sha Aes
attribute [local go_sem] U_xor byteOf_24 byteOf_16 byteOf_8 byteOf_0 byteOf_w24 byteOf_w16 byteOf_w8 byteOf_w0

/-- Where Turn works: the key, the block that came, the result's place, the four words. -/
def tinv (w : World) (g B2 : Nat) (ws : List W) (b : List UInt8) (sv : List Value) (X : World) : Prop :=
  Below w.heap.size w X ∧ blockIs X g (keyRow ws) 182 ∧ blockIs X w.heap.size (byteCells b) 106 ∧ blockIs X (w.heap.size + 1) (zeros 16) 106 ∧ blockIs X B2 sv 193
/-- What stays as the four words change. -/
def tkeep (w : World) (g : Nat) (ws : List W) (b : List UInt8) (X : World) : Prop :=
  Below w.heap.size w X ∧ blockIs X g (keyRow ws) 182 ∧ blockIs X w.heap.size (byteCells b) 106
theorem tkeep.box {w X : World} {g : Nat} {ws : List W} {b : List UInt8} (h : tkeep w g ws b X) : boxAt X g := keyRow_box h.2.1
theorem tkeep.word {w X : World} {g : Nat} {ws : List W} {b : List UInt8} (h : tkeep w g ws b X) (j : Nat) (hj : j < 60) : X.cell? ⟨g, 256 + j, none⟩ = some (.int .u32 (U (ws.getD j 0))) := by rw [h.2.1.cell]; exact keyRow_get ws j hj
theorem tkeep.byte {w X : World} {g : Nat} {ws : List W} {b : List UInt8} (h : tkeep w g ws b X) (j : Nat) (hj : j < b.length) : X.cell? ⟨w.heap.size, j, none⟩ = some (.int .u8 (V (b.getD j 0))) := by rw [h.2.2.cell]; exact byteCells_get b j hj
theorem tinv.keep {w X : World} {g B2 : Nat} {ws : List W} {b : List UInt8} {sv : List Value} (h : tinv w g B2 ws b sv X) : tkeep w g ws b X := ⟨h.1, h.2.1, h.2.2.1⟩
theorem tinv.box {w X : World} {g B2 : Nat} {ws : List W} {b : List UInt8} {sv : List Value} (h : tinv w g B2 ws b sv X) : boxAt X g := keyRow_box h.2.1
theorem tinv.word {w X : World} {g B2 : Nat} {ws : List W} {b : List UInt8} {sv : List Value} (h : tinv w g B2 ws b sv X) (j : Nat) (hj : j < 60) : X.cell? ⟨g, 256 + j, none⟩ = some (.int .u32 (U (ws.getD j 0))) := by rw [h.2.1.cell]; exact keyRow_get ws j hj
theorem tinv.below {w X Y : World} {g B2 : Nat} {ws : List W} {b : List UInt8} {sv : List Value} (h : tinv w g B2 ws b sv X) (kb : Below X.heap.size X Y) : tinv w g B2 ws b sv Y :=
  ⟨h.1.trans (kb.mono h.1.size), h.2.1.below kb h.2.1.lt, h.2.2.1.below kb h.2.2.1.lt, h.2.2.2.1.below kb h.2.2.2.1.lt, h.2.2.2.2.below kb h.2.2.2.2.lt⟩
theorem tinv.drew {w X : World} {g B2 : Nat} {ws : List W} {b : List UInt8} {sv : List Value} (h : tinv w g B2 ws b sv X) : tinv w g B2 ws b sv X.drew := h.below ((Below.refl _ _).drew)
/-- The four words' place is none of the others. -/
def tapart (w : World) (g B2 : Nat) : Prop := g < w.heap.size ∧ w.heap.size + 1 < B2
theorem tinv.set {w X : World} {g B2 : Nat} {ws : List W} {b : List UInt8} {sv : List Value} (h : tinv w g B2 ws b sv X) (ha : tapart w g B2) (j : Nat) (v : Value) : tinv w g B2 ws b (sv.set j v) (X.drew.setCell ⟨B2, j, none⟩ v) :=
  ⟨(below_drewN' h.1 1).setCell (by show w.heap.size ≤ B2; have := ha.2; omega) v, (show blockIs X.drew g _ _ from h.2.1).other _ _ (by show g ≠ B2; have := ha.1; have := ha.2; omega), (show blockIs X.drew _ _ _ from h.2.2.1).other _ _ (by show w.heap.size ≠ B2; have := ha.2; omega), (show blockIs X.drew _ _ _ from h.2.2.2.1).other _ _ (by show w.heap.size + 1 ≠ B2; have := ha.2; omega), (show blockIs X.drew _ _ _ from h.2.2.2.2).set j v⟩
/-- The four words, the first k of them laid. -/
def sRow (ws : List W) (b : List UInt8) (k : Nat) : List Value := cells32 (fill32 ((List.range k).map fun i => wordAt b i ^^^ ws.getD i 0)) 4
theorem sRow_set (ws : List W) (b : List UInt8) (k : Nat) (hk : k < 4) : (sRow ws b k).set k (.int .u32 (U (wordAt b k ^^^ ws.getD k 0))) = sRow ws b (k + 1) := by
  unfold sRow
  have := cells32_fill_set ((List.range k).map fun i => wordAt b i ^^^ ws.getD i 0) 4 (by simpa using hk) (wordAt b k ^^^ ws.getD k 0)
  rw [List.length_map, List.length_range] at this
  rw [this, List.range_succ, List.map_append]
  rfl
/-- What Turn goes on with behind the rounds. -/
def tout (w : World) (g : Nat) (ws : List W) (b : List UInt8) (X : World) : Prop :=
  Below w.heap.size w X ∧ blockIs X g (keyRow ws) 182 ∧ blockIs X w.heap.size (byteCells b) 106 ∧ blockIs X (w.heap.size + 1) (zeros 16) 106
theorem tout.of_tinv {w X Y : World} {g B2 : Nat} {ws : List W} {b : List UInt8} {sv : List Value} (h : tinv w g B2 ws b sv X) (hb : But B2 X Y) (ha : tapart w g B2) : tout w g ws b Y :=
  ⟨h.1.trans (hb.below (by have := ha.2; omega) h.1.size), hb.is h.2.1 (by have := ha.1; have := ha.2; omega), hb.is h.2.2.1 (by have := ha.2; omega), hb.is h.2.2.2.1 (by have := ha.2; omega)⟩
theorem tout.set {w X : World} {g : Nat} {ws : List W} {l : List UInt8} (h : tout w g ws l X) (hg : g < w.heap.size) (j : Nat) (v : UInt8) : tout w g ws (l.set j v) (X.setCell ⟨w.heap.size, j, none⟩ (.int .u8 (V v))) := by
  refine ⟨h.1.setCell (Nat.le_refl _) _, ?_, ?_, h.2.2.2.other _ _ (by show w.heap.size + 1 ≠ w.heap.size; omega)⟩
  · exact h.2.1.other _ _ (by show g ≠ w.heap.size; omega)
  · have := h.2.2.1.set j (.int .u8 (V v))
    rwa [byteCells_set] at this
theorem tout.but {w X Y : World} {g : Nat} {ws : List W} {l m : List UInt8} (h : tout w g ws l X) (hb : But w.heap.size X Y) (hg : g < w.heap.size) (hm : blockIs Y w.heap.size (byteCells m) 106) : tout w g ws m Y :=
  ⟨h.1.trans (hb.below (Nat.le_refl _) h.1.size), hb.is h.2.1 (Nat.ne_of_lt hg), hm, hb.is h.2.2.2 (by omega)⟩
def stAt (f : St) : Nat → W
  | 0 => f.p
  | 1 => f.q
  | 2 => f.r
  | _ => f.t
/-- The block behind k of the four words. -/
def outB (f : St) (b : List UInt8) : Nat → List UInt8
  | 0 => b
  | k + 1 => ((((outB f b k).set (4 * k) (Aes.byteOf (stAt f k) 24)).set (4 * k + 1) (Aes.byteOf (stAt f k) 16)).set (4 * k + 2) (Aes.byteOf (stAt f k) 8)).set (4 * k + 3) (Aes.byteOf (stAt f k) 0)
theorem outB_length (f : St) (b : List UInt8) (k : Nat) : (outB f b k).length = b.length := by
  induction k with
  | zero => rfl
  | succ k ih => rw [outB]; simp [ih]
theorem outB_all (f : St) (b : List UInt8) (h : b.length = 16) : outB f b 4 = bytes4 f.p ++ (bytes4 f.q ++ (bytes4 f.r ++ bytes4 f.t)) := by
  match b, h with
  | [b0, b1, b2, b3, b4, b5, b6, b7, b8, b9, b10, b11, b12, b13, b14, b15], _ => rfl
theorem build66 (a b c d : Int) (w : World) : (Instr.build 193 #[(0, .int .u32 a), (1, .int .u32 b), (2, .int .u32 c), (3, .int .u32 d)]).run Tryd.prog w = .ok (.agg #[.int .u32 a, .int .u32 b, .int .u32 c, .int .u32 d]) w := by kernel_rfl
theorem zeroBlk (w : World) : (zeroValue 106).run Tryd.prog w = .ok (.agg (zeros 16).toArray) w := by kernel_rfl
theorem infoBlk : (Tryd.prog.info? 106).map (·.size) = some 16 := by kernel_rfl
theorem infoFour : (Tryd.prog.info? 193).map (·.size) = some 4 := by kernel_rfl
def zero4 : List Value := cells32 (fill32 []) 4
theorem zeroFour (w : World) : (zeroValue 193).run Tryd.prog w = .ok (.agg zero4.toArray) w := by kernel_rfl
theorem sRow_zero (ws : List W) (b : List UInt8) : sRow ws b 0 = zero4 := rfl

set_option maxRecDepth 100000 in
set_option maxHeartbeats 10000000 in
theorem turn_any (g : Nat) (ws : List W) (b : List UInt8) (w : World) (hb : b.length = 16) (hk : blockIs w g (keyRow ws) 182) :
    Calls Tryd.prog 105 #[.pointer (some ⟨g, 0, none⟩), .agg (byteCells b).toArray] w fun e w' => e = .returned (.agg (byteCells (Aes.turn ws b)).toArray) ∧ Below w.heap.size w w' := by
  have hz := zeroBlk
  have hz4 := zeroFour
  obtain ⟨s0, hs0⟩ : ∃ s0, s0 = Aes.start ws b := ⟨_, rfl⟩
  have HS0 := Lib.hid hs0
  obtain ⟨out, hout⟩ : ∃ out, out = Aes.turn ws b := ⟨_, rfl⟩
  have HO : Hid (out = bytes4 (Aes.last ws (Aes.rounds ws 13 s0)).p ++ (bytes4 (Aes.last ws (Aes.rounds ws 13 s0)).q ++ (bytes4 (Aes.last ws (Aes.rounds ws 13 s0)).r ++ bytes4 (Aes.last ws (Aes.rounds ws 13 s0)).t))) := Lib.hid (by rw [hout, hs0]; rfl)
  rw [← hout]
  clear hout hs0
  have HBL := Lib.hid hb
  have HGL : Hid (g < w.heap.size) := Lib.hid hk.lt
  have D0 := Lib.hid (blockIs.new w (byteCells b) 106)
  have A0 := Lib.hid (alloc_below w (.cells (byteCells b).toArray 106 (0, 0)))
  have S0 : Hid ((w.alloc (.cells (byteCells b).toArray 106 (0, 0))).heap.size = w.heap.size + 1) := Lib.hid (by simp)
  have N1 := Lib.hid (blockIs.new (w.alloc (.cells (byteCells b).toArray 106 (0, 0))) (zeros 16) 106)
  have B1 := Lib.hid (alloc_below (w.alloc (.cells (byteCells b).toArray 106 (0, 0))) (.cells (zeros 16).toArray 106 (0, 0)))
  have S1 : Hid (((w.alloc (.cells (byteCells b).toArray 106 (0, 0))).alloc (.cells (zeros 16).toArray 106 (0, 0))).heap.size = w.heap.size + 2) := Lib.hid (by simp)
  rw [S0.out] at N1 B1
  have D1 := Lib.hid (D0.out.below B1.out (Nat.lt_succ_self _))
  have A1 := Lib.hid (A0.out.trans (B1.out.mono (Nat.le_succ _)))
  have K1 := Lib.hid (hk.below A1.out hk.lt)
  clear D0 A0 S0 B1 hb hk
  go_enter Tryd.func105, Tryd.ntmps105
  go_upto_region 3 with fail
  generalize (w.alloc (.cells (byteCells b).toArray 106 (0, 0))).alloc (.cells (zeros 16).toArray 106 (0, 0)) = w2 at *
  have I3 : Hid (tinv w g w2.heap.size ws b (sRow ws b 0) (w2.alloc (.cells zero4.toArray 193 (0, 0)))) := Lib.hid (by
    have a := alloc_below w2 (.cells zero4.toArray 193 (0, 0))
    refine ⟨A1.out.trans (a.mono A1.out.size), K1.out.below a K1.out.lt, D1.out.below a D1.out.lt, N1.out.below a N1.out.lt, ?_⟩
    rw [sRow_zero]
    exact blockIs.new w2 zero4 _)
  have HN : Hid (tapart w g w2.heap.size) := Lib.hid ⟨HGL.out, by have := S1.out; omega⟩
  clear S1 D1 A1 K1 N1
  go_upto_region 4 with fail
  generalize hw3 : w2.alloc (.cells zero4.toArray 193 (0, 0)) = w3 at *
  generalize w2.heap.size = B2 at *
  clear hw3 hz hz4
  go_wp2_with fail
  go_loopw [18] (fun i wr => ∃ k : Nat, k ≤ 4 ∧ i = .int .i64 k ∧ tinv w g B2 ws b (sRow ws b k) wr) (fun i _ => 4 - (intOf i).toNat)
  case atStart => exact ⟨0, by omega, rfl, I3.out⟩
  case round =>
    obtain ⟨k, hk, rfl, h1⟩ := hrel
    have H1 := Lib.hid h1
    clear h1
    by_cases hlt : k < 4
    · have q : (k : Int) < 4 := by omega
      go_upto_region 7 with fail
      have m4 : IntKind.i64.wrap (4 * (k : Int)) = 4 * (k : Int) := IntWalk.i64_in _ (by omega)
      have m41 : IntKind.i64.wrap (4 * (k : Int) + 1) = 4 * (k : Int) + 1 := IntWalk.i64_in _ (by omega)
      have m42 : IntKind.i64.wrap (4 * (k : Int) + 2) = 4 * (k : Int) + 2 := IntWalk.i64_in _ (by omega)
      have m43 : IntKind.i64.wrap (4 * (k : Int) + 3) = 4 * (k : Int) + 3 := IntWalk.i64_in _ (by omega)
      have p40 : 0 ≤ 4 * (k : Int) := by omega
      have q40 : 4 * (k : Int) < 16 := by omega
      have t40 : (4 * (k : Int)).toNat = 4 * k := by omega
      have p41 : 0 ≤ 4 * (k : Int) + 1 := by omega
      have q41 : 4 * (k : Int) + 1 < 16 := by omega
      have t41 : (4 * (k : Int) + 1).toNat = 4 * k + 1 := by omega
      have p42 : 0 ≤ 4 * (k : Int) + 2 := by omega
      have q42 : 4 * (k : Int) + 2 < 16 := by omega
      have t42 : (4 * (k : Int) + 2).toNat = 4 * k + 2 := by omega
      have p43 : 0 ≤ 4 * (k : Int) + 3 := by omega
      have q43 : 4 * (k : Int) + 3 < 16 := by omega
      have t43 : (4 * (k : Int) + 3).toNat = 4 * k + 3 := by omega
      have pk : 0 ≤ (k : Int) := by omega
      have qk : (k : Int) < 60 := by omega
      have qk4 : (k : Int) < 4 := q
      have HB16 := HBL.out
      refine wp_region_noPanic ?_
      refine wp_region_held_drew (S := fun w' => tkeep w g ws b w') (by kernel_rfl) H1.out.drew.keep (fun hH => ?_)
      refine tk (i := 0) (oi := { dst := some 21, op := Op.move (Operand.tmp 6), type := 3, pos := "key.go:52", after := #[], guard := none }) (v := .int .i64 (k : Int)) rfl (fun wx hS => ?_) hH ?_
      · go_simp
      refine tk (i := 1) (oi := { dst := some 22, op := Op.move (Operand.tmp 6), type := 3, pos := "key.go:52", after := #[], guard := none }) (v := .int .i64 (k : Int)) rfl (fun wx hS => ?_) hH ?_
      · go_simp
      refine tk (i := 2) (oi := { dst := some 23, op := Op.binOp BinOp.mul 3 (Operand.const (Value.int IntKind.i64 4)) (Operand.tmp 22) 3, type := 3, pos := "key.go:52", after := #[⟨1, .data⟩], guard := none }) (v := .int .i64 (4 * (k : Int))) rfl (fun wx hS => ?_) hH ?_
      · have e1 := m4; go_simp
      refine tk (i := 3) (oi := { dst := some 24, op := Op.indexAddr 106 (Operand.tmp 3) (Operand.tmp 23), type := 0, pos := "key.go:52", after := #[⟨2, .data⟩], guard := none }) (v := .pointer (some ⟨w.heap.size, (4 * k), none⟩)) rfl (fun wx hS => ?_) hH ?_
      · have e1 := p40; have e2 := q40; have e3 := t40; go_simp
      refine tk (i := 4) (oi := { dst := some 25, op := Op.load 5 (Operand.tmp 24), type := 5, pos := "key.go:52", after := #[⟨3, .data⟩], guard := none }) (v := .int .u8 (V (b.getD (4 * k) 0))) rfl (fun wx hS => ?_) hH ?_
      · have e1 := hS.byte (4 * k) (by omega); go_simp
      refine tk (i := 5) (oi := { dst := some 26, op := Op.move (Operand.tmp 6), type := 3, pos := "key.go:52", after := #[], guard := none }) (v := .int .i64 (k : Int)) rfl (fun wx hS => ?_) hH ?_
      · go_simp
      refine tk (i := 6) (oi := { dst := some 27, op := Op.binOp BinOp.mul 3 (Operand.const (Value.int IntKind.i64 4)) (Operand.tmp 26) 3, type := 3, pos := "key.go:52", after := #[⟨5, .data⟩], guard := none }) (v := .int .i64 (4 * (k : Int))) rfl (fun wx hS => ?_) hH ?_
      · have e1 := m4; go_simp
      refine tk (i := 7) (oi := { dst := some 28, op := Op.binOp BinOp.add 3 (Operand.tmp 27) (Operand.const (Value.int IntKind.i64 1)) 3, type := 3, pos := "key.go:52", after := #[⟨6, .data⟩], guard := none }) (v := .int .i64 (4 * (k : Int) + 1)) rfl (fun wx hS => ?_) hH ?_
      · have e1 := m41; go_simp
      refine tk (i := 8) (oi := { dst := some 29, op := Op.indexAddr 106 (Operand.tmp 3) (Operand.tmp 28), type := 0, pos := "key.go:52", after := #[⟨7, .data⟩], guard := none }) (v := .pointer (some ⟨w.heap.size, (4 * k + 1), none⟩)) rfl (fun wx hS => ?_) hH ?_
      · have e1 := p41; have e2 := q41; have e3 := t41; go_simp
      refine tk (i := 9) (oi := { dst := some 30, op := Op.load 5 (Operand.tmp 29), type := 5, pos := "key.go:52", after := #[⟨8, .data⟩], guard := none }) (v := .int .u8 (V (b.getD (4 * k + 1) 0))) rfl (fun wx hS => ?_) hH ?_
      · have e1 := hS.byte (4 * k + 1) (by omega); go_simp
      refine tk (i := 10) (oi := { dst := some 31, op := Op.move (Operand.tmp 6), type := 3, pos := "key.go:52", after := #[], guard := none }) (v := .int .i64 (k : Int)) rfl (fun wx hS => ?_) hH ?_
      · go_simp
      refine tk (i := 11) (oi := { dst := some 32, op := Op.binOp BinOp.mul 3 (Operand.const (Value.int IntKind.i64 4)) (Operand.tmp 31) 3, type := 3, pos := "key.go:52", after := #[⟨10, .data⟩], guard := none }) (v := .int .i64 (4 * (k : Int))) rfl (fun wx hS => ?_) hH ?_
      · have e1 := m4; go_simp
      refine tk (i := 12) (oi := { dst := some 33, op := Op.binOp BinOp.add 3 (Operand.tmp 32) (Operand.const (Value.int IntKind.i64 2)) 3, type := 3, pos := "key.go:52", after := #[⟨11, .data⟩], guard := none }) (v := .int .i64 (4 * (k : Int) + 2)) rfl (fun wx hS => ?_) hH ?_
      · have e1 := m42; go_simp
      refine tk (i := 13) (oi := { dst := some 34, op := Op.indexAddr 106 (Operand.tmp 3) (Operand.tmp 33), type := 0, pos := "key.go:52", after := #[⟨12, .data⟩], guard := none }) (v := .pointer (some ⟨w.heap.size, (4 * k + 2), none⟩)) rfl (fun wx hS => ?_) hH ?_
      · have e1 := p42; have e2 := q42; have e3 := t42; go_simp
      refine tk (i := 14) (oi := { dst := some 35, op := Op.load 5 (Operand.tmp 34), type := 5, pos := "key.go:52", after := #[⟨13, .data⟩], guard := none }) (v := .int .u8 (V (b.getD (4 * k + 2) 0))) rfl (fun wx hS => ?_) hH ?_
      · have e1 := hS.byte (4 * k + 2) (by omega); go_simp
      refine tk (i := 15) (oi := { dst := some 36, op := Op.move (Operand.tmp 6), type := 3, pos := "key.go:52", after := #[], guard := none }) (v := .int .i64 (k : Int)) rfl (fun wx hS => ?_) hH ?_
      · go_simp
      refine tk (i := 16) (oi := { dst := some 37, op := Op.binOp BinOp.mul 3 (Operand.const (Value.int IntKind.i64 4)) (Operand.tmp 36) 3, type := 3, pos := "key.go:52", after := #[⟨15, .data⟩], guard := none }) (v := .int .i64 (4 * (k : Int))) rfl (fun wx hS => ?_) hH ?_
      · have e1 := m4; go_simp
      refine tk (i := 17) (oi := { dst := some 38, op := Op.binOp BinOp.add 3 (Operand.tmp 37) (Operand.const (Value.int IntKind.i64 3)) 3, type := 3, pos := "key.go:52", after := #[⟨16, .data⟩], guard := none }) (v := .int .i64 (4 * (k : Int) + 3)) rfl (fun wx hS => ?_) hH ?_
      · have e1 := m43; go_simp
      refine tk (i := 18) (oi := { dst := some 39, op := Op.indexAddr 106 (Operand.tmp 3) (Operand.tmp 38), type := 0, pos := "key.go:52", after := #[⟨17, .data⟩], guard := none }) (v := .pointer (some ⟨w.heap.size, (4 * k + 3), none⟩)) rfl (fun wx hS => ?_) hH ?_
      · have e1 := p43; have e2 := q43; have e3 := t43; go_simp
      refine tk (i := 19) (oi := { dst := some 40, op := Op.load 5 (Operand.tmp 39), type := 5, pos := "key.go:52", after := #[⟨18, .data⟩], guard := none }) (v := .int .u8 (V (b.getD (4 * k + 3) 0))) rfl (fun wx hS => ?_) hH ?_
      · have e1 := hS.byte (4 * k + 3) (by omega); go_simp
      refine tk (i := 21) (oi := { dst := some 42, op := Op.move (Operand.tmp 0), type := 153, pos := "key.go:52", after := #[], guard := none }) (v := .pointer (some ⟨g, 0, none⟩)) rfl (fun wx hS => ?_) hH ?_
      · go_simp
      refine tk (i := 22) (oi := { dst := some 43, op := Op.move (Operand.tmp 6), type := 3, pos := "key.go:52", after := #[], guard := none }) (v := .int .i64 (k : Int)) rfl (fun wx hS => ?_) hH ?_
      · go_simp
      refine tk (i := 23) (oi := { dst := some 44, op := Op.nilCheck (Operand.tmp 42), type := 0, pos := "key.go:52", after := #[⟨21, .data⟩], guard := none }) (v := .pointer (some ⟨g, 0, none⟩)) rfl (fun wx hS => ?_) hH ?_
      · go_simp
      refine tk (i := 24) (oi := { dst := some 45, op := Op.fieldAddr 182 (Operand.tmp 44) 1, type := 0, pos := "key.go:52", after := #[⟨23, .data⟩], guard := none }) (v := .pointer (some ⟨g, 256, none⟩)) rfl (fun wx hS => ?_) hH ?_
      · go_simp
      refine tk (i := 25) (oi := { dst := some 46, op := Op.indexAddr 180 (Operand.tmp 45) (Operand.tmp 43), type := 0, pos := "key.go:52", after := #[⟨24, .data⟩, ⟨22, .data⟩], guard := none }) (v := .pointer (some ⟨g, 256 + k, none⟩)) rfl (fun wx hS => ?_) hH ?_
      · have e1 := pk; have e2 := qk; go_simp
      refine tk (i := 26) (oi := { dst := some 47, op := Op.load 131 (Operand.tmp 46), type := 131, pos := "key.go:52", after := #[⟨25, .data⟩], guard := none }) (v := .int .u32 (U (ws.getD k 0))) rfl (fun wx hS => ?_) hH ?_
      · have e1 := hS.word k (by omega); go_simp
      refine wpAnyH_ready (rs := [20]) (by kernel_rfl) (by simp) ?_
      refine AllReadyH.cons (o := { dst := some 41, op := Op.call { callee := Callee.value (Operand.func 98), args := #[Operand.tmp 25, Operand.tmp 30, Operand.tmp 35, Operand.tmp 40], argTypes := #[5, 5, 5, 5] }, type := 131, pos := "key.go:52", after := #[⟨4, .data⟩, ⟨9, .data⟩, ⟨14, .data⟩, ⟨19, .data⟩], guard := none }) rfl (fun KK hKK => ?_) AllReadyH.nil
      go_simp
      refine (word_any _ _ _ _ _).mono ?_
      rintro e x1 ⟨rfl, rfl⟩
      refine hKK.out _ _ hH (fun hH => ?_)
      clear hKK KK
      try simp only [Act.put, List.setIfInBounds_toArray, List.set_cons_zero, List.set_cons_succ]
      refine tk (i := 27) (oi := { dst := some 48, op := Op.binOp BinOp.xor 131 (Operand.tmp 41) (Operand.tmp 47) 131, type := 131, pos := "key.go:52", after := #[⟨20, .data⟩, ⟨26, .data⟩], guard := none }) (v := .int .u32 (U (wordAt b k ^^^ ws.getD k 0))) rfl (fun wx hS => ?_) hH ?_
      · go_simp; rfl
      refine tk (i := 28) (oi := { dst := some 49, op := Op.indexAddr 193 (Operand.tmp 5) (Operand.tmp 21), type := 0, pos := "key.go:52", after := #[⟨0, .data⟩, ⟨0, .phase⟩, ⟨1, .phase⟩, ⟨2, .phase⟩, ⟨3, .phase⟩, ⟨4, .phase⟩, ⟨5, .phase⟩, ⟨6, .phase⟩, ⟨7, .phase⟩, ⟨8, .phase⟩, ⟨9, .phase⟩, ⟨10, .phase⟩, ⟨11, .phase⟩, ⟨12, .phase⟩, ⟨13, .phase⟩, ⟨14, .phase⟩, ⟨15, .phase⟩, ⟨16, .phase⟩, ⟨17, .phase⟩, ⟨18, .phase⟩, ⟨19, .phase⟩, ⟨20, .phase⟩, ⟨21, .phase⟩, ⟨22, .phase⟩, ⟨23, .phase⟩, ⟨24, .phase⟩, ⟨25, .phase⟩, ⟨26, .phase⟩, ⟨27, .phase⟩], guard := none }) (v := .pointer (some ⟨B2, k, none⟩)) rfl (fun wx hS => ?_) hH ?_
      · have e1 := pk; have e2 := qk4; go_simp
      have c1 : wr.drew.cell? ⟨B2, k, none⟩ = some _ := H1.out.2.2.2.2.at k (by unfold sRow; rw [cells32_length]; omega)
      have c2 : wr.drew.frozen? ⟨B2, k, none⟩ = false := H1.out.2.2.2.2.free k
      have hN : ∃ sv, tinv w g B2 ws b sv (wr.drew.setCell ⟨B2, k, none⟩ (.int .u32 (U (wordAt b k ^^^ ws.getD k 0)))) := ⟨_, H1.out.set HN.out k (.int .u32 (U (wordAt b k ^^^ ws.getD k 0)))⟩
      clear hH
      refine wpAnyH_ready (rs := [29]) (by kernel_rfl) (by simp) ?_
      refine AllReadyH.cons (o := { dst := none, op := Op.store 131 (Operand.tmp 49) (Operand.tmp 48), type := 0, pos := "key.go:52", after := #[⟨28, .data⟩, ⟨27, .data⟩, ⟨20, .chain⟩, ⟨0, .phase⟩, ⟨1, .phase⟩, ⟨2, .phase⟩, ⟨3, .phase⟩, ⟨4, .phase⟩, ⟨5, .phase⟩, ⟨6, .phase⟩, ⟨7, .phase⟩, ⟨8, .phase⟩, ⟨9, .phase⟩, ⟨10, .phase⟩, ⟨11, .phase⟩, ⟨12, .phase⟩, ⟨13, .phase⟩, ⟨14, .phase⟩, ⟨15, .phase⟩, ⟨16, .phase⟩, ⟨17, .phase⟩, ⟨18, .phase⟩, ⟨19, .phase⟩, ⟨20, .phase⟩, ⟨21, .phase⟩, ⟨22, .phase⟩, ⟨23, .phase⟩, ⟨24, .phase⟩, ⟨25, .phase⟩, ⟨26, .phase⟩, ⟨27, .phase⟩], guard := none }) rfl (fun KK hKK => ?_) AllReadyH.nil
      go_simp
      refine hKK.out _ _ ?sN (fun hH => ?_)
      case sN => exact hN.elim fun sv h => ⟨h.1, h.2.1, h.2.2.1⟩
      clear hKK KK hN
      try simp only [Act.put, List.setIfInBounds_toArray, List.set_cons_zero, List.set_cons_succ]
      refine wpAnyH_done (by kernel_rfl) ?_ _
      refine NoPanic.normal ?_
      go_wp2_with fail
      go_roundw
      case rel =>
        refine ⟨k + 1, by omega, by go_num, ?_⟩
        have := H1.out.set HN.out k (.int .u32 (U (wordAt b k ^^^ ws.getD k 0)))
        rw [sRow_set ws b k (by omega)] at this
        exact this
      case measure => simp [intOf]; omega
    obtain rfl : k = 4 := by omega
    have HC0 : Hid (∀ X, tinv w g B2 ws b (sRow ws b 4) X → X.cell? ⟨B2, 0, none⟩ = some (.int .u32 (U s0.p))) := Lib.hid (fun X h => by rw [h.2.2.2.2.cell, HS0.out]; rfl)
    have HC1 : Hid (∀ X, tinv w g B2 ws b (sRow ws b 4) X → X.cell? ⟨B2, 1, none⟩ = some (.int .u32 (U s0.q))) := Lib.hid (fun X h => by rw [h.2.2.2.2.cell, HS0.out]; rfl)
    have HC2 : Hid (∀ X, tinv w g B2 ws b (sRow ws b 4) X → X.cell? ⟨B2, 2, none⟩ = some (.int .u32 (U s0.r))) := Lib.hid (fun X h => by rw [h.2.2.2.2.cell, HS0.out]; rfl)
    have HC3 : Hid (∀ X, tinv w g B2 ws b (sRow ws b 4) X → X.cell? ⟨B2, 3, none⟩ = some (.int .u32 (U s0.t))) := Lib.hid (fun X h => by rw [h.2.2.2.2.cell, HS0.out]; rfl)
    have HSV : Hid ((sRow ws b 4).length = 4) := Lib.hid (by unfold sRow; rw [cells32_length])
    generalize sRow ws b 4 = sv at *
    go_upto_region 9 with fail
    refine wp_region_noPanic ?_
    refine wp_region_held_drew (S := fun w' => tinv w g B2 ws b sv w') (by kernel_rfl) H1.out.drew (fun hH => ?_)
    refine tk (i := 0) (oi := { dst := some 51, op := Op.indexAddr 193 (Operand.tmp 5) (Operand.const (Value.int IntKind.i64 0)), type := 0, pos := "key.go:55", after := #[], guard := none }) (v := .pointer (some ⟨B2, 0, none⟩)) rfl (fun wx hS => ?_) hH ?_
    · go_simp
    refine tk (i := 1) (oi := { dst := some 52, op := Op.load 131 (Operand.tmp 51), type := 131, pos := "key.go:55", after := #[⟨0, .data⟩], guard := none }) (v := .int .u32 (U s0.p)) rfl (fun wx hS => ?_) hH ?_
    · have e1 := HC0.out wx hS; go_simp
    refine tk (i := 2) (oi := { dst := some 53, op := Op.indexAddr 193 (Operand.tmp 5) (Operand.const (Value.int IntKind.i64 1)), type := 0, pos := "key.go:55", after := #[⟨8, .gcOnly .lateStores⟩], guard := none }) (v := .pointer (some ⟨B2, 1, none⟩)) rfl (fun wx hS => ?_) hH ?_
    · go_simp
    refine tk (i := 3) (oi := { dst := some 54, op := Op.load 131 (Operand.tmp 53), type := 131, pos := "key.go:55", after := #[⟨2, .data⟩, ⟨8, .gcOnly .lateStores⟩], guard := none }) (v := .int .u32 (U s0.q)) rfl (fun wx hS => ?_) hH ?_
    · have e1 := HC1.out wx hS; go_simp
    refine tk (i := 4) (oi := { dst := some 55, op := Op.indexAddr 193 (Operand.tmp 5) (Operand.const (Value.int IntKind.i64 2)), type := 0, pos := "key.go:55", after := #[⟨9, .gcOnly .lateStores⟩], guard := none }) (v := .pointer (some ⟨B2, 2, none⟩)) rfl (fun wx hS => ?_) hH ?_
    · go_simp
    refine tk (i := 5) (oi := { dst := some 56, op := Op.load 131 (Operand.tmp 55), type := 131, pos := "key.go:55", after := #[⟨4, .data⟩, ⟨9, .gcOnly .lateStores⟩], guard := none }) (v := .int .u32 (U s0.r)) rfl (fun wx hS => ?_) hH ?_
    · have e1 := HC2.out wx hS; go_simp
    refine tk (i := 6) (oi := { dst := some 57, op := Op.indexAddr 193 (Operand.tmp 5) (Operand.const (Value.int IntKind.i64 3)), type := 0, pos := "key.go:55", after := #[⟨10, .gcOnly .lateStores⟩], guard := none }) (v := .pointer (some ⟨B2, 3, none⟩)) rfl (fun wx hS => ?_) hH ?_
    · go_simp
    refine tk (i := 7) (oi := { dst := some 58, op := Op.load 131 (Operand.tmp 57), type := 131, pos := "key.go:55", after := #[⟨6, .data⟩, ⟨10, .gcOnly .lateStores⟩], guard := none }) (v := .int .u32 (U s0.t)) rfl (fun wx hS => ?_) hH ?_
    · have e1 := HC3.out wx hS; go_simp
    refine tk (i := 8) (oi := { dst := some 7, op := Op.assign (Operand.tmp 52), type := 131, pos := "key.go:55", after := #[⟨1, .data⟩, ⟨0, .phase⟩, ⟨1, .phase⟩, ⟨2, .textOnly .lateStores⟩, ⟨3, .textOnly .lateStores⟩, ⟨4, .textOnly .lateStores⟩, ⟨5, .textOnly .lateStores⟩, ⟨6, .textOnly .lateStores⟩, ⟨7, .textOnly .lateStores⟩], guard := none }) (v := .int .u32 (U s0.p)) rfl (fun wx hS => ?_) hH ?_
    · go_simp
    refine tk (i := 9) (oi := { dst := some 8, op := Op.assign (Operand.tmp 54), type := 131, pos := "key.go:55", after := #[⟨3, .data⟩, ⟨8, .chain⟩, ⟨0, .phase⟩, ⟨1, .phase⟩, ⟨2, .phase⟩, ⟨3, .phase⟩, ⟨4, .textOnly .lateStores⟩, ⟨5, .textOnly .lateStores⟩, ⟨6, .textOnly .lateStores⟩, ⟨7, .textOnly .lateStores⟩, ⟨8, .phase⟩], guard := none }) (v := .int .u32 (U s0.q)) rfl (fun wx hS => ?_) hH ?_
    · go_simp
    refine tk (i := 10) (oi := { dst := some 9, op := Op.assign (Operand.tmp 56), type := 131, pos := "key.go:55", after := #[⟨5, .data⟩, ⟨9, .chain⟩, ⟨0, .phase⟩, ⟨1, .phase⟩, ⟨2, .phase⟩, ⟨3, .phase⟩, ⟨4, .phase⟩, ⟨5, .phase⟩, ⟨6, .textOnly .lateStores⟩, ⟨7, .textOnly .lateStores⟩, ⟨8, .phase⟩, ⟨9, .phase⟩], guard := none }) (v := .int .u32 (U s0.r)) rfl (fun wx hS => ?_) hH ?_
    · go_simp
    refine tk (i := 11) (oi := { dst := some 10, op := Op.assign (Operand.tmp 58), type := 131, pos := "key.go:55", after := #[⟨7, .data⟩, ⟨10, .chain⟩, ⟨0, .phase⟩, ⟨1, .phase⟩, ⟨2, .phase⟩, ⟨3, .phase⟩, ⟨4, .phase⟩, ⟨5, .phase⟩, ⟨6, .phase⟩, ⟨7, .phase⟩, ⟨8, .phase⟩, ⟨9, .phase⟩, ⟨10, .phase⟩], guard := none }) (v := .int .u32 (U s0.t)) rfl (fun wx hS => ?_) hH ?_
    · go_simp
    refine wpAnyH_done (by kernel_rfl) ?_ _
    refine NoPanic.normal ?_
    have H1 := Lib.hid hH
    clear hH HC0 HC1 HC2 HC3
    generalize wr.drew = w4 at *
    go_wp2_with fail
    go_loopw [11, 7, 8, 9, 10] (fun i p q r t wr => ∃ n : Nat, n ≤ 13 ∧ i = .int .i64 ((4 * (n + 1) : Nat) : Int) ∧ p = .int .u32 (U (Aes.rounds ws n s0).p) ∧ q = .int .u32 (U (Aes.rounds ws n s0).q) ∧ r = .int .u32 (U (Aes.rounds ws n s0).r) ∧ t = .int .u32 (U (Aes.rounds ws n s0).t) ∧ tinv w g B2 ws b sv wr) (fun i _ _ _ _ _ => 56 - (intOf i).toNat)
    case atStart => exact ⟨0, by omega, rfl, rfl, rfl, rfl, rfl, H1.out⟩
    case round =>
      obtain ⟨n, hn, rfl, rfl, rfl, rfl, rfl, h2⟩ := hrel
      have H2 := Lib.hid h2
      clear h2
      by_cases hlt : n < 13
      · have q : ((4 * (n + 1) : Nat) : Int) < 56 := by omega
        have HR : Hid (Aes.rounds ws (n + 1) s0 = Aes.round ws (4 * (n + 1)) (Aes.rounds ws n s0)) := Lib.hid rfl
        generalize Aes.rounds ws n s0 = s at *
        go_upto_region 13 with fail
        have a1 : (0 : Int) ≤ ((4 * (n + 1) : Nat) : Int) := by omega
        have a2 : IntKind.i64.wrap (((4 * (n + 1) : Nat) : Int) + 4) = ((4 * (n + 1) : Nat) : Int) + 4 := IntWalk.i64_in _ (by omega)
        have a3 : ((4 * (n + 1) : Nat) : Int) ≤ ((4 * (n + 1) : Nat) : Int) + 4 := by omega
        have a4 : ((4 * (n + 1) : Nat) : Int) + 4 ≤ 60 := by omega
        generalize hat : 4 * (n + 1) = at_ at *
        go_cut [12] (fun v wx => v = .slice (some ⟨g, 256 + at_, none⟩) 4 (60 - at_) ∧ wr = wx)
        case first =>
          go_wp2_with fail
          all_goals
            go_meet
            case rel => exact ⟨by rw [show at_ + 4 - at_ = 4 by omega], rfl⟩
        obtain ⟨rfl, rfl⟩ := hcut
        have hat2 : at_ + 3 < 60 := by omega
        go_upto_region 14 with fail
        refine wp_region_noPanic ?_
        refine wp_region_held_drew (S := fun w' => tinv w g B2 ws b sv w') (by kernel_rfl) H2.out.drew (fun hH => ?_)
        refine tk (i := 0) (oi := { dst := some 70, op := Op.move (Operand.tmp 0), type := 153, pos := "key.go:58", after := #[], guard := none }) (v := .pointer (some ⟨g, 0, none⟩)) rfl (fun wx hS => ?_) hH ?_
        · go_simp
        refine tk (i := 1) (oi := { dst := some 71, op := Op.move (Operand.tmp 7), type := 131, pos := "key.go:58", after := #[], guard := none }) (v := .int .u32 (U s.p)) rfl (fun wx hS => ?_) hH ?_
        · go_simp
        refine tk (i := 2) (oi := { dst := some 72, op := Op.move (Operand.tmp 8), type := 131, pos := "key.go:58", after := #[], guard := none }) (v := .int .u32 (U s.q)) rfl (fun wx hS => ?_) hH ?_
        · go_simp
        refine tk (i := 3) (oi := { dst := some 73, op := Op.move (Operand.tmp 9), type := 131, pos := "key.go:58", after := #[], guard := none }) (v := .int .u32 (U s.r)) rfl (fun wx hS => ?_) hH ?_
        · go_simp
        refine tk (i := 4) (oi := { dst := some 74, op := Op.move (Operand.tmp 10), type := 131, pos := "key.go:58", after := #[], guard := none }) (v := .int .u32 (U s.t)) rfl (fun wx hS => ?_) hH ?_
        · go_simp
        refine tk (i := 11) (oi := { dst := some 81, op := Op.move (Operand.tmp 0), type := 153, pos := "key.go:58", after := #[], guard := none }) (v := .pointer (some ⟨g, 0, none⟩)) rfl (fun wx hS => ?_) hH ?_
        · go_simp
        refine tk (i := 12) (oi := { dst := some 82, op := Op.move (Operand.tmp 8), type := 131, pos := "key.go:58", after := #[], guard := none }) (v := .int .u32 (U s.q)) rfl (fun wx hS => ?_) hH ?_
        · go_simp
        refine tk (i := 13) (oi := { dst := some 83, op := Op.move (Operand.tmp 9), type := 131, pos := "key.go:58", after := #[], guard := none }) (v := .int .u32 (U s.r)) rfl (fun wx hS => ?_) hH ?_
        · go_simp
        refine tk (i := 14) (oi := { dst := some 84, op := Op.move (Operand.tmp 10), type := 131, pos := "key.go:58", after := #[], guard := none }) (v := .int .u32 (U s.t)) rfl (fun wx hS => ?_) hH ?_
        · go_simp
        refine tk (i := 15) (oi := { dst := some 85, op := Op.move (Operand.tmp 7), type := 131, pos := "key.go:58", after := #[], guard := none }) (v := .int .u32 (U s.p)) rfl (fun wx hS => ?_) hH ?_
        · go_simp
        refine tk (i := 22) (oi := { dst := some 92, op := Op.move (Operand.tmp 0), type := 153, pos := "key.go:58", after := #[], guard := none }) (v := .pointer (some ⟨g, 0, none⟩)) rfl (fun wx hS => ?_) hH ?_
        · go_simp
        refine tk (i := 23) (oi := { dst := some 93, op := Op.move (Operand.tmp 9), type := 131, pos := "key.go:58", after := #[], guard := none }) (v := .int .u32 (U s.r)) rfl (fun wx hS => ?_) hH ?_
        · go_simp
        refine tk (i := 24) (oi := { dst := some 94, op := Op.move (Operand.tmp 10), type := 131, pos := "key.go:58", after := #[], guard := none }) (v := .int .u32 (U s.t)) rfl (fun wx hS => ?_) hH ?_
        · go_simp
        refine tk (i := 25) (oi := { dst := some 95, op := Op.move (Operand.tmp 7), type := 131, pos := "key.go:58", after := #[], guard := none }) (v := .int .u32 (U s.p)) rfl (fun wx hS => ?_) hH ?_
        · go_simp
        refine tk (i := 26) (oi := { dst := some 96, op := Op.move (Operand.tmp 8), type := 131, pos := "key.go:58", after := #[], guard := none }) (v := .int .u32 (U s.q)) rfl (fun wx hS => ?_) hH ?_
        · go_simp
        refine tk (i := 33) (oi := { dst := some 103, op := Op.move (Operand.tmp 0), type := 153, pos := "key.go:58", after := #[], guard := none }) (v := .pointer (some ⟨g, 0, none⟩)) rfl (fun wx hS => ?_) hH ?_
        · go_simp
        refine tk (i := 34) (oi := { dst := some 104, op := Op.move (Operand.tmp 10), type := 131, pos := "key.go:58", after := #[], guard := none }) (v := .int .u32 (U s.t)) rfl (fun wx hS => ?_) hH ?_
        · go_simp
        refine tk (i := 35) (oi := { dst := some 105, op := Op.move (Operand.tmp 7), type := 131, pos := "key.go:58", after := #[], guard := none }) (v := .int .u32 (U s.p)) rfl (fun wx hS => ?_) hH ?_
        · go_simp
        refine tk (i := 36) (oi := { dst := some 106, op := Op.move (Operand.tmp 8), type := 131, pos := "key.go:58", after := #[], guard := none }) (v := .int .u32 (U s.q)) rfl (fun wx hS => ?_) hH ?_
        · go_simp
        refine tk (i := 37) (oi := { dst := some 107, op := Op.move (Operand.tmp 9), type := 131, pos := "key.go:58", after := #[], guard := none }) (v := .int .u32 (U s.r)) rfl (fun wx hS => ?_) hH ?_
        · go_simp
        refine tk (i := 7) (oi := { dst := some 77, op := Op.move (Operand.tmp 12), type := 151, pos := "key.go:58", after := #[], guard := none }) (v := .slice (some ⟨g, 256 + at_, none⟩) 4 (60 - at_)) rfl (fun wx hS => ?_) hH ?_
        · go_simp
        refine tk (i := 8) (oi := { dst := some 78, op := Op.indexAddr 151 (Operand.tmp 77) (Operand.const (Value.int IntKind.i64 0)), type := 0, pos := "key.go:58", after := #[⟨7, .data⟩], guard := none }) (v := .pointer (some ⟨g, 256 + at_, none⟩)) rfl (fun wx hS => ?_) hH ?_
        · go_simp
        refine tk (i := 9) (oi := { dst := some 79, op := Op.load 131 (Operand.tmp 78), type := 131, pos := "key.go:58", after := #[⟨8, .data⟩], guard := none }) (v := .int .u32 (U (ws.getD (at_) 0))) rfl (fun wx hS => ?_) hH ?_
        · have e1 := hS.word (at_) (by omega); go_simp
        refine tk (i := 18) (oi := { dst := some 88, op := Op.move (Operand.tmp 12), type := 151, pos := "key.go:58", after := #[⟨44, .gcOnly .lateStores⟩], guard := none }) (v := .slice (some ⟨g, 256 + at_, none⟩) 4 (60 - at_)) rfl (fun wx hS => ?_) hH ?_
        · go_simp
        refine tk (i := 19) (oi := { dst := some 89, op := Op.indexAddr 151 (Operand.tmp 88) (Operand.const (Value.int IntKind.i64 1)), type := 0, pos := "key.go:58", after := #[⟨18, .data⟩, ⟨44, .gcOnly .lateStores⟩], guard := none }) (v := .pointer (some ⟨g, 256 + (at_ + 1), none⟩)) rfl (fun wx hS => ?_) hH ?_
        · go_simp
        refine tk (i := 20) (oi := { dst := some 90, op := Op.load 131 (Operand.tmp 89), type := 131, pos := "key.go:58", after := #[⟨19, .data⟩, ⟨44, .gcOnly .lateStores⟩], guard := none }) (v := .int .u32 (U (ws.getD (at_ + 1) 0))) rfl (fun wx hS => ?_) hH ?_
        · have e1 := hS.word (at_ + 1) (by omega); go_simp
        refine tk (i := 29) (oi := { dst := some 99, op := Op.move (Operand.tmp 12), type := 151, pos := "key.go:58", after := #[⟨45, .gcOnly .lateStores⟩], guard := none }) (v := .slice (some ⟨g, 256 + at_, none⟩) 4 (60 - at_)) rfl (fun wx hS => ?_) hH ?_
        · go_simp
        refine tk (i := 30) (oi := { dst := some 100, op := Op.indexAddr 151 (Operand.tmp 99) (Operand.const (Value.int IntKind.i64 2)), type := 0, pos := "key.go:58", after := #[⟨29, .data⟩, ⟨45, .gcOnly .lateStores⟩], guard := none }) (v := .pointer (some ⟨g, 256 + (at_ + 2), none⟩)) rfl (fun wx hS => ?_) hH ?_
        · go_simp
        refine tk (i := 31) (oi := { dst := some 101, op := Op.load 131 (Operand.tmp 100), type := 131, pos := "key.go:58", after := #[⟨30, .data⟩, ⟨45, .gcOnly .lateStores⟩], guard := none }) (v := .int .u32 (U (ws.getD (at_ + 2) 0))) rfl (fun wx hS => ?_) hH ?_
        · have e1 := hS.word (at_ + 2) (by omega); go_simp
        refine tk (i := 40) (oi := { dst := some 110, op := Op.move (Operand.tmp 12), type := 151, pos := "key.go:58", after := #[⟨46, .gcOnly .lateStores⟩], guard := none }) (v := .slice (some ⟨g, 256 + at_, none⟩) 4 (60 - at_)) rfl (fun wx hS => ?_) hH ?_
        · go_simp
        refine tk (i := 41) (oi := { dst := some 111, op := Op.indexAddr 151 (Operand.tmp 110) (Operand.const (Value.int IntKind.i64 3)), type := 0, pos := "key.go:58", after := #[⟨40, .data⟩, ⟨46, .gcOnly .lateStores⟩], guard := none }) (v := .pointer (some ⟨g, 256 + (at_ + 3), none⟩)) rfl (fun wx hS => ?_) hH ?_
        · go_simp
        refine tk (i := 42) (oi := { dst := some 112, op := Op.load 131 (Operand.tmp 111), type := 131, pos := "key.go:58", after := #[⟨41, .data⟩, ⟨46, .gcOnly .lateStores⟩], guard := none }) (v := .int .u32 (U (ws.getD (at_ + 3) 0))) rfl (fun wx hS => ?_) hH ?_
        · have e1 := hS.word (at_ + 3) (by omega); go_simp
        refine wpAnyH_ready (rs := [5]) (by kernel_rfl) (by simp) ?_
        refine AllReadyH.cons (o := { dst := some 75, op := Op.call { callee := Callee.value (Operand.func 100), args := #[Operand.tmp 70, Operand.tmp 71, Operand.tmp 72, Operand.tmp 73, Operand.tmp 74], argTypes := #[153, 131, 131, 131, 131] }, type := 131, pos := "key.go:58", after := #[⟨0, .data⟩, ⟨1, .data⟩, ⟨2, .data⟩, ⟨3, .data⟩, ⟨4, .data⟩], guard := none }) rfl (fun KK hKK => ?_) AllReadyH.nil
        go_simp
        refine (pick_any g _ _ _ _ _ hH.box).mono ?_
        rintro e y0 ⟨rfl, kk⟩
        have hN := hH.below kk
        clear hH kk
        refine hKK.out _ _ hN (fun hH => ?_)
        clear hKK KK hN
        try simp only [Act.put, List.setIfInBounds_toArray, List.set_cons_zero, List.set_cons_succ]
        refine wpAnyH_ready (rs := [6]) (by kernel_rfl) (by simp) ?_
        refine AllReadyH.cons (o := { dst := some 76, op := Op.call { callee := Callee.value (Operand.func 106), args := #[Operand.tmp 75], argTypes := #[131] }, type := 131, pos := "key.go:58", after := #[⟨5, .data⟩, ⟨5, .chain⟩], guard := none }) rfl (fun KK hKK => ?_) AllReadyH.nil
        go_simp
        refine (mix_any _ _).mono ?_
        rintro e z0 ⟨rfl, rfl⟩
        refine hKK.out _ _ hH (fun hH => ?_)
        clear hKK KK
        try simp only [Act.put, List.setIfInBounds_toArray, List.set_cons_zero, List.set_cons_succ]
        refine tk (i := 10) (oi := { dst := some 80, op := Op.binOp BinOp.xor 131 (Operand.tmp 76) (Operand.tmp 79) 131, type := 131, pos := "key.go:58", after := #[⟨6, .data⟩, ⟨9, .data⟩], guard := none }) (v := .int .u32 (U (Aes.mix (Aes.pick s.p s.q s.r s.t) ^^^ ws.getD (at_) 0))) rfl (fun wx hS => ?_) hH ?_
        · go_simp
        refine wpAnyH_ready (rs := [16]) (by kernel_rfl) (by simp) ?_
        refine AllReadyH.cons (o := { dst := some 86, op := Op.call { callee := Callee.value (Operand.func 100), args := #[Operand.tmp 81, Operand.tmp 82, Operand.tmp 83, Operand.tmp 84, Operand.tmp 85], argTypes := #[153, 131, 131, 131, 131] }, type := 131, pos := "key.go:58", after := #[⟨11, .data⟩, ⟨12, .data⟩, ⟨13, .data⟩, ⟨14, .data⟩, ⟨15, .data⟩, ⟨6, .chain⟩], guard := none }) rfl (fun KK hKK => ?_) AllReadyH.nil
        go_simp
        refine (pick_any g _ _ _ _ _ hH.box).mono ?_
        rintro e y1 ⟨rfl, kk⟩
        have hN := hH.below kk
        clear hH kk
        refine hKK.out _ _ hN (fun hH => ?_)
        clear hKK KK hN
        try simp only [Act.put, List.setIfInBounds_toArray, List.set_cons_zero, List.set_cons_succ]
        refine wpAnyH_ready (rs := [17]) (by kernel_rfl) (by simp) ?_
        refine AllReadyH.cons (o := { dst := some 87, op := Op.call { callee := Callee.value (Operand.func 106), args := #[Operand.tmp 86], argTypes := #[131] }, type := 131, pos := "key.go:58", after := #[⟨16, .data⟩, ⟨16, .chain⟩], guard := none }) rfl (fun KK hKK => ?_) AllReadyH.nil
        go_simp
        refine (mix_any _ _).mono ?_
        rintro e z1 ⟨rfl, rfl⟩
        refine hKK.out _ _ hH (fun hH => ?_)
        clear hKK KK
        try simp only [Act.put, List.setIfInBounds_toArray, List.set_cons_zero, List.set_cons_succ]
        refine tk (i := 21) (oi := { dst := some 91, op := Op.binOp BinOp.xor 131 (Operand.tmp 87) (Operand.tmp 90) 131, type := 131, pos := "key.go:58", after := #[⟨17, .data⟩, ⟨20, .data⟩, ⟨44, .gcOnly .lateStores⟩], guard := none }) (v := .int .u32 (U (Aes.mix (Aes.pick s.q s.r s.t s.p) ^^^ ws.getD (at_ + 1) 0))) rfl (fun wx hS => ?_) hH ?_
        · go_simp
        refine wpAnyH_ready (rs := [27]) (by kernel_rfl) (by simp) ?_
        refine AllReadyH.cons (o := { dst := some 97, op := Op.call { callee := Callee.value (Operand.func 100), args := #[Operand.tmp 92, Operand.tmp 93, Operand.tmp 94, Operand.tmp 95, Operand.tmp 96], argTypes := #[153, 131, 131, 131, 131] }, type := 131, pos := "key.go:58", after := #[⟨22, .data⟩, ⟨23, .data⟩, ⟨24, .data⟩, ⟨25, .data⟩, ⟨26, .data⟩, ⟨17, .chain⟩], guard := none }) rfl (fun KK hKK => ?_) AllReadyH.nil
        go_simp
        refine (pick_any g _ _ _ _ _ hH.box).mono ?_
        rintro e y2 ⟨rfl, kk⟩
        have hN := hH.below kk
        clear hH kk
        refine hKK.out _ _ hN (fun hH => ?_)
        clear hKK KK hN
        try simp only [Act.put, List.setIfInBounds_toArray, List.set_cons_zero, List.set_cons_succ]
        refine wpAnyH_ready (rs := [28]) (by kernel_rfl) (by simp) ?_
        refine AllReadyH.cons (o := { dst := some 98, op := Op.call { callee := Callee.value (Operand.func 106), args := #[Operand.tmp 97], argTypes := #[131] }, type := 131, pos := "key.go:58", after := #[⟨27, .data⟩, ⟨27, .chain⟩], guard := none }) rfl (fun KK hKK => ?_) AllReadyH.nil
        go_simp
        refine (mix_any _ _).mono ?_
        rintro e z2 ⟨rfl, rfl⟩
        refine hKK.out _ _ hH (fun hH => ?_)
        clear hKK KK
        try simp only [Act.put, List.setIfInBounds_toArray, List.set_cons_zero, List.set_cons_succ]
        refine tk (i := 32) (oi := { dst := some 102, op := Op.binOp BinOp.xor 131 (Operand.tmp 98) (Operand.tmp 101) 131, type := 131, pos := "key.go:58", after := #[⟨28, .data⟩, ⟨31, .data⟩, ⟨45, .gcOnly .lateStores⟩], guard := none }) (v := .int .u32 (U (Aes.mix (Aes.pick s.r s.t s.p s.q) ^^^ ws.getD (at_ + 2) 0))) rfl (fun wx hS => ?_) hH ?_
        · go_simp
        refine wpAnyH_ready (rs := [38]) (by kernel_rfl) (by simp) ?_
        refine AllReadyH.cons (o := { dst := some 108, op := Op.call { callee := Callee.value (Operand.func 100), args := #[Operand.tmp 103, Operand.tmp 104, Operand.tmp 105, Operand.tmp 106, Operand.tmp 107], argTypes := #[153, 131, 131, 131, 131] }, type := 131, pos := "key.go:58", after := #[⟨33, .data⟩, ⟨34, .data⟩, ⟨35, .data⟩, ⟨36, .data⟩, ⟨37, .data⟩, ⟨28, .chain⟩], guard := none }) rfl (fun KK hKK => ?_) AllReadyH.nil
        go_simp
        refine (pick_any g _ _ _ _ _ hH.box).mono ?_
        rintro e y3 ⟨rfl, kk⟩
        have hN := hH.below kk
        clear hH kk
        refine hKK.out _ _ hN (fun hH => ?_)
        clear hKK KK hN
        try simp only [Act.put, List.setIfInBounds_toArray, List.set_cons_zero, List.set_cons_succ]
        refine wpAnyH_ready (rs := [39]) (by kernel_rfl) (by simp) ?_
        refine AllReadyH.cons (o := { dst := some 109, op := Op.call { callee := Callee.value (Operand.func 106), args := #[Operand.tmp 108], argTypes := #[131] }, type := 131, pos := "key.go:58", after := #[⟨38, .data⟩, ⟨38, .chain⟩], guard := none }) rfl (fun KK hKK => ?_) AllReadyH.nil
        go_simp
        refine (mix_any _ _).mono ?_
        rintro e z3 ⟨rfl, rfl⟩
        refine hKK.out _ _ hH (fun hH => ?_)
        clear hKK KK
        try simp only [Act.put, List.setIfInBounds_toArray, List.set_cons_zero, List.set_cons_succ]
        refine tk (i := 43) (oi := { dst := some 113, op := Op.binOp BinOp.xor 131 (Operand.tmp 109) (Operand.tmp 112) 131, type := 131, pos := "key.go:58", after := #[⟨39, .data⟩, ⟨42, .data⟩, ⟨46, .gcOnly .lateStores⟩], guard := none }) (v := .int .u32 (U (Aes.mix (Aes.pick s.t s.p s.q s.r) ^^^ ws.getD (at_ + 3) 0))) rfl (fun wx hS => ?_) hH ?_
        · go_simp
        refine tk (i := 44) (oi := { dst := some 7, op := Op.assign (Operand.tmp 80), type := 131, pos := "key.go:58", after := #[⟨10, .data⟩, ⟨39, .chain⟩, ⟨0, .phase⟩, ⟨1, .phase⟩, ⟨2, .phase⟩, ⟨3, .phase⟩, ⟨4, .phase⟩, ⟨5, .phase⟩, ⟨6, .phase⟩, ⟨7, .phase⟩, ⟨8, .phase⟩, ⟨9, .phase⟩, ⟨10, .phase⟩, ⟨11, .textOnly .lateStores⟩, ⟨12, .textOnly .lateStores⟩, ⟨13, .textOnly .lateStores⟩, ⟨14, .textOnly .lateStores⟩, ⟨15, .phase⟩, ⟨16, .textOnly .lateStoresUnsure⟩, ⟨17, .textOnly .lateStoresUnsure⟩, ⟨18, .textOnly .lateStores⟩, ⟨19, .textOnly .lateStores⟩, ⟨20, .textOnly .lateStores⟩, ⟨21, .textOnly .lateStores⟩, ⟨22, .textOnly .lateStores⟩, ⟨23, .textOnly .lateStores⟩, ⟨24, .textOnly .lateStores⟩, ⟨25, .phase⟩, ⟨26, .phase⟩, ⟨27, .textOnly .lateStoresUnsure⟩, ⟨28, .textOnly .lateStoresUnsure⟩, ⟨29, .textOnly .lateStores⟩, ⟨30, .textOnly .lateStores⟩, ⟨31, .textOnly .lateStores⟩, ⟨32, .textOnly .lateStores⟩, ⟨33, .textOnly .lateStores⟩, ⟨34, .textOnly .lateStores⟩, ⟨35, .phase⟩, ⟨36, .phase⟩, ⟨37, .phase⟩, ⟨38, .textOnly .lateStoresUnsure⟩, ⟨39, .textOnly .lateStoresUnsure⟩, ⟨40, .textOnly .lateStores⟩, ⟨41, .textOnly .lateStores⟩, ⟨42, .textOnly .lateStores⟩, ⟨43, .textOnly .lateStores⟩], guard := none }) (v := .int .u32 (U (Aes.mix (Aes.pick s.p s.q s.r s.t) ^^^ ws.getD (at_) 0))) rfl (fun wx hS => ?_) hH ?_
        · go_simp
        refine tk (i := 45) (oi := { dst := some 8, op := Op.assign (Operand.tmp 91), type := 131, pos := "key.go:58", after := #[⟨21, .data⟩, ⟨44, .chain⟩, ⟨0, .phase⟩, ⟨1, .phase⟩, ⟨2, .phase⟩, ⟨3, .phase⟩, ⟨4, .phase⟩, ⟨5, .phase⟩, ⟨6, .phase⟩, ⟨7, .phase⟩, ⟨8, .phase⟩, ⟨9, .phase⟩, ⟨10, .phase⟩, ⟨11, .phase⟩, ⟨12, .phase⟩, ⟨13, .phase⟩, ⟨14, .phase⟩, ⟨15, .phase⟩, ⟨16, .phase⟩, ⟨17, .phase⟩, ⟨18, .phase⟩, ⟨19, .phase⟩, ⟨20, .phase⟩, ⟨21, .phase⟩, ⟨22, .textOnly .lateStores⟩, ⟨23, .textOnly .lateStores⟩, ⟨24, .textOnly .lateStores⟩, ⟨25, .phase⟩, ⟨26, .phase⟩, ⟨27, .textOnly .lateStoresUnsure⟩, ⟨28, .textOnly .lateStoresUnsure⟩, ⟨29, .textOnly .lateStores⟩, ⟨30, .textOnly .lateStores⟩, ⟨31, .textOnly .lateStores⟩, ⟨32, .textOnly .lateStores⟩, ⟨33, .textOnly .lateStores⟩, ⟨34, .textOnly .lateStores⟩, ⟨35, .phase⟩, ⟨36, .phase⟩, ⟨37, .phase⟩, ⟨38, .textOnly .lateStoresUnsure⟩, ⟨39, .textOnly .lateStoresUnsure⟩, ⟨40, .textOnly .lateStores⟩, ⟨41, .textOnly .lateStores⟩, ⟨42, .textOnly .lateStores⟩, ⟨43, .textOnly .lateStores⟩, ⟨44, .phase⟩], guard := none }) (v := .int .u32 (U (Aes.mix (Aes.pick s.q s.r s.t s.p) ^^^ ws.getD (at_ + 1) 0))) rfl (fun wx hS => ?_) hH ?_
        · go_simp
        refine tk (i := 46) (oi := { dst := some 9, op := Op.assign (Operand.tmp 102), type := 131, pos := "key.go:58", after := #[⟨32, .data⟩, ⟨45, .chain⟩, ⟨0, .phase⟩, ⟨1, .phase⟩, ⟨2, .phase⟩, ⟨3, .phase⟩, ⟨4, .phase⟩, ⟨5, .phase⟩, ⟨6, .phase⟩, ⟨7, .phase⟩, ⟨8, .phase⟩, ⟨9, .phase⟩, ⟨10, .phase⟩, ⟨11, .phase⟩, ⟨12, .phase⟩, ⟨13, .phase⟩, ⟨14, .phase⟩, ⟨15, .phase⟩, ⟨16, .phase⟩, ⟨17, .phase⟩, ⟨18, .phase⟩, ⟨19, .phase⟩, ⟨20, .phase⟩, ⟨21, .phase⟩, ⟨22, .phase⟩, ⟨23, .phase⟩, ⟨24, .phase⟩, ⟨25, .phase⟩, ⟨26, .phase⟩, ⟨27, .phase⟩, ⟨28, .phase⟩, ⟨29, .phase⟩, ⟨30, .phase⟩, ⟨31, .phase⟩, ⟨32, .phase⟩, ⟨33, .textOnly .lateStores⟩, ⟨34, .textOnly .lateStores⟩, ⟨35, .phase⟩, ⟨36, .phase⟩, ⟨37, .phase⟩, ⟨38, .textOnly .lateStoresUnsure⟩, ⟨39, .textOnly .lateStoresUnsure⟩, ⟨40, .textOnly .lateStores⟩, ⟨41, .textOnly .lateStores⟩, ⟨42, .textOnly .lateStores⟩, ⟨43, .textOnly .lateStores⟩, ⟨44, .phase⟩, ⟨45, .phase⟩], guard := none }) (v := .int .u32 (U (Aes.mix (Aes.pick s.r s.t s.p s.q) ^^^ ws.getD (at_ + 2) 0))) rfl (fun wx hS => ?_) hH ?_
        · go_simp
        refine tk (i := 47) (oi := { dst := some 10, op := Op.assign (Operand.tmp 113), type := 131, pos := "key.go:58", after := #[⟨43, .data⟩, ⟨46, .chain⟩, ⟨0, .phase⟩, ⟨1, .phase⟩, ⟨2, .phase⟩, ⟨3, .phase⟩, ⟨4, .phase⟩, ⟨5, .phase⟩, ⟨6, .phase⟩, ⟨7, .phase⟩, ⟨8, .phase⟩, ⟨9, .phase⟩, ⟨10, .phase⟩, ⟨11, .phase⟩, ⟨12, .phase⟩, ⟨13, .phase⟩, ⟨14, .phase⟩, ⟨15, .phase⟩, ⟨16, .phase⟩, ⟨17, .phase⟩, ⟨18, .phase⟩, ⟨19, .phase⟩, ⟨20, .phase⟩, ⟨21, .phase⟩, ⟨22, .phase⟩, ⟨23, .phase⟩, ⟨24, .phase⟩, ⟨25, .phase⟩, ⟨26, .phase⟩, ⟨27, .phase⟩, ⟨28, .phase⟩, ⟨29, .phase⟩, ⟨30, .phase⟩, ⟨31, .phase⟩, ⟨32, .phase⟩, ⟨33, .phase⟩, ⟨34, .phase⟩, ⟨35, .phase⟩, ⟨36, .phase⟩, ⟨37, .phase⟩, ⟨38, .phase⟩, ⟨39, .phase⟩, ⟨40, .phase⟩, ⟨41, .phase⟩, ⟨42, .phase⟩, ⟨43, .phase⟩, ⟨44, .phase⟩, ⟨45, .phase⟩, ⟨46, .phase⟩], guard := none }) (v := .int .u32 (U (Aes.mix (Aes.pick s.t s.p s.q s.r) ^^^ ws.getD (at_ + 3) 0))) rfl (fun wx hS => ?_) hH ?_
        · go_simp
        refine wpAnyH_done (by kernel_rfl) ?_ _
        refine NoPanic.normal ?_
        go_wp2_with fail
        go_roundw
        case rel =>
          repeat apply Exists.intro
          refine And.intro ?rr ?ee
          case ee => repeat (first | exact rfl | refine And.intro rfl ?_)
          case rr => exact ⟨n + 1, by omega, by congr 1; omega, by rw [HR.out]; rfl, by rw [HR.out]; rfl, by rw [HR.out]; rfl, by rw [HR.out]; rfl, hH⟩
        case measure => simp [intOf]; omega
      · obtain rfl : n = 13 := by omega
        generalize Aes.rounds ws 13 s0 = s at *
        go_wp2_with fail
        refine (pick_any g _ _ _ _ _ H2.out.box).mono ?_
        rintro e y0 ⟨rfl, kk⟩
        have I0 := Lib.hid (H2.out.below kk)
        clear kk H2
        go_wp2_with fail
        refine (pick_any g _ _ _ _ _ I0.out.box).mono ?_
        rintro e y1 ⟨rfl, kk⟩
        have I1 := Lib.hid (I0.out.below kk)
        clear kk I0
        go_wp2_with fail
        refine (pick_any g _ _ _ _ _ I1.out.box).mono ?_
        rintro e y2 ⟨rfl, kk⟩
        have I2 := Lib.hid (I1.out.below kk)
        clear kk I1
        go_wp2_with fail
        refine (pick_any g _ _ _ _ _ I2.out.box).mono ?_
        rintro e y3 ⟨rfl, kk⟩
        have I3 := Lib.hid (I2.out.below kk)
        clear kk I2
        have HF : Hid (Aes.last ws s = ⟨Aes.pick s.p s.q s.r s.t ^^^ ws.getD 56 0, Aes.pick s.q s.r s.t s.p ^^^ ws.getD 57 0, Aes.pick s.r s.t s.p s.q ^^^ ws.getD 58 0, Aes.pick s.t s.p s.q s.r ^^^ ws.getD 59 0⟩) := Lib.hid rfl
        generalize Aes.last ws s = f at *
        generalize Aes.pick s.p s.q s.r s.t = fp at *
        generalize Aes.pick s.q s.r s.t s.p = fq at *
        generalize Aes.pick s.r s.t s.p s.q = fr at *
        generalize Aes.pick s.t s.p s.q s.r = ft at *
        have hb := build66 (U fp) (U fq) (U fr) (U ft)
        have x0 : ∀ X, (Instr.index 193 (.agg #[.int .u32 (U fp), .int .u32 (U fq), .int .u32 (U fr), .int .u32 (U ft)]) (.int .i64 0)).run Tryd.prog X = .ok (.int .u32 (U fp)) X := fun X => by kernel_rfl
        have x1 : ∀ X, (Instr.index 193 (.agg #[.int .u32 (U fp), .int .u32 (U fq), .int .u32 (U fr), .int .u32 (U ft)]) (.int .i64 1)).run Tryd.prog X = .ok (.int .u32 (U fq)) X := fun X => by kernel_rfl
        have x2 : ∀ X, (Instr.index 193 (.agg #[.int .u32 (U fp), .int .u32 (U fq), .int .u32 (U fr), .int .u32 (U ft)]) (.int .i64 2)).run Tryd.prog X = .ok (.int .u32 (U fr)) X := fun X => by kernel_rfl
        have x3 : ∀ X, (Instr.index 193 (.agg #[.int .u32 (U fp), .int .u32 (U fq), .int .u32 (U fr), .int .u32 (U ft)]) (.int .i64 3)).run Tryd.prog X = .ok (.int .u32 (U ft)) X := fun X => by kernel_rfl
        obtain ⟨L4, hL4⟩ : ∃ L4 : List Value, L4 = [.int .u32 (U fp), .int .u32 (U fq), .int .u32 (U fr), .int .u32 (U ft)] := ⟨_, rfl⟩
        have HL4 : Hid (L4.length = 4) := Lib.hid (by rw [hL4]; rfl)
        have HO4 : Hid (∀ v ∈ L4, v.oneCell' = true) := Lib.hid (by rw [hL4]; simp [Value.oneCell'])
        rw [show (#[.int .u32 (U fp), .int .u32 (U fq), .int .u32 (U fr), .int .u32 (U ft)] : Array Value) = L4.toArray by rw [hL4]] at x0 x1 x2 x3
        have hb : ∀ X, (Instr.build 193 #[(0, .int .u32 (U fp)), (1, .int .u32 (U fq)), (2, .int .u32 (U fr)), (3, .int .u32 (U ft))]).run Tryd.prog X = .ok (.agg L4.toArray) X := fun X => by rw [hb X, hL4]
        have X0 := Lib.hid x0
        have X1 := Lib.hid x1
        have X2 := Lib.hid x2
        have X3 := Lib.hid x3
        have HBD := Lib.hid hb
        clear hL4 hb x0 x1 x2 x3
        go_wp2_with (first | (refine wpList_build rfl 193 _ rfl _ _ (HBD.out _) rfl ?_) | (refine wpList_store_block rfl 193 _ _ rfl B2 0 L4 rfl rfl sv 193 I3.out.2.2.2.2 (by rw [infoFour, HL4.out]) (by rw [HSV.out, HL4.out]; decide) HO4.out ?_))
        intro w8 h1 h2 h3
        have h1 := h1.out
        rw [splice_all _ _ (by rw [HSV.out, HL4.out])] at h1
        have R8 := Lib.hid (range_of h1)
        have I8 := Lib.hid (tout.of_tinv I3.out h2.out HN.out)
        clear h1 h2 h3 I3
        go_wp2_with (refine wpList_load_mid rfl 193 _ rfl B2 0 rfl L4 _ R8.out Tryd.underlying193 rfl (by rw [infoFour, HL4.out]) ?_)
        go_loopw [140] (fun i wr => ∃ k : Nat, k ≤ 4 ∧ i = .int .i64 k ∧ tout w g ws (outB f b k) wr) (fun i _ => 4 - (intOf i).toNat)
        case atStart => exact ⟨0, by omega, rfl, I8.out⟩
        case round =>
          obtain ⟨k, hk, rfl, h4⟩ := hrel
          have H4 := Lib.hid h4
          clear h4
          have HB16 : Hid ((outB f b k).length = 16) := Lib.hid (by rw [outB_length, HBL.out])
          have hk5 : k = 0 ∨ k = 1 ∨ k = 2 ∨ k = 3 ∨ k = 4 := by omega
          rcases hk5 with rfl | rfl | rfl | rfl | rfl
          ·
            obtain ⟨ek, hek⟩ : ∃ ek, ek = ws.getD 56 0 := ⟨_, rfl⟩
            have kw : wr.cell? ⟨g, 256 + 56, none⟩ = some (.int .u32 (U ek)) := by rw [H4.out.2.1.cell, hek]; exact keyRow_get ws 56 (by decide)
            have HEK : Hid (fp ^^^ ek = stAt f 0) := Lib.hid (by rw [HF.out, hek]; rfl)
            clear hek
            have xx := X0.out
            clear X0 X1 X2 X3 HBD HL4 HO4 HSV HN HS0 R8 I8
            go_upto_region 20 with fail
            rw [HEK.out]
            have HSE : Hid (outB f b (0 + 1) = ((((outB f b 0).set 0 (Aes.byteOf (stAt f 0) 24)).set 1 (Aes.byteOf (stAt f 0) 16)).set 2 (Aes.byteOf (stAt f 0) 8)).set 3 (Aes.byteOf (stAt f 0) 0)) := Lib.hid rfl
            clear kw HEK xx
            generalize stAt f 0 = v at *
            have T0 := H4
            generalize outB f b 0 = l0 at *
            clear H4
            go_wp2_with (refine wpList_store_cell rfl 5 _ _ rfl w.heap.size 0 (.int .u8 (V (Aes.byteOf v 24))) rfl rfl (byteCells l0) 106 T0.out.2.2.1 (by rw [byteCells_length, HB16.out]; decide) (by kernel_rfl) rfl rfl ?_)
            intro w20 h1 h2 h3
            have h1 := h1.out
            rw [byteCells_set] at h1
            have T1 := Lib.hid (tout.but T0.out h2.out HGL.out h1)
            have HB16 : Hid ((l0.set 0 (Aes.byteOf v 24)).length = 16) := Lib.hid (by rw [List.length_set]; exact HB16.out)
            clear h1 h2 h3 T0
            generalize l0.set 0 (Aes.byteOf v 24) = l1 at *
            go_wp2_with (refine wpList_store_cell rfl 5 _ _ rfl w.heap.size 1 (.int .u8 (V (Aes.byteOf v 16))) rfl rfl (byteCells l1) 106 T1.out.2.2.1 (by rw [byteCells_length, HB16.out]; decide) (by kernel_rfl) rfl rfl ?_)
            intro w21 h1 h2 h3
            have h1 := h1.out
            rw [byteCells_set] at h1
            have T2 := Lib.hid (tout.but T1.out h2.out HGL.out h1)
            have HB16 : Hid ((l1.set 1 (Aes.byteOf v 16)).length = 16) := Lib.hid (by rw [List.length_set]; exact HB16.out)
            clear h1 h2 h3 T1
            generalize l1.set 1 (Aes.byteOf v 16) = l2 at *
            go_wp2_with (refine wpList_store_cell rfl 5 _ _ rfl w.heap.size 2 (.int .u8 (V (Aes.byteOf v 8))) rfl rfl (byteCells l2) 106 T2.out.2.2.1 (by rw [byteCells_length, HB16.out]; decide) (by kernel_rfl) rfl rfl ?_)
            intro w22 h1 h2 h3
            have h1 := h1.out
            rw [byteCells_set] at h1
            have T3 := Lib.hid (tout.but T2.out h2.out HGL.out h1)
            have HB16 : Hid ((l2.set 2 (Aes.byteOf v 8)).length = 16) := Lib.hid (by rw [List.length_set]; exact HB16.out)
            clear h1 h2 h3 T2
            generalize l2.set 2 (Aes.byteOf v 8) = l3 at *
            go_wp2_with (refine wpList_store_cell rfl 5 _ _ rfl w.heap.size 3 (.int .u8 (V (Aes.byteOf v 0))) rfl rfl (byteCells l3) 106 T3.out.2.2.1 (by rw [byteCells_length, HB16.out]; decide) (by kernel_rfl) rfl rfl ?_)
            intro w23 h1 h2 h3
            have h1 := h1.out
            rw [byteCells_set] at h1
            have T4 := Lib.hid (tout.but T3.out h2.out HGL.out h1)
            have HB16 : Hid ((l3.set 3 (Aes.byteOf v 0)).length = 16) := Lib.hid (by rw [List.length_set]; exact HB16.out)
            clear h1 h2 h3 T3
            generalize l3.set 3 (Aes.byteOf v 0) = l4 at *
            go_wp2_with fail
            go_roundw
            case rel => exact ⟨0 + 1, by omega, by go_num, by rw [HSE.out]; exact T4.out⟩
            case measure => simp [intOf]
          ·
            obtain ⟨ek, hek⟩ : ∃ ek, ek = ws.getD 57 0 := ⟨_, rfl⟩
            have kw : wr.cell? ⟨g, 256 + 57, none⟩ = some (.int .u32 (U ek)) := by rw [H4.out.2.1.cell, hek]; exact keyRow_get ws 57 (by decide)
            have HEK : Hid (fq ^^^ ek = stAt f 1) := Lib.hid (by rw [HF.out, hek]; rfl)
            clear hek
            have xx := X1.out
            clear X0 X1 X2 X3 HBD HL4 HO4 HSV HN HS0 R8 I8
            go_upto_region 20 with fail
            rw [HEK.out]
            have HSE : Hid (outB f b (1 + 1) = ((((outB f b 1).set 4 (Aes.byteOf (stAt f 1) 24)).set 5 (Aes.byteOf (stAt f 1) 16)).set 6 (Aes.byteOf (stAt f 1) 8)).set 7 (Aes.byteOf (stAt f 1) 0)) := Lib.hid rfl
            clear kw HEK xx
            generalize stAt f 1 = v at *
            have T0 := H4
            generalize outB f b 1 = l0 at *
            clear H4
            go_wp2_with (refine wpList_store_cell rfl 5 _ _ rfl w.heap.size 4 (.int .u8 (V (Aes.byteOf v 24))) rfl rfl (byteCells l0) 106 T0.out.2.2.1 (by rw [byteCells_length, HB16.out]; decide) (by kernel_rfl) rfl rfl ?_)
            intro w20 h1 h2 h3
            have h1 := h1.out
            rw [byteCells_set] at h1
            have T1 := Lib.hid (tout.but T0.out h2.out HGL.out h1)
            have HB16 : Hid ((l0.set 4 (Aes.byteOf v 24)).length = 16) := Lib.hid (by rw [List.length_set]; exact HB16.out)
            clear h1 h2 h3 T0
            generalize l0.set 4 (Aes.byteOf v 24) = l1 at *
            go_wp2_with (refine wpList_store_cell rfl 5 _ _ rfl w.heap.size 5 (.int .u8 (V (Aes.byteOf v 16))) rfl rfl (byteCells l1) 106 T1.out.2.2.1 (by rw [byteCells_length, HB16.out]; decide) (by kernel_rfl) rfl rfl ?_)
            intro w21 h1 h2 h3
            have h1 := h1.out
            rw [byteCells_set] at h1
            have T2 := Lib.hid (tout.but T1.out h2.out HGL.out h1)
            have HB16 : Hid ((l1.set 5 (Aes.byteOf v 16)).length = 16) := Lib.hid (by rw [List.length_set]; exact HB16.out)
            clear h1 h2 h3 T1
            generalize l1.set 5 (Aes.byteOf v 16) = l2 at *
            go_wp2_with (refine wpList_store_cell rfl 5 _ _ rfl w.heap.size 6 (.int .u8 (V (Aes.byteOf v 8))) rfl rfl (byteCells l2) 106 T2.out.2.2.1 (by rw [byteCells_length, HB16.out]; decide) (by kernel_rfl) rfl rfl ?_)
            intro w22 h1 h2 h3
            have h1 := h1.out
            rw [byteCells_set] at h1
            have T3 := Lib.hid (tout.but T2.out h2.out HGL.out h1)
            have HB16 : Hid ((l2.set 6 (Aes.byteOf v 8)).length = 16) := Lib.hid (by rw [List.length_set]; exact HB16.out)
            clear h1 h2 h3 T2
            generalize l2.set 6 (Aes.byteOf v 8) = l3 at *
            go_wp2_with (refine wpList_store_cell rfl 5 _ _ rfl w.heap.size 7 (.int .u8 (V (Aes.byteOf v 0))) rfl rfl (byteCells l3) 106 T3.out.2.2.1 (by rw [byteCells_length, HB16.out]; decide) (by kernel_rfl) rfl rfl ?_)
            intro w23 h1 h2 h3
            have h1 := h1.out
            rw [byteCells_set] at h1
            have T4 := Lib.hid (tout.but T3.out h2.out HGL.out h1)
            have HB16 : Hid ((l3.set 7 (Aes.byteOf v 0)).length = 16) := Lib.hid (by rw [List.length_set]; exact HB16.out)
            clear h1 h2 h3 T3
            generalize l3.set 7 (Aes.byteOf v 0) = l4 at *
            go_wp2_with fail
            go_roundw
            case rel => exact ⟨1 + 1, by omega, by go_num, by rw [HSE.out]; exact T4.out⟩
            case measure => simp [intOf]
          ·
            obtain ⟨ek, hek⟩ : ∃ ek, ek = ws.getD 58 0 := ⟨_, rfl⟩
            have kw : wr.cell? ⟨g, 256 + 58, none⟩ = some (.int .u32 (U ek)) := by rw [H4.out.2.1.cell, hek]; exact keyRow_get ws 58 (by decide)
            have HEK : Hid (fr ^^^ ek = stAt f 2) := Lib.hid (by rw [HF.out, hek]; rfl)
            clear hek
            have xx := X2.out
            clear X0 X1 X2 X3 HBD HL4 HO4 HSV HN HS0 R8 I8
            go_upto_region 20 with fail
            rw [HEK.out]
            have HSE : Hid (outB f b (2 + 1) = ((((outB f b 2).set 8 (Aes.byteOf (stAt f 2) 24)).set 9 (Aes.byteOf (stAt f 2) 16)).set 10 (Aes.byteOf (stAt f 2) 8)).set 11 (Aes.byteOf (stAt f 2) 0)) := Lib.hid rfl
            clear kw HEK xx
            generalize stAt f 2 = v at *
            have T0 := H4
            generalize outB f b 2 = l0 at *
            clear H4
            go_wp2_with (refine wpList_store_cell rfl 5 _ _ rfl w.heap.size 8 (.int .u8 (V (Aes.byteOf v 24))) rfl rfl (byteCells l0) 106 T0.out.2.2.1 (by rw [byteCells_length, HB16.out]; decide) (by kernel_rfl) rfl rfl ?_)
            intro w20 h1 h2 h3
            have h1 := h1.out
            rw [byteCells_set] at h1
            have T1 := Lib.hid (tout.but T0.out h2.out HGL.out h1)
            have HB16 : Hid ((l0.set 8 (Aes.byteOf v 24)).length = 16) := Lib.hid (by rw [List.length_set]; exact HB16.out)
            clear h1 h2 h3 T0
            generalize l0.set 8 (Aes.byteOf v 24) = l1 at *
            go_wp2_with (refine wpList_store_cell rfl 5 _ _ rfl w.heap.size 9 (.int .u8 (V (Aes.byteOf v 16))) rfl rfl (byteCells l1) 106 T1.out.2.2.1 (by rw [byteCells_length, HB16.out]; decide) (by kernel_rfl) rfl rfl ?_)
            intro w21 h1 h2 h3
            have h1 := h1.out
            rw [byteCells_set] at h1
            have T2 := Lib.hid (tout.but T1.out h2.out HGL.out h1)
            have HB16 : Hid ((l1.set 9 (Aes.byteOf v 16)).length = 16) := Lib.hid (by rw [List.length_set]; exact HB16.out)
            clear h1 h2 h3 T1
            generalize l1.set 9 (Aes.byteOf v 16) = l2 at *
            go_wp2_with (refine wpList_store_cell rfl 5 _ _ rfl w.heap.size 10 (.int .u8 (V (Aes.byteOf v 8))) rfl rfl (byteCells l2) 106 T2.out.2.2.1 (by rw [byteCells_length, HB16.out]; decide) (by kernel_rfl) rfl rfl ?_)
            intro w22 h1 h2 h3
            have h1 := h1.out
            rw [byteCells_set] at h1
            have T3 := Lib.hid (tout.but T2.out h2.out HGL.out h1)
            have HB16 : Hid ((l2.set 10 (Aes.byteOf v 8)).length = 16) := Lib.hid (by rw [List.length_set]; exact HB16.out)
            clear h1 h2 h3 T2
            generalize l2.set 10 (Aes.byteOf v 8) = l3 at *
            go_wp2_with (refine wpList_store_cell rfl 5 _ _ rfl w.heap.size 11 (.int .u8 (V (Aes.byteOf v 0))) rfl rfl (byteCells l3) 106 T3.out.2.2.1 (by rw [byteCells_length, HB16.out]; decide) (by kernel_rfl) rfl rfl ?_)
            intro w23 h1 h2 h3
            have h1 := h1.out
            rw [byteCells_set] at h1
            have T4 := Lib.hid (tout.but T3.out h2.out HGL.out h1)
            have HB16 : Hid ((l3.set 11 (Aes.byteOf v 0)).length = 16) := Lib.hid (by rw [List.length_set]; exact HB16.out)
            clear h1 h2 h3 T3
            generalize l3.set 11 (Aes.byteOf v 0) = l4 at *
            go_wp2_with fail
            go_roundw
            case rel => exact ⟨2 + 1, by omega, by go_num, by rw [HSE.out]; exact T4.out⟩
            case measure => simp [intOf]
          ·
            obtain ⟨ek, hek⟩ : ∃ ek, ek = ws.getD 59 0 := ⟨_, rfl⟩
            have kw : wr.cell? ⟨g, 256 + 59, none⟩ = some (.int .u32 (U ek)) := by rw [H4.out.2.1.cell, hek]; exact keyRow_get ws 59 (by decide)
            have HEK : Hid (ft ^^^ ek = stAt f 3) := Lib.hid (by rw [HF.out, hek]; rfl)
            clear hek
            have xx := X3.out
            clear X0 X1 X2 X3 HBD HL4 HO4 HSV HN HS0 R8 I8
            go_upto_region 20 with fail
            rw [HEK.out]
            have HSE : Hid (outB f b (3 + 1) = ((((outB f b 3).set 12 (Aes.byteOf (stAt f 3) 24)).set 13 (Aes.byteOf (stAt f 3) 16)).set 14 (Aes.byteOf (stAt f 3) 8)).set 15 (Aes.byteOf (stAt f 3) 0)) := Lib.hid rfl
            clear kw HEK xx
            generalize stAt f 3 = v at *
            have T0 := H4
            generalize outB f b 3 = l0 at *
            clear H4
            go_wp2_with (refine wpList_store_cell rfl 5 _ _ rfl w.heap.size 12 (.int .u8 (V (Aes.byteOf v 24))) rfl rfl (byteCells l0) 106 T0.out.2.2.1 (by rw [byteCells_length, HB16.out]; decide) (by kernel_rfl) rfl rfl ?_)
            intro w20 h1 h2 h3
            have h1 := h1.out
            rw [byteCells_set] at h1
            have T1 := Lib.hid (tout.but T0.out h2.out HGL.out h1)
            have HB16 : Hid ((l0.set 12 (Aes.byteOf v 24)).length = 16) := Lib.hid (by rw [List.length_set]; exact HB16.out)
            clear h1 h2 h3 T0
            generalize l0.set 12 (Aes.byteOf v 24) = l1 at *
            go_wp2_with (refine wpList_store_cell rfl 5 _ _ rfl w.heap.size 13 (.int .u8 (V (Aes.byteOf v 16))) rfl rfl (byteCells l1) 106 T1.out.2.2.1 (by rw [byteCells_length, HB16.out]; decide) (by kernel_rfl) rfl rfl ?_)
            intro w21 h1 h2 h3
            have h1 := h1.out
            rw [byteCells_set] at h1
            have T2 := Lib.hid (tout.but T1.out h2.out HGL.out h1)
            have HB16 : Hid ((l1.set 13 (Aes.byteOf v 16)).length = 16) := Lib.hid (by rw [List.length_set]; exact HB16.out)
            clear h1 h2 h3 T1
            generalize l1.set 13 (Aes.byteOf v 16) = l2 at *
            go_wp2_with (refine wpList_store_cell rfl 5 _ _ rfl w.heap.size 14 (.int .u8 (V (Aes.byteOf v 8))) rfl rfl (byteCells l2) 106 T2.out.2.2.1 (by rw [byteCells_length, HB16.out]; decide) (by kernel_rfl) rfl rfl ?_)
            intro w22 h1 h2 h3
            have h1 := h1.out
            rw [byteCells_set] at h1
            have T3 := Lib.hid (tout.but T2.out h2.out HGL.out h1)
            have HB16 : Hid ((l2.set 14 (Aes.byteOf v 8)).length = 16) := Lib.hid (by rw [List.length_set]; exact HB16.out)
            clear h1 h2 h3 T2
            generalize l2.set 14 (Aes.byteOf v 8) = l3 at *
            go_wp2_with (refine wpList_store_cell rfl 5 _ _ rfl w.heap.size 15 (.int .u8 (V (Aes.byteOf v 0))) rfl rfl (byteCells l3) 106 T3.out.2.2.1 (by rw [byteCells_length, HB16.out]; decide) (by kernel_rfl) rfl rfl ?_)
            intro w23 h1 h2 h3
            have h1 := h1.out
            rw [byteCells_set] at h1
            have T4 := Lib.hid (tout.but T3.out h2.out HGL.out h1)
            have HB16 : Hid ((l3.set 15 (Aes.byteOf v 0)).length = 16) := Lib.hid (by rw [List.length_set]; exact HB16.out)
            clear h1 h2 h3 T3
            generalize l3.set 15 (Aes.byteOf v 0) = l4 at *
            go_wp2_with fail
            go_roundw
            case rel => exact ⟨3 + 1, by omega, by go_num, by rw [HSE.out]; exact T4.out⟩
            case measure => simp [intOf]
          ·
            have hh := H4.out
            rw [outB_all f b HBL.out, ← HO.out] at hh
            have HL : Hid ((byteCells out).length = 16) := Lib.hid (by rw [byteCells_length, HO.out]; rfl)
            have H5 := Lib.hid hh
            have R5 := Lib.hid (range_of hh.2.2.1)
            clear hh H4 HB16
            go_wp2_with (first | (refine wpList_load_mid rfl 106 _ rfl w.heap.size 0 rfl (byteCells out) _ R5.out Tryd.underlying106 rfl (by rw [infoBlk, HL.out]) ?_) | (refine wpList_store_block rfl 106 _ _ rfl (w.heap.size + 1) 0 (byteCells out) rfl rfl (zeros 16) 106 H5.out.2.2.2 (by rw [infoBlk, HL.out]) (by rw [HL.out]; decide) (byteCells_one _) ?_))
            intro w9 h1 h2 h3
            have h1 := h1.out
            rw [splice_all _ _ (by rw [HL.out]; rfl)] at h1
            have F1 := Lib.hid h1
            have F2 := Lib.hid (H5.out.1.trans (h2.out.below (Nat.le_succ _) H5.out.1.size))
            clear h1 h2 h3
            go_wp2_with fail
            refine bodyPost_ret (v := .agg (byteCells out).toArray) (results_cell_row rfl _ _ (w.heap.size + 1) 106 _ (0, 0) _ rfl F1.out Tryd.underlying106 rfl (by rw [infoBlk]; simp [HL.out])) rfl ?_
            exact ⟨rfl, F2.out⟩
end Go.Proofs.YtfhlcondnaahiaaDoor.Ci
end
