/- (pack.Writer).take. -/
import Derived.Test.YtfhlcondnaahiaaDoorTk
import Derived.Test.YtfhlcondnaahiaaDoorPk
import Derived.Test.YtfhlcondnaahiaaDoorGf
import Derived.Test.YtfhlcondnaahiaaDoorGg
import Derived.Test.YtfhlcondnaahiaaDoorIdd
namespace Go.Proofs.YtfhlcondnaahiaaDoor
open Go.RowKit Sha

def tkF (wb : Nat) (v1 v2 : Value) (gm : Option Nat) (k : Nat) : Prop := k = wb ∨ v1.ownBlock = some k ∨ v2.ownBlock = some k ∨ gm = some k
theorem eql_set_nil (w : World) (p : Option Nat) : (binOp .eql 78 (.map p) (.map none)).run Tryd.prog w = .ok (.bool p.isNone) w :=
  run_eql_map_nil w _ _ _ p Tryd.underlying78
theorem unit_at (w : World) : (Instr.build 81 #[]).run Tryd.prog w = .ok (.agg #[]) w := by kernel_rfl
theorem own_cell {w : World} {base n sz : Nat} {t : TypeId} {v : Value} {xs : List Value} (h : Hid (w.ownsRow base t sz v n xs)) : v.oneCell' = true ∧ v.cells = #[v] := by
  rcases h.out.2 with ⟨rfl, -⟩ | ⟨g, cap, cur, rfl, -⟩ <;> exact ⟨rfl, rfl⟩
theorem byteCells_append (a b : List UInt8) : byteCells (a ++ b) = byteCells a ++ byteCells b := by simp [byteCells]
/-- Two rows of one's own of two types lie apart. -/
theorem row_row {w : World} {b1 b2 s1 s2 n1 n2 : Nat} {e1 e2 : TypeId} {v u : Value} {xs ys : List Value} (h : w.ownsRow b1 e1 s1 v n1 xs) (h2 : w.ownsRow b2 e2 s2 u n2 ys) (hne : e2 ≠ e1) (k : Nat) (hk : u.ownBlock = some k) : v.ownBlock ≠ some k := by
  rcases h2.2 with ⟨rfl, h0⟩ | ⟨q, cap, cur, rfl, hba, hh, hn, hc, hs, ht⟩
  · cases hk
  · simp only [Value.ownBlock] at hk
    cases hk
    exact row_type h hh hne

/-- What take holds on its way. -/
structure TkS (X : World) (wb base : Nat) (PC : List Value) (f1 f2 r1 r2 : Value) (g : Nat) (B : List UInt8) (L : List En) (M : List (List UInt8)) (bs : Nat) (bv : Value) (T : List UInt8) (xb : Nat) (XC : List Value) : Prop where
  i : blockIs X wb (PC ++ [f1, f2, .map (some g)]) 80
  a : X.ownsRow base 5 1 r1 B.length (byteCells B)
  e : X.ownsRow base 66 35 r2 L.length (enCells L)
  s : setIs X g M
  b : X.ownsRow bs 5 1 bv T.length (byteCells T)
  x : blockIs X xb XC 66
  nx : r2.ownBlock ≠ some xb
  nb : ∀ k, bv.ownBlock = some k → r1.ownBlock ≠ some k
section
variable {X Y : World} {wb base : Nat} {PC : List Value} {f1 f2 r1 r2 : Value} {g : Nat} {B : List UInt8} {L : List En} {M : List (List UInt8)} {bs : Nat} {bv : Value} {T : List UInt8} {xb : Nat} {x : List Value}
theorem TkS.below (h : TkS X wb base PC f1 f2 r1 r2 g B L M bs bv T xb x) (k : Below X.heap.size X Y) : TkS Y wb base PC f1 f2 r1 r2 g B L M bs bv T xb x := by
  have k : Kp (fun _ => False) X Y := Kp.below k
  exact ⟨k.is h.i id, row_kp h.a k fun _ _ => id, row_kp h.e k fun _ _ => id, set_kp h.s k id, row_kp h.b k fun _ _ => id, k.is h.x id, h.nx, h.nb⟩
theorem TkS.put (h : TkS X wb base PC f1 f2 r1 r2 g B L M bs bv T xb x) {M' : List (List UInt8)} (k : But g X Y) (hs : setIs Y g M') : TkS Y wb base PC f1 f2 r1 r2 g B L M' bs bv T xb x := by
  have k : Kp (fun i => i = g) X Y := Kp.but k (Or.inl rfl)
  exact ⟨k.is h.i fun q => h.s.ne_cells h.i q.symm, row_kp h.a k fun i hi q => row_map h.a h.s (q ▸ hi), row_kp h.e k fun i hi q => row_map h.e h.s (q ▸ hi), hs, row_kp h.b k fun i hi q => row_map h.b h.s (q ▸ hi), k.is h.x fun q => h.s.ne_cells h.x q.symm, h.nx, h.nb⟩
theorem TkS.app2 (h : TkS X wb base PC f1 f2 r1 r2 g B L M bs bv T xb x) {r : Value} {L' : List En} (hg : X.grownBy Y r2.ownBlock) (hr : Y.ownsRow base 66 35 r L'.length (enCells L')) (hat : r.ownBlock = r2.ownBlock ∨ r.ownBlock = some X.heap.size) : TkS Y wb base PC f1 f2 r1 r g B L' M bs bv T xb x := by
  have k : Kp (fun i => r2.ownBlock = some i) X Y := Kp.grown hg fun _ q => Or.inl q
  refine ⟨k.is h.i fun q => row_type h.e h.i (by decide) q, row_kp h.a k fun i hi q => row_row h.e h.a (by decide) i hi q, hr, set_kp h.s k fun q => row_map h.e h.s q, row_kp h.b k fun i hi q => row_row h.e h.b (by decide) i hi q, k.is h.x h.nx, ?_, h.nb⟩
  rcases hat with q | q
  · rw [q]; exact h.nx
  · rw [q]; intro q; cases q; exact Nat.lt_irrefl _ h.x.lt
theorem TkS.set2 (h : TkS X wb base PC f1 f2 r1 r2 g B L M bs bv T xb x) {z : Value} (k : But wb X Y) (hi : blockIs Y wb (PC ++ [f1, z, .map (some g)]) 80) (hne : xb ≠ wb) : TkS Y wb base PC f1 z r1 r2 g B L M bs bv T xb x := by
  have k : Kp (fun i => i = wb) X Y := Kp.but k (Or.inl rfl)
  exact ⟨hi, row_kp h.a k fun i hi q => row_type h.a h.i (by decide) (q ▸ hi), row_kp h.e k fun i hi q => row_type h.e h.i (by decide) (q ▸ hi), set_kp h.s k fun q => h.s.ne_cells h.i q, row_kp h.b k fun i hi q => row_type h.b h.i (by decide) (q ▸ hi), k.is h.x hne, h.nx, h.nb⟩
theorem TkS.app1 (h : TkS X wb base PC f1 f2 r1 r2 g B L M bs bv T xb x) {r : Value} {B' : List UInt8} (hg : X.grownBy Y r1.ownBlock) (hr : Y.ownsRow base 5 1 r B'.length (byteCells B')) :
    blockIs Y wb (PC ++ [f1, f2, .map (some g)]) 80 ∧ Y.ownsRow base 5 1 r B'.length (byteCells B') ∧ Y.ownsRow base 66 35 r2 L.length (enCells L) ∧ setIs Y g M := by
  have k : Kp (fun i => r1.ownBlock = some i) X Y := Kp.grown hg fun _ q => Or.inl q
  exact ⟨k.is h.i fun q => row_type h.a h.i (by decide) q, hr, row_kp h.e k fun i hi q => row_row h.a h.e (by decide) i hi q, set_kp h.s k fun q => row_map h.a h.s q⟩
end

set_option maxRecDepth 100000 in
set_option maxHeartbeats 8000000 in
theorem tk_any (wb base : Nat) (PC : List Value) (v1 v2 : Value) (gm : Option Nat) (B : List UInt8) (L : List En) (x : En) (bv : Value) (bs : Nat) (s0 : UInt8) (S : List UInt8) (w : World)
    (hPC : PC.length = 97) (hI : blockIs w wb (PC ++ [v1, v2, .map gm]) 80) (h1 : w.ownsRow base 5 1 v1 B.length (byteCells B)) (h2 : w.ownsRow base 66 35 v2 L.length (enCells L)) (hs : (gm = none ∧ L = []) ∨ ∃ g, gm = some g ∧ base ≤ g ∧ setIs w g (L.map En.id)) (hx : x.ok) (hni : x.id ∉ L.map En.id)
    (hb : w.ownsRow bs 5 1 bv (s0 :: S).length (byteCells (s0 :: S))) (hbv : ∀ k, bv.ownBlock = some k → v1.ownBlock ≠ some k) (hbase : base ≤ w.heap.size) (hL : L.length ≤ 10000) (hB : B.length + S.length ≤ 10000000) :
    Calls Tryd.prog 28 #[.pointer (some ⟨wb, 0, none⟩), .agg x.cells.toArray, bv] w fun e w' => e = .returned (.tuple #[]) ∧ ∃ u1 u2 g, blockIs w' wb (PC ++ [u1, u2, .map (some g)]) 80 ∧ w'.ownsRow base 5 1 u1 (B ++ s0 :: S).length (byteCells (B ++ s0 :: S)) ∧ w'.ownsRow base 66 35 u2 (L ++ [x]).length (enCells (L ++ [x])) ∧
      base ≤ g ∧ setIs w' g ((L ++ [x]).map En.id) ∧ Kp (tkF wb v1 v2 gm) w w' ∧ (∀ k, u1.ownBlock = some k → v1.ownBlock = some k ∨ w.heap.size ≤ k) ∧ (∀ k, u2.ownBlock = some k → v2.ownBlock = some k ∨ w.heap.size ≤ k) ∧ (gm = some g ∨ w.heap.size ≤ g) := by
  have hmm := @run_makeMap Tryd.prog
  have q := fun (w : World) (p : Option Nat) => eql_set_nil w p
  have PL := Lib.hid hPC
  have IDL := Lib.hid (show x.id.length = 32 from hx)
  obtain ⟨MM, hMM⟩ : ∃ MM, MM = L.map En.id := ⟨_, rfl⟩
  rw [← hMM] at hs hni
  have HM := Lib.hid hMM
  have NI := Lib.hid hni
  have LL := Lib.hid hL
  have BL := Lib.hid hB
  have HBS := Lib.hid hbase
  have hxl := En.len35 hx
  have XL := Lib.hid hxl
  have XC0 : Hid (∀ j u, (byteCells x.id)[j]? = some u → x.cells[j]? = some u) := Lib.hid (fun j u hj => by
    unfold En.cells
    rw [List.getElem?_append_left (List.getElem?_eq_some_iff.1 hj).1]
    exact hj)
  have WXB := Lib.hid (Nat.ne_of_gt hI.lt)
  have KA := Lib.hid (alloc_below w (.cells x.cells.toArray 66 (0, 0)))
  have XB0 := Lib.hid (blockIs.new w x.cells 66)
  have NX0 : Hid (v2.ownBlock ≠ some w.heap.size) := Lib.hid (fun e => by have := (h2.lt _ e).2; omega)
  have K0 : Hid (Kp (tkF wb v1 v2 gm) w (w.alloc (.cells x.cells.toArray 66 (0, 0)))) := Lib.hid (Kp.below KA.out)
  have I0 := Lib.hid (hI.alloc (.cells x.cells.toArray 66 (0, 0)))
  have A0 := Lib.hid (row_kp h1 (Kp.below (f := fun _ => False) KA.out) fun _ _ => id)
  have E0 := Lib.hid (row_kp h2 (Kp.below (f := fun _ => False) KA.out) fun _ _ => id)
  have B0 := Lib.hid (row_kp hb (Kp.below (f := fun _ => False) KA.out) fun _ _ => id)
  have HBV := Lib.hid hbv
  have SZ0 : Hid ((w.alloc (.cells x.cells.toArray 66 (0, 0))).heap.size = w.heap.size + 1) := Lib.hid (by simp)
  have HI := Lib.hid hI
  generalize hXC : En.cells x = XC at *
  have XCE := Lib.hid hXC.symm
  clear hPC hI h1 h2 hx hni hb hbv hbase hL hB hxl hXC hMM
  rcases hs with ⟨rfl, hL0⟩ | ⟨g, rfl, hgb, hs⟩
  · have c99 := get99 PL.out I0.out
    have f99 := I0.out.free 99
    have hlt := I0.out.lt
    have HL0 := Lib.hid hL0
    clear hL0
    go_enter Tryd.func28, Tryd.ntmps28
    go_upto_region 1 with fail
    generalize w.alloc (.cells XC.toArray 66 (0, 0)) = w1 at *
    generalize hwb : w.heap.size = xb at *
    have HW := Lib.hid hwb
    have HBW : Hid (base ≤ w.heap.size) := Lib.hid (by rw [hwb]; exact HBS.out)
    clear hwb
    go_wp2_with fail
    have I2 : Hid (blockIs ((w1.setCell ⟨wb, 99, none⟩ (.map (some w1.heap.size))).alloc (.map #[] 0)) wb (PC ++ [v1, v2, .map (some w1.heap.size)]) 80) := Lib.hid (by have := (I0.out.set 99 (.map (some w1.heap.size))).alloc (.map #[] 0); rwa [set99 PL.out] at this)
    have KW : Hid (Kp (fun i => i = wb) w1 ((w1.setCell ⟨wb, 99, none⟩ (.map (some w1.heap.size))).alloc (.map #[] 0))) := Lib.hid (Kp.but (((But.refl wb w1).setCell ⟨wb, 99, none⟩ (.map (some w1.heap.size)) (Or.inl rfl)).trans (But.of_below (alloc_below _ _))) (Or.inl rfl))
    have es : (w1.setCell ⟨wb, 99, none⟩ (.map (some w1.heap.size))).heap.size = w1.heap.size := by simp
    have ST2 : Hid (setIs ((w1.setCell ⟨wb, 99, none⟩ (.map (some w1.heap.size))).alloc (.map #[] 0)) w1.heap.size []) := Lib.hid (by have := setIs.new (w1.setCell ⟨wb, 99, none⟩ (.map (some w1.heap.size))); rwa [es] at this)
    clear es c99 f99 hlt
    generalize (w1.setCell ⟨wb, 99, none⟩ (.map (some w1.heap.size))).alloc (.map #[] 0) = w2 at *
    generalize hgg : w1.heap.size = g at *
    have GX : Hid (xb < g) := Lib.hid (by rw [SZ0.out]; omega)
    have TS : Hid (TkS w2 wb base PC v1 v2 v1 v2 g B L MM bs bv (s0 :: S) xb XC) := Lib.hid ⟨I2.out, row_kp A0.out KW.out fun i hi q => row_type A0.out I0.out (by decide) (q ▸ hi), row_kp E0.out KW.out fun i hi q => row_type E0.out I0.out (by decide) (q ▸ hi), (by rw [HM.out, HL0.out]; exact ST2.out), row_kp B0.out KW.out fun i hi q => row_type B0.out I0.out (by decide) (q ▸ hi), KW.out.is XB0.out WXB.out, NX0.out, HBV.out⟩
    have KP : Hid (Kp (tkF wb v1 v2 none) w w2) := Lib.hid (K0.out.trans KW.out fun i hi => Or.inl (Or.inl hi))
    have GF : Hid (∀ i, i = g → tkF wb v1 v2 none i ∨ w.heap.size ≤ i) := Lib.hid (fun i hi => Or.inr (by rw [HW.out, hi]; exact Nat.le_of_lt GX.out))
    have GB : Hid (base ≤ g) := Lib.hid (Nat.le_trans HBS.out (Nat.le_of_lt GX.out))
    have GBX : Hid (xb ≤ g) := Lib.hid (Nat.le_of_lt GX.out)
    clear hgg I2 KW ST2 I0 A0 E0 B0 XB0 K0 KA SZ0 GX HI
    refine wp_region_noPanic ?_
    refine wp_region_held_drew (S := fun X => blockIs X wb (PC ++ [v1, v2, .map (some g)]) 80 ∧ blockIs X xb XC 66) (by kernel_rfl) ⟨TS.out.i.drewN 1, TS.out.x.drewN 1⟩ (fun hH => ?_)
    have TS3 := Lib.hid (TS.out.below (below_drew' (Below.refl _ _)))
    have KP3 := Lib.hid (KP.out.trans (Kp.below (f := fun _ => False) (below_drew' (Below.refl _ _))) (fun _ h => h.elim))
    clear TS KP
    generalize w2.drew = y0 at *
    refine tk (i := 0) (oi := { dst := some 15, op := Op.move (Operand.tmp 0), type := 27, pos := "writer.go:91", after := #[], guard := none }) (v := .pointer (some ⟨wb, 0, none⟩)) rfl (fun wx hS => ?_) hH ?_
    · go_simp
    refine tk (i := 1) (oi := { dst := some 16, op := Op.nilCheck (Operand.tmp 15), type := 0, pos := "writer.go:91", after := #[⟨0, .data⟩], guard := none }) (v := .pointer (some ⟨wb, 0, none⟩)) rfl (fun wx hS => ?_) hH ?_
    · go_simp
    refine tk (i := 2) (oi := { dst := some 17, op := Op.fieldAddr 80 (Operand.tmp 16) 3, type := 0, pos := "writer.go:91", after := #[⟨1, .data⟩], guard := none }) (v := .pointer (some ⟨wb, 99, none⟩)) rfl (fun wx hS => ?_) hH ?_
    · go_simp
    refine tk (i := 3) (oi := { dst := some 18, op := Op.load 78 (Operand.tmp 17), type := 78, pos := "writer.go:91", after := #[⟨2, .data⟩], guard := none }) (v := .map (some g)) rfl (fun wx hS => ?_) hH ?_
    · have e1 := get99 PL.out hS.1; go_simp
    refine tk (i := 4) (oi := { dst := some 19, op := Op.fieldAddr 66 (Operand.tmp 4) 0, type := 0, pos := "writer.go:91", after := #[], guard := none }) (v := .pointer (some ⟨xb, 0, none⟩)) rfl (fun wx hS => ?_) hH ?_
    · go_simp
    refine tky (i := 5) (oi := { dst := some 20, op := Op.load 24 (Operand.tmp 19), type := 24, pos := "writer.go:91", after := #[⟨4, .data⟩], guard := none }) (v := keyV x.id) rfl (yieldsIf_load_mid (by rfl) 24 _ rfl xb 0 rfl (byteCells x.id) _ (fun wx hS j u hj => (hS.2.cell (0 + j)).trans (by rw [Nat.zero_add]; exact XC0.out j u hj)) Tryd.underlying24 rfl (by rw [infoId, byteCells_length, IDL.out])) hH ?_
    refine tk (i := 6) (oi := { dst := some 21, op := Op.build 81 #[], type := 81, pos := "writer.go:91", after := #[], guard := none }) (v := .agg #[]) rfl (fun wx hS => ?_) hH ?_
    · have e1 := unit_at wx; go_simp
    refine wpAnyH_ready (rs := [7]) (by kernel_rfl) (by simp) ?_
    refine AllReadyH.cons (o := { dst := none, op := Op.mapUpdate 78 (Operand.tmp 18) (Operand.tmp 20) (Operand.tmp 21), type := 0, pos := "writer.go:91", after := #[⟨3, .data⟩, ⟨5, .data⟩, ⟨6, .data⟩, ⟨0, .phase⟩, ⟨1, .phase⟩, ⟨2, .phase⟩, ⟨3, .phase⟩, ⟨4, .phase⟩, ⟨5, .phase⟩, ⟨6, .phase⟩], guard := none }) rfl (fun KK hKK => ?_) AllReadyH.nil
    refine step_put (by rfl) _ _ _ rfl g MM x.id rfl rfl rfl TS3.out.s IDL.out NI.out ?_
    intro y1 P1 P2
    have hN := And.intro (P2.out.is hH.1 fun q => TS3.out.s.ne_cells TS3.out.i q.symm) (P2.out.is hH.2 fun q => TS3.out.s.ne_cells TS3.out.x q.symm)
    have TS4 := Lib.hid (TS3.out.put P2.out P1.out)
    have KP4 := Lib.hid (KP3.out.trans (Kp.but (f := fun i => i = g) P2.out (Or.inl rfl)) fun i hi => GF.out i hi)
    clear hH TS3 KP3 P1 P2
    refine hKK.out _ _ hN (fun hH => ?_)
    clear hKK KK hN
    try simp only [Act.put, List.setIfInBounds_toArray, List.set_cons_zero, List.set_cons_succ]
    refine wpAnyH_done (by kernel_rfl) ?_ _
    refine NoPanic.normal ?_
    clear hH
    go_wp2_with fail
    refine wp_region_noPanic ?_
    refine wp_region_held_drew (S := fun X => blockIs X xb XC 66) (by kernel_rfl) (TS4.out.x.drewN 1) (fun hH => ?_)
    have TS5 := Lib.hid (TS4.out.below (below_drew' (Below.refl _ _)))
    have KP5 := Lib.hid (KP4.out.trans (Kp.below (f := fun _ => False) (below_drew' (Below.refl _ _))) (fun _ h => h.elim))
    clear TS4 KP4
    generalize y1.drew = z0 at *
    refine tk (i := 0) (oi := { dst := some 22, op := Op.move (Operand.tmp 0), type := 27, pos := "writer.go:92", after := #[], guard := none }) (v := .pointer (some ⟨wb, 0, none⟩)) rfl (fun wx hS => ?_) hH ?_
    · go_simp
    refine tk (i := 1) (oi := { dst := some 23, op := Op.move (Operand.tmp 0), type := 27, pos := "writer.go:92", after := #[], guard := none }) (v := .pointer (some ⟨wb, 0, none⟩)) rfl (fun wx hS => ?_) hH ?_
    · go_simp
    refine tk (i := 2) (oi := { dst := some 24, op := Op.nilCheck (Operand.tmp 23), type := 0, pos := "writer.go:92", after := #[⟨1, .data⟩], guard := none }) (v := .pointer (some ⟨wb, 0, none⟩)) rfl (fun wx hS => ?_) hH ?_
    · go_simp
    refine tk (i := 3) (oi := { dst := some 25, op := Op.fieldAddr 80 (Operand.tmp 24) 2, type := 0, pos := "writer.go:92", after := #[⟨2, .data⟩], guard := none }) (v := .pointer (some ⟨wb, 98, none⟩)) rfl (fun wx hS => ?_) hH ?_
    · go_simp
    refine tky (i := 5) (oi := { dst := some 27, op := Op.load 66 (Operand.tmp 4), type := 66, pos := "writer.go:92", after := #[], guard := none }) (v := .agg XC.toArray) rfl (yieldsIf_load_mid (by rfl) 66 _ rfl xb 0 rfl XC _ (fun wx hS j u hj => (hS.cell (0 + j)).trans (by rw [Nat.zero_add]; exact hj)) Tryd.underlying66 rfl (by rw [info_en, XL.out])) hH ?_
    refine wpAnyH_ready (rs := [4, 6]) (by kernel_rfl) (by simp) ?_
    refine AllReadyH.cons (o := { dst := some 26, op := Op.load 31 (Operand.tmp 25), type := 31, pos := "writer.go:92", after := #[⟨3, .data⟩], guard := none }) rfl (fun KK hKK => ?_) (AllReadyH.cons (o := { dst := some 28, op := Op.buildSlice 31 1 #[(0, Operand.tmp 27)], type := 31, pos := "writer.go:92", after := #[⟨5, .data⟩], guard := none }) rfl (fun KK hKK => ?_) AllReadyH.nil)
    · skip
      have e98 := get98 PL.out TS5.out.i
      go_simp
      refine hKK.out _ _ hH (fun hH => ?_)
      clear hKK KK e98
      try simp only [Act.put, List.setIfInBounds_toArray, List.set_cons_zero, List.set_cons_succ]
      refine wpAnyH_ready (rs := [6]) (by kernel_rfl) (by simp) ?_
      refine AllReadyH.cons (o := { dst := some 28, op := Op.buildSlice 31 1 #[(0, Operand.tmp 27)], type := 31, pos := "writer.go:92", after := #[⟨5, .data⟩], guard := none }) rfl (fun KK hKK => ?_) AllReadyH.nil
      have kb := alloc_below z0 (.cells XC.toArray 66 (0, 0))
      have hN := hH.below kb hH.lt
      have NB := Lib.hid (blockIs.new z0 XC 66)
      have TS6 := Lib.hid (TS5.out.below kb)
      have KP6 := Lib.hid (KP5.out.trans (Kp.below (f := fun _ => False) kb) (fun _ h => h.elim))
      clear hH TS5 KP5 kb
      refine step_build_en (by rfl) _ rfl XC XL.out rfl ?_
      refine hKK.out _ _ hN (fun hH => ?_)
      clear hKK KK hN
      try simp only [Act.put, List.setIfInBounds_toArray, List.set_cons_zero, List.set_cons_succ]
      generalize z0.alloc (.cells XC.toArray 66) = z1 at *
      generalize z0.heap.size = nb at *
      refine wpAnyH_ready (rs := [7]) (by kernel_rfl) (by simp) ?_
      refine AllReadyH.cons (o := { dst := some 29, op := Op.call { callee := Callee.builtin Builtin.append, args := #[Operand.tmp 26, Operand.tmp 28], argTypes := #[31, 31] }, type := 31, pos := "writer.go:92", after := #[⟨4, .data⟩, ⟨6, .data⟩], guard := none }) rfl (fun KK hKK => ?_) AllReadyH.nil
      refine step_append_en (by rfl) _ _ rfl base v2 L rfl TS6.out.e nb 1 x IDL.out rfl (XCE.out ▸ NB.out) (by have := LL.out; omega) (Nat.le_trans HBW.out KP6.out.size) ?_
      intro u2 z2 P1 P2 P3
      have TS7 := Lib.hid (TS6.out.app2 P2.out P1.out P3.out)
      have KP7 := Lib.hid (KP6.out.trans (Kp.grown (f := fun i => v2.ownBlock = some i) P2.out fun _ q => Or.inl q) fun i hi => Or.inl (Or.inr (Or.inr (Or.inl hi))))
      have U2 : Hid (∀ k, u2.ownBlock = some k → v2.ownBlock = some k ∨ w.heap.size ≤ k) := Lib.hid (fun k hk => P3.out.elim (fun e => Or.inl (e ▸ hk)) fun e => Or.inr (by rw [e] at hk; cases hk; exact KP6.out.size))
      have HO2 : Hid (u2.oneCell' = true ∧ u2.cells = #[u2]) := Lib.hid (own_cell P1.out)
      have hN := TS7.out.x
      clear hH TS6 KP6 P1 P2 P3 NB
      refine hKK.out _ _ hN (fun hH => ?_)
      clear hKK KK hN
      try simp only [Act.put, List.setIfInBounds_toArray, List.set_cons_zero, List.set_cons_succ]
      refine tk (i := 8) (oi := { dst := some 30, op := Op.nilCheck (Operand.tmp 22), type := 0, pos := "writer.go:92", after := #[⟨0, .data⟩, ⟨0, .phase⟩, ⟨1, .phase⟩, ⟨2, .phase⟩, ⟨3, .phase⟩, ⟨4, .phase⟩, ⟨5, .phase⟩, ⟨6, .phase⟩, ⟨7, .phase⟩], guard := none }) (v := .pointer (some ⟨wb, 0, none⟩)) rfl (fun wx hS => ?_) hH ?_
      · go_simp
      refine tk (i := 9) (oi := { dst := some 31, op := Op.fieldAddr 80 (Operand.tmp 30) 2, type := 0, pos := "writer.go:92", after := #[⟨8, .data⟩, ⟨0, .phase⟩, ⟨1, .phase⟩, ⟨2, .phase⟩, ⟨3, .phase⟩, ⟨4, .phase⟩, ⟨5, .phase⟩, ⟨6, .phase⟩, ⟨7, .phase⟩], guard := none }) (v := .pointer (some ⟨wb, 98, none⟩)) rfl (fun wx hS => ?_) hH ?_
      · go_simp
      refine wpAnyH_ready (rs := [10]) (by kernel_rfl) (by simp) ?_
      refine AllReadyH.cons (o := { dst := none, op := Op.store 31 (Operand.tmp 31) (Operand.tmp 29), type := 0, pos := "writer.go:92", after := #[⟨9, .data⟩, ⟨7, .data⟩, ⟨7, .chain⟩, ⟨0, .phase⟩, ⟨1, .phase⟩, ⟨2, .phase⟩, ⟨3, .phase⟩, ⟨4, .phase⟩, ⟨5, .phase⟩, ⟨6, .phase⟩, ⟨7, .phase⟩], guard := none }) rfl (fun KK hKK => ?_) AllReadyH.nil
      refine step_store_cell (by rfl) 31 _ _ rfl wb 98 u2 rfl rfl _ 80 TS7.out.i info_slE (by rw [List.length_append, PL.out]; simp) HO2.out.2 HO2.out.1 ?_
      intro z3 P1 P2 P3
      have P1 := P1.out
      rw [set98 PL.out] at P1
      have TS8 := Lib.hid (TS7.out.set2 P2.out P1 WXB.out)
      have KP8 := Lib.hid (KP7.out.trans (Kp.but (f := fun i => i = wb) P2.out (Or.inl rfl)) fun i hi => Or.inl (Or.inl hi))
      have hN := TS8.out.x
      clear hH TS7 KP7 P1 P2 P3 HO2
      refine hKK.out _ _ hN (fun hH => ?_)
      clear hKK KK hN
      try simp only [Act.put, List.setIfInBounds_toArray, List.set_cons_zero, List.set_cons_succ]
      refine wpAnyH_done (by kernel_rfl) ?_ _
      refine NoPanic.normal ?_
      clear hH
      have c97 := get97 PL.out TS8.out.i
      obtain ⟨qb, qc, rfl, q1, q2, q3⟩ := own_form TS8.out.b
      obtain ⟨i0, hi, hz0, hz1, hz2⟩ := info_parts info_u8
      go_wp2_with (refine wpList_append_own_at _ (by rfl) _ _ 30 rfl base 5 i0 _ 1 1 Tryd.underlying30 hi hz0 hz1 hz2 (by rfl) (by decide) v1 B.length (byteCells B) rfl TS8.out.a ⟨qb, 0, none⟩ (S.length + 1) qc (byteCells (s0 :: S)) rfl (by rw [byteCells_length, Nat.mul_one]; rfl) (fun j u hj => by rw [Addr.add_lit, Nat.zero_add]; exact q3 j u hj) (byteCells_one _) (by have := BL.out; unfold maxLen; omega) (by have := BL.out; omega) (Nat.le_trans HBW.out KP8.out.size) ?_)
      intro u1 z4 P1 P2 _ P3
      have P1 : z4.ownsRow base 5 1 u1 (B ++ s0 :: S).length (byteCells (B ++ s0 :: S)) := by rw [List.length_append, byteCells_append]; exact P1
      have KP9 := Lib.hid (KP8.out.trans (Kp.grown (f := fun i => v1.ownBlock = some i) P2 fun _ q => Or.inl q) fun i hi => Or.inl (Or.inr (Or.inl hi)))
      have U1 : Hid (∀ k, u1.ownBlock = some k → v1.ownBlock = some k ∨ w.heap.size ≤ k) := Lib.hid (fun k hk => P3.elim (fun e => Or.inl (e ▸ hk)) fun e => Or.inr (by rw [e] at hk; cases hk; exact KP8.out.size))
      have HO1 : Hid (u1.oneCell' = true ∧ u1.cells = #[u1]) := Lib.hid (own_cell (Lib.hid P1))
      have TS9 := Lib.hid (TS8.out.app1 P2 P1)
      clear TS8 KP8 P1 P2 P3 c97 q1 q2 q3
      have hfit : 97 < (PC ++ [v1, u2, Value.map (some g)]).length := by rw [List.length_append, PL.out]; simp
      go_wp2_with (refine wpList_store_cell (by rfl) 30 _ _ rfl wb 97 u1 rfl rfl _ 80 TS9.out.1 info_sl8 hfit HO1.out.2 HO1.out.1 ?_)
      intro z5 P1 P2 P3
      have P1 := P1.out
      rw [set97 PL.out] at P1
      have KK := Kp.but (f := fun i => i = wb) P2.out (Or.inl rfl)
      go_wp2_with fail
      go_end0
      obtain ⟨t1, t2, t3, t4⟩ := TS9.out
      refine ⟨rfl, u1, u2, g, P1, row_kp t2 KK fun i hi q => row_type t2 t1 (by decide) (q ▸ hi), row_kp t3 KK fun i hi q => row_type t3 t1 (by decide) (q ▸ hi), GB.out, ?_, KP9.out.trans KK fun i hi => Or.inl (Or.inl hi), U1.out, U2.out, Or.inr (by rw [HW.out]; exact GBX.out)⟩
      have := set_kp t4 KK fun q => t4.ne_cells t1 q
      rw [HM.out] at this
      rw [List.map_append]
      exact this
    · skip
      have kb := alloc_below z0 (.cells XC.toArray 66 (0, 0))
      have hN := hH.below kb hH.lt
      have NB := Lib.hid (blockIs.new z0 XC 66)
      have TS6 := Lib.hid (TS5.out.below kb)
      have KP6 := Lib.hid (KP5.out.trans (Kp.below (f := fun _ => False) kb) (fun _ h => h.elim))
      clear hH TS5 KP5 kb
      refine step_build_en (by rfl) _ rfl XC XL.out rfl ?_
      refine hKK.out _ _ hN (fun hH => ?_)
      clear hKK KK hN
      try simp only [Act.put, List.setIfInBounds_toArray, List.set_cons_zero, List.set_cons_succ]
      generalize z0.alloc (.cells XC.toArray 66) = z1 at *
      generalize z0.heap.size = nb at *
      refine wpAnyH_ready (rs := [4]) (by kernel_rfl) (by simp) ?_
      refine AllReadyH.cons (o := { dst := some 26, op := Op.load 31 (Operand.tmp 25), type := 31, pos := "writer.go:92", after := #[⟨3, .data⟩], guard := none }) rfl (fun KK hKK => ?_) AllReadyH.nil
      have e98 := get98 PL.out TS6.out.i
      go_simp
      refine hKK.out _ _ hH (fun hH => ?_)
      clear hKK KK e98
      try simp only [Act.put, List.setIfInBounds_toArray, List.set_cons_zero, List.set_cons_succ]
      refine wpAnyH_ready (rs := [7]) (by kernel_rfl) (by simp) ?_
      refine AllReadyH.cons (o := { dst := some 29, op := Op.call { callee := Callee.builtin Builtin.append, args := #[Operand.tmp 26, Operand.tmp 28], argTypes := #[31, 31] }, type := 31, pos := "writer.go:92", after := #[⟨4, .data⟩, ⟨6, .data⟩], guard := none }) rfl (fun KK hKK => ?_) AllReadyH.nil
      refine step_append_en (by rfl) _ _ rfl base v2 L rfl TS6.out.e nb 1 x IDL.out rfl (XCE.out ▸ NB.out) (by have := LL.out; omega) (Nat.le_trans HBW.out KP6.out.size) ?_
      intro u2 z2 P1 P2 P3
      have TS7 := Lib.hid (TS6.out.app2 P2.out P1.out P3.out)
      have KP7 := Lib.hid (KP6.out.trans (Kp.grown (f := fun i => v2.ownBlock = some i) P2.out fun _ q => Or.inl q) fun i hi => Or.inl (Or.inr (Or.inr (Or.inl hi))))
      have U2 : Hid (∀ k, u2.ownBlock = some k → v2.ownBlock = some k ∨ w.heap.size ≤ k) := Lib.hid (fun k hk => P3.out.elim (fun e => Or.inl (e ▸ hk)) fun e => Or.inr (by rw [e] at hk; cases hk; exact KP6.out.size))
      have HO2 : Hid (u2.oneCell' = true ∧ u2.cells = #[u2]) := Lib.hid (own_cell P1.out)
      have hN := TS7.out.x
      clear hH TS6 KP6 P1 P2 P3 NB
      refine hKK.out _ _ hN (fun hH => ?_)
      clear hKK KK hN
      try simp only [Act.put, List.setIfInBounds_toArray, List.set_cons_zero, List.set_cons_succ]
      refine tk (i := 8) (oi := { dst := some 30, op := Op.nilCheck (Operand.tmp 22), type := 0, pos := "writer.go:92", after := #[⟨0, .data⟩, ⟨0, .phase⟩, ⟨1, .phase⟩, ⟨2, .phase⟩, ⟨3, .phase⟩, ⟨4, .phase⟩, ⟨5, .phase⟩, ⟨6, .phase⟩, ⟨7, .phase⟩], guard := none }) (v := .pointer (some ⟨wb, 0, none⟩)) rfl (fun wx hS => ?_) hH ?_
      · go_simp
      refine tk (i := 9) (oi := { dst := some 31, op := Op.fieldAddr 80 (Operand.tmp 30) 2, type := 0, pos := "writer.go:92", after := #[⟨8, .data⟩, ⟨0, .phase⟩, ⟨1, .phase⟩, ⟨2, .phase⟩, ⟨3, .phase⟩, ⟨4, .phase⟩, ⟨5, .phase⟩, ⟨6, .phase⟩, ⟨7, .phase⟩], guard := none }) (v := .pointer (some ⟨wb, 98, none⟩)) rfl (fun wx hS => ?_) hH ?_
      · go_simp
      refine wpAnyH_ready (rs := [10]) (by kernel_rfl) (by simp) ?_
      refine AllReadyH.cons (o := { dst := none, op := Op.store 31 (Operand.tmp 31) (Operand.tmp 29), type := 0, pos := "writer.go:92", after := #[⟨9, .data⟩, ⟨7, .data⟩, ⟨7, .chain⟩, ⟨0, .phase⟩, ⟨1, .phase⟩, ⟨2, .phase⟩, ⟨3, .phase⟩, ⟨4, .phase⟩, ⟨5, .phase⟩, ⟨6, .phase⟩, ⟨7, .phase⟩], guard := none }) rfl (fun KK hKK => ?_) AllReadyH.nil
      refine step_store_cell (by rfl) 31 _ _ rfl wb 98 u2 rfl rfl _ 80 TS7.out.i info_slE (by rw [List.length_append, PL.out]; simp) HO2.out.2 HO2.out.1 ?_
      intro z3 P1 P2 P3
      have P1 := P1.out
      rw [set98 PL.out] at P1
      have TS8 := Lib.hid (TS7.out.set2 P2.out P1 WXB.out)
      have KP8 := Lib.hid (KP7.out.trans (Kp.but (f := fun i => i = wb) P2.out (Or.inl rfl)) fun i hi => Or.inl (Or.inl hi))
      have hN := TS8.out.x
      clear hH TS7 KP7 P1 P2 P3 HO2
      refine hKK.out _ _ hN (fun hH => ?_)
      clear hKK KK hN
      try simp only [Act.put, List.setIfInBounds_toArray, List.set_cons_zero, List.set_cons_succ]
      refine wpAnyH_done (by kernel_rfl) ?_ _
      refine NoPanic.normal ?_
      clear hH
      have c97 := get97 PL.out TS8.out.i
      obtain ⟨qb, qc, rfl, q1, q2, q3⟩ := own_form TS8.out.b
      obtain ⟨i0, hi, hz0, hz1, hz2⟩ := info_parts info_u8
      go_wp2_with (refine wpList_append_own_at _ (by rfl) _ _ 30 rfl base 5 i0 _ 1 1 Tryd.underlying30 hi hz0 hz1 hz2 (by rfl) (by decide) v1 B.length (byteCells B) rfl TS8.out.a ⟨qb, 0, none⟩ (S.length + 1) qc (byteCells (s0 :: S)) rfl (by rw [byteCells_length, Nat.mul_one]; rfl) (fun j u hj => by rw [Addr.add_lit, Nat.zero_add]; exact q3 j u hj) (byteCells_one _) (by have := BL.out; unfold maxLen; omega) (by have := BL.out; omega) (Nat.le_trans HBW.out KP8.out.size) ?_)
      intro u1 z4 P1 P2 _ P3
      have P1 : z4.ownsRow base 5 1 u1 (B ++ s0 :: S).length (byteCells (B ++ s0 :: S)) := by rw [List.length_append, byteCells_append]; exact P1
      have KP9 := Lib.hid (KP8.out.trans (Kp.grown (f := fun i => v1.ownBlock = some i) P2 fun _ q => Or.inl q) fun i hi => Or.inl (Or.inr (Or.inl hi)))
      have U1 : Hid (∀ k, u1.ownBlock = some k → v1.ownBlock = some k ∨ w.heap.size ≤ k) := Lib.hid (fun k hk => P3.elim (fun e => Or.inl (e ▸ hk)) fun e => Or.inr (by rw [e] at hk; cases hk; exact KP8.out.size))
      have HO1 : Hid (u1.oneCell' = true ∧ u1.cells = #[u1]) := Lib.hid (own_cell (Lib.hid P1))
      have TS9 := Lib.hid (TS8.out.app1 P2 P1)
      clear TS8 KP8 P1 P2 P3 c97 q1 q2 q3
      have hfit : 97 < (PC ++ [v1, u2, Value.map (some g)]).length := by rw [List.length_append, PL.out]; simp
      go_wp2_with (refine wpList_store_cell (by rfl) 30 _ _ rfl wb 97 u1 rfl rfl _ 80 TS9.out.1 info_sl8 hfit HO1.out.2 HO1.out.1 ?_)
      intro z5 P1 P2 P3
      have P1 := P1.out
      rw [set97 PL.out] at P1
      have KK := Kp.but (f := fun i => i = wb) P2.out (Or.inl rfl)
      go_wp2_with fail
      go_end0
      obtain ⟨t1, t2, t3, t4⟩ := TS9.out
      refine ⟨rfl, u1, u2, g, P1, row_kp t2 KK fun i hi q => row_type t2 t1 (by decide) (q ▸ hi), row_kp t3 KK fun i hi q => row_type t3 t1 (by decide) (q ▸ hi), GB.out, ?_, KP9.out.trans KK fun i hi => Or.inl (Or.inl hi), U1.out, U2.out, Or.inr (by rw [HW.out]; exact GBX.out)⟩
      have := set_kp t4 KK fun q => t4.ne_cells t1 q
      rw [HM.out] at this
      rw [List.map_append]
      exact this
  · have TS : Hid (TkS (w.alloc (.cells XC.toArray 66 (0, 0))) wb base PC v1 v2 v1 v2 g B L MM bs bv (s0 :: S) w.heap.size XC) := Lib.hid ⟨I0.out, A0.out, E0.out, set_kp hs (Kp.below (f := fun _ => False) KA.out) id, B0.out, XB0.out, NX0.out, HBV.out⟩
    have KP := K0
    have c99 := get99 PL.out I0.out
    have hlt := I0.out.lt
    have GF : Hid (∀ i, i = g → tkF wb v1 v2 (some g) i ∨ w.heap.size ≤ i) := Lib.hid (fun i hi => Or.inl (Or.inr (Or.inr (Or.inr (by rw [hi])))))
    have GB := Lib.hid hgb
    clear hs hgb I0 A0 E0 B0 XB0 K0 KA SZ0 HI
    go_enter Tryd.func28, Tryd.ntmps28
    go_upto_region 1 with fail
    generalize w.alloc (.cells XC.toArray 66 (0, 0)) = w2 at *
    generalize hwb : w.heap.size = xb at *
    have HW := Lib.hid hwb
    have HBW : Hid (base ≤ w.heap.size) := Lib.hid (by rw [hwb]; exact HBS.out)
    have GF : Hid (∀ i, i = g → tkF wb v1 v2 (some g) i ∨ w.heap.size ≤ i) := Lib.hid (by rw [hwb]; exact GF.out)
    clear hwb hlt
    go_wp2_with fail
    refine wp_region_noPanic ?_
    refine wp_region_held_drew (S := fun X => blockIs X wb (PC ++ [v1, v2, .map (some g)]) 80 ∧ blockIs X xb XC 66) (by kernel_rfl) ⟨TS.out.i.drewN 1, TS.out.x.drewN 1⟩ (fun hH => ?_)
    have TS3 := Lib.hid (TS.out.below (below_drew' (Below.refl _ _)))
    have KP3 := Lib.hid (KP.out.trans (Kp.below (f := fun _ => False) (below_drew' (Below.refl _ _))) (fun _ h => h.elim))
    clear TS KP
    generalize w2.drew = y0 at *
    refine tk (i := 0) (oi := { dst := some 15, op := Op.move (Operand.tmp 0), type := 27, pos := "writer.go:91", after := #[], guard := none }) (v := .pointer (some ⟨wb, 0, none⟩)) rfl (fun wx hS => ?_) hH ?_
    · go_simp
    refine tk (i := 1) (oi := { dst := some 16, op := Op.nilCheck (Operand.tmp 15), type := 0, pos := "writer.go:91", after := #[⟨0, .data⟩], guard := none }) (v := .pointer (some ⟨wb, 0, none⟩)) rfl (fun wx hS => ?_) hH ?_
    · go_simp
    refine tk (i := 2) (oi := { dst := some 17, op := Op.fieldAddr 80 (Operand.tmp 16) 3, type := 0, pos := "writer.go:91", after := #[⟨1, .data⟩], guard := none }) (v := .pointer (some ⟨wb, 99, none⟩)) rfl (fun wx hS => ?_) hH ?_
    · go_simp
    refine tk (i := 3) (oi := { dst := some 18, op := Op.load 78 (Operand.tmp 17), type := 78, pos := "writer.go:91", after := #[⟨2, .data⟩], guard := none }) (v := .map (some g)) rfl (fun wx hS => ?_) hH ?_
    · have e1 := get99 PL.out hS.1; go_simp
    refine tk (i := 4) (oi := { dst := some 19, op := Op.fieldAddr 66 (Operand.tmp 4) 0, type := 0, pos := "writer.go:91", after := #[], guard := none }) (v := .pointer (some ⟨xb, 0, none⟩)) rfl (fun wx hS => ?_) hH ?_
    · go_simp
    refine tky (i := 5) (oi := { dst := some 20, op := Op.load 24 (Operand.tmp 19), type := 24, pos := "writer.go:91", after := #[⟨4, .data⟩], guard := none }) (v := keyV x.id) rfl (yieldsIf_load_mid (by rfl) 24 _ rfl xb 0 rfl (byteCells x.id) _ (fun wx hS j u hj => (hS.2.cell (0 + j)).trans (by rw [Nat.zero_add]; exact XC0.out j u hj)) Tryd.underlying24 rfl (by rw [infoId, byteCells_length, IDL.out])) hH ?_
    refine tk (i := 6) (oi := { dst := some 21, op := Op.build 81 #[], type := 81, pos := "writer.go:91", after := #[], guard := none }) (v := .agg #[]) rfl (fun wx hS => ?_) hH ?_
    · have e1 := unit_at wx; go_simp
    refine wpAnyH_ready (rs := [7]) (by kernel_rfl) (by simp) ?_
    refine AllReadyH.cons (o := { dst := none, op := Op.mapUpdate 78 (Operand.tmp 18) (Operand.tmp 20) (Operand.tmp 21), type := 0, pos := "writer.go:91", after := #[⟨3, .data⟩, ⟨5, .data⟩, ⟨6, .data⟩, ⟨0, .phase⟩, ⟨1, .phase⟩, ⟨2, .phase⟩, ⟨3, .phase⟩, ⟨4, .phase⟩, ⟨5, .phase⟩, ⟨6, .phase⟩], guard := none }) rfl (fun KK hKK => ?_) AllReadyH.nil
    refine step_put (by rfl) _ _ _ rfl g MM x.id rfl rfl rfl TS3.out.s IDL.out NI.out ?_
    intro y1 P1 P2
    have hN := And.intro (P2.out.is hH.1 fun q => TS3.out.s.ne_cells TS3.out.i q.symm) (P2.out.is hH.2 fun q => TS3.out.s.ne_cells TS3.out.x q.symm)
    have TS4 := Lib.hid (TS3.out.put P2.out P1.out)
    have KP4 := Lib.hid (KP3.out.trans (Kp.but (f := fun i => i = g) P2.out (Or.inl rfl)) fun i hi => GF.out i hi)
    clear hH TS3 KP3 P1 P2
    refine hKK.out _ _ hN (fun hH => ?_)
    clear hKK KK hN
    try simp only [Act.put, List.setIfInBounds_toArray, List.set_cons_zero, List.set_cons_succ]
    refine wpAnyH_done (by kernel_rfl) ?_ _
    refine NoPanic.normal ?_
    clear hH
    go_wp2_with fail
    refine wp_region_noPanic ?_
    refine wp_region_held_drew (S := fun X => blockIs X xb XC 66) (by kernel_rfl) (TS4.out.x.drewN 1) (fun hH => ?_)
    have TS5 := Lib.hid (TS4.out.below (below_drew' (Below.refl _ _)))
    have KP5 := Lib.hid (KP4.out.trans (Kp.below (f := fun _ => False) (below_drew' (Below.refl _ _))) (fun _ h => h.elim))
    clear TS4 KP4
    generalize y1.drew = z0 at *
    refine tk (i := 0) (oi := { dst := some 22, op := Op.move (Operand.tmp 0), type := 27, pos := "writer.go:92", after := #[], guard := none }) (v := .pointer (some ⟨wb, 0, none⟩)) rfl (fun wx hS => ?_) hH ?_
    · go_simp
    refine tk (i := 1) (oi := { dst := some 23, op := Op.move (Operand.tmp 0), type := 27, pos := "writer.go:92", after := #[], guard := none }) (v := .pointer (some ⟨wb, 0, none⟩)) rfl (fun wx hS => ?_) hH ?_
    · go_simp
    refine tk (i := 2) (oi := { dst := some 24, op := Op.nilCheck (Operand.tmp 23), type := 0, pos := "writer.go:92", after := #[⟨1, .data⟩], guard := none }) (v := .pointer (some ⟨wb, 0, none⟩)) rfl (fun wx hS => ?_) hH ?_
    · go_simp
    refine tk (i := 3) (oi := { dst := some 25, op := Op.fieldAddr 80 (Operand.tmp 24) 2, type := 0, pos := "writer.go:92", after := #[⟨2, .data⟩], guard := none }) (v := .pointer (some ⟨wb, 98, none⟩)) rfl (fun wx hS => ?_) hH ?_
    · go_simp
    refine tky (i := 5) (oi := { dst := some 27, op := Op.load 66 (Operand.tmp 4), type := 66, pos := "writer.go:92", after := #[], guard := none }) (v := .agg XC.toArray) rfl (yieldsIf_load_mid (by rfl) 66 _ rfl xb 0 rfl XC _ (fun wx hS j u hj => (hS.cell (0 + j)).trans (by rw [Nat.zero_add]; exact hj)) Tryd.underlying66 rfl (by rw [info_en, XL.out])) hH ?_
    refine wpAnyH_ready (rs := [4, 6]) (by kernel_rfl) (by simp) ?_
    refine AllReadyH.cons (o := { dst := some 26, op := Op.load 31 (Operand.tmp 25), type := 31, pos := "writer.go:92", after := #[⟨3, .data⟩], guard := none }) rfl (fun KK hKK => ?_) (AllReadyH.cons (o := { dst := some 28, op := Op.buildSlice 31 1 #[(0, Operand.tmp 27)], type := 31, pos := "writer.go:92", after := #[⟨5, .data⟩], guard := none }) rfl (fun KK hKK => ?_) AllReadyH.nil)
    · skip
      have e98 := get98 PL.out TS5.out.i
      go_simp
      refine hKK.out _ _ hH (fun hH => ?_)
      clear hKK KK e98
      try simp only [Act.put, List.setIfInBounds_toArray, List.set_cons_zero, List.set_cons_succ]
      refine wpAnyH_ready (rs := [6]) (by kernel_rfl) (by simp) ?_
      refine AllReadyH.cons (o := { dst := some 28, op := Op.buildSlice 31 1 #[(0, Operand.tmp 27)], type := 31, pos := "writer.go:92", after := #[⟨5, .data⟩], guard := none }) rfl (fun KK hKK => ?_) AllReadyH.nil
      have kb := alloc_below z0 (.cells XC.toArray 66 (0, 0))
      have hN := hH.below kb hH.lt
      have NB := Lib.hid (blockIs.new z0 XC 66)
      have TS6 := Lib.hid (TS5.out.below kb)
      have KP6 := Lib.hid (KP5.out.trans (Kp.below (f := fun _ => False) kb) (fun _ h => h.elim))
      clear hH TS5 KP5 kb
      refine step_build_en (by rfl) _ rfl XC XL.out rfl ?_
      refine hKK.out _ _ hN (fun hH => ?_)
      clear hKK KK hN
      try simp only [Act.put, List.setIfInBounds_toArray, List.set_cons_zero, List.set_cons_succ]
      generalize z0.alloc (.cells XC.toArray 66) = z1 at *
      generalize z0.heap.size = nb at *
      refine wpAnyH_ready (rs := [7]) (by kernel_rfl) (by simp) ?_
      refine AllReadyH.cons (o := { dst := some 29, op := Op.call { callee := Callee.builtin Builtin.append, args := #[Operand.tmp 26, Operand.tmp 28], argTypes := #[31, 31] }, type := 31, pos := "writer.go:92", after := #[⟨4, .data⟩, ⟨6, .data⟩], guard := none }) rfl (fun KK hKK => ?_) AllReadyH.nil
      refine step_append_en (by rfl) _ _ rfl base v2 L rfl TS6.out.e nb 1 x IDL.out rfl (XCE.out ▸ NB.out) (by have := LL.out; omega) (Nat.le_trans HBW.out KP6.out.size) ?_
      intro u2 z2 P1 P2 P3
      have TS7 := Lib.hid (TS6.out.app2 P2.out P1.out P3.out)
      have KP7 := Lib.hid (KP6.out.trans (Kp.grown (f := fun i => v2.ownBlock = some i) P2.out fun _ q => Or.inl q) fun i hi => Or.inl (Or.inr (Or.inr (Or.inl hi))))
      have U2 : Hid (∀ k, u2.ownBlock = some k → v2.ownBlock = some k ∨ w.heap.size ≤ k) := Lib.hid (fun k hk => P3.out.elim (fun e => Or.inl (e ▸ hk)) fun e => Or.inr (by rw [e] at hk; cases hk; exact KP6.out.size))
      have HO2 : Hid (u2.oneCell' = true ∧ u2.cells = #[u2]) := Lib.hid (own_cell P1.out)
      have hN := TS7.out.x
      clear hH TS6 KP6 P1 P2 P3 NB
      refine hKK.out _ _ hN (fun hH => ?_)
      clear hKK KK hN
      try simp only [Act.put, List.setIfInBounds_toArray, List.set_cons_zero, List.set_cons_succ]
      refine tk (i := 8) (oi := { dst := some 30, op := Op.nilCheck (Operand.tmp 22), type := 0, pos := "writer.go:92", after := #[⟨0, .data⟩, ⟨0, .phase⟩, ⟨1, .phase⟩, ⟨2, .phase⟩, ⟨3, .phase⟩, ⟨4, .phase⟩, ⟨5, .phase⟩, ⟨6, .phase⟩, ⟨7, .phase⟩], guard := none }) (v := .pointer (some ⟨wb, 0, none⟩)) rfl (fun wx hS => ?_) hH ?_
      · go_simp
      refine tk (i := 9) (oi := { dst := some 31, op := Op.fieldAddr 80 (Operand.tmp 30) 2, type := 0, pos := "writer.go:92", after := #[⟨8, .data⟩, ⟨0, .phase⟩, ⟨1, .phase⟩, ⟨2, .phase⟩, ⟨3, .phase⟩, ⟨4, .phase⟩, ⟨5, .phase⟩, ⟨6, .phase⟩, ⟨7, .phase⟩], guard := none }) (v := .pointer (some ⟨wb, 98, none⟩)) rfl (fun wx hS => ?_) hH ?_
      · go_simp
      refine wpAnyH_ready (rs := [10]) (by kernel_rfl) (by simp) ?_
      refine AllReadyH.cons (o := { dst := none, op := Op.store 31 (Operand.tmp 31) (Operand.tmp 29), type := 0, pos := "writer.go:92", after := #[⟨9, .data⟩, ⟨7, .data⟩, ⟨7, .chain⟩, ⟨0, .phase⟩, ⟨1, .phase⟩, ⟨2, .phase⟩, ⟨3, .phase⟩, ⟨4, .phase⟩, ⟨5, .phase⟩, ⟨6, .phase⟩, ⟨7, .phase⟩], guard := none }) rfl (fun KK hKK => ?_) AllReadyH.nil
      refine step_store_cell (by rfl) 31 _ _ rfl wb 98 u2 rfl rfl _ 80 TS7.out.i info_slE (by rw [List.length_append, PL.out]; simp) HO2.out.2 HO2.out.1 ?_
      intro z3 P1 P2 P3
      have P1 := P1.out
      rw [set98 PL.out] at P1
      have TS8 := Lib.hid (TS7.out.set2 P2.out P1 WXB.out)
      have KP8 := Lib.hid (KP7.out.trans (Kp.but (f := fun i => i = wb) P2.out (Or.inl rfl)) fun i hi => Or.inl (Or.inl hi))
      have hN := TS8.out.x
      clear hH TS7 KP7 P1 P2 P3 HO2
      refine hKK.out _ _ hN (fun hH => ?_)
      clear hKK KK hN
      try simp only [Act.put, List.setIfInBounds_toArray, List.set_cons_zero, List.set_cons_succ]
      refine wpAnyH_done (by kernel_rfl) ?_ _
      refine NoPanic.normal ?_
      clear hH
      have c97 := get97 PL.out TS8.out.i
      obtain ⟨qb, qc, rfl, q1, q2, q3⟩ := own_form TS8.out.b
      obtain ⟨i0, hi, hz0, hz1, hz2⟩ := info_parts info_u8
      go_wp2_with (refine wpList_append_own_at _ (by rfl) _ _ 30 rfl base 5 i0 _ 1 1 Tryd.underlying30 hi hz0 hz1 hz2 (by rfl) (by decide) v1 B.length (byteCells B) rfl TS8.out.a ⟨qb, 0, none⟩ (S.length + 1) qc (byteCells (s0 :: S)) rfl (by rw [byteCells_length, Nat.mul_one]; rfl) (fun j u hj => by rw [Addr.add_lit, Nat.zero_add]; exact q3 j u hj) (byteCells_one _) (by have := BL.out; unfold maxLen; omega) (by have := BL.out; omega) (Nat.le_trans HBW.out KP8.out.size) ?_)
      intro u1 z4 P1 P2 _ P3
      have P1 : z4.ownsRow base 5 1 u1 (B ++ s0 :: S).length (byteCells (B ++ s0 :: S)) := by rw [List.length_append, byteCells_append]; exact P1
      have KP9 := Lib.hid (KP8.out.trans (Kp.grown (f := fun i => v1.ownBlock = some i) P2 fun _ q => Or.inl q) fun i hi => Or.inl (Or.inr (Or.inl hi)))
      have U1 : Hid (∀ k, u1.ownBlock = some k → v1.ownBlock = some k ∨ w.heap.size ≤ k) := Lib.hid (fun k hk => P3.elim (fun e => Or.inl (e ▸ hk)) fun e => Or.inr (by rw [e] at hk; cases hk; exact KP8.out.size))
      have HO1 : Hid (u1.oneCell' = true ∧ u1.cells = #[u1]) := Lib.hid (own_cell (Lib.hid P1))
      have TS9 := Lib.hid (TS8.out.app1 P2 P1)
      clear TS8 KP8 P1 P2 P3 c97 q1 q2 q3
      have hfit : 97 < (PC ++ [v1, u2, Value.map (some g)]).length := by rw [List.length_append, PL.out]; simp
      go_wp2_with (refine wpList_store_cell (by rfl) 30 _ _ rfl wb 97 u1 rfl rfl _ 80 TS9.out.1 info_sl8 hfit HO1.out.2 HO1.out.1 ?_)
      intro z5 P1 P2 P3
      have P1 := P1.out
      rw [set97 PL.out] at P1
      have KK := Kp.but (f := fun i => i = wb) P2.out (Or.inl rfl)
      go_wp2_with fail
      go_end0
      obtain ⟨t1, t2, t3, t4⟩ := TS9.out
      refine ⟨rfl, u1, u2, g, P1, row_kp t2 KK fun i hi q => row_type t2 t1 (by decide) (q ▸ hi), row_kp t3 KK fun i hi q => row_type t3 t1 (by decide) (q ▸ hi), GB.out, ?_, KP9.out.trans KK fun i hi => Or.inl (Or.inl hi), U1.out, U2.out, Or.inl rfl⟩
      have := set_kp t4 KK fun q => t4.ne_cells t1 q
      rw [HM.out] at this
      rw [List.map_append]
      exact this
    · skip
      have kb := alloc_below z0 (.cells XC.toArray 66 (0, 0))
      have hN := hH.below kb hH.lt
      have NB := Lib.hid (blockIs.new z0 XC 66)
      have TS6 := Lib.hid (TS5.out.below kb)
      have KP6 := Lib.hid (KP5.out.trans (Kp.below (f := fun _ => False) kb) (fun _ h => h.elim))
      clear hH TS5 KP5 kb
      refine step_build_en (by rfl) _ rfl XC XL.out rfl ?_
      refine hKK.out _ _ hN (fun hH => ?_)
      clear hKK KK hN
      try simp only [Act.put, List.setIfInBounds_toArray, List.set_cons_zero, List.set_cons_succ]
      generalize z0.alloc (.cells XC.toArray 66) = z1 at *
      generalize z0.heap.size = nb at *
      refine wpAnyH_ready (rs := [4]) (by kernel_rfl) (by simp) ?_
      refine AllReadyH.cons (o := { dst := some 26, op := Op.load 31 (Operand.tmp 25), type := 31, pos := "writer.go:92", after := #[⟨3, .data⟩], guard := none }) rfl (fun KK hKK => ?_) AllReadyH.nil
      have e98 := get98 PL.out TS6.out.i
      go_simp
      refine hKK.out _ _ hH (fun hH => ?_)
      clear hKK KK e98
      try simp only [Act.put, List.setIfInBounds_toArray, List.set_cons_zero, List.set_cons_succ]
      refine wpAnyH_ready (rs := [7]) (by kernel_rfl) (by simp) ?_
      refine AllReadyH.cons (o := { dst := some 29, op := Op.call { callee := Callee.builtin Builtin.append, args := #[Operand.tmp 26, Operand.tmp 28], argTypes := #[31, 31] }, type := 31, pos := "writer.go:92", after := #[⟨4, .data⟩, ⟨6, .data⟩], guard := none }) rfl (fun KK hKK => ?_) AllReadyH.nil
      refine step_append_en (by rfl) _ _ rfl base v2 L rfl TS6.out.e nb 1 x IDL.out rfl (XCE.out ▸ NB.out) (by have := LL.out; omega) (Nat.le_trans HBW.out KP6.out.size) ?_
      intro u2 z2 P1 P2 P3
      have TS7 := Lib.hid (TS6.out.app2 P2.out P1.out P3.out)
      have KP7 := Lib.hid (KP6.out.trans (Kp.grown (f := fun i => v2.ownBlock = some i) P2.out fun _ q => Or.inl q) fun i hi => Or.inl (Or.inr (Or.inr (Or.inl hi))))
      have U2 : Hid (∀ k, u2.ownBlock = some k → v2.ownBlock = some k ∨ w.heap.size ≤ k) := Lib.hid (fun k hk => P3.out.elim (fun e => Or.inl (e ▸ hk)) fun e => Or.inr (by rw [e] at hk; cases hk; exact KP6.out.size))
      have HO2 : Hid (u2.oneCell' = true ∧ u2.cells = #[u2]) := Lib.hid (own_cell P1.out)
      have hN := TS7.out.x
      clear hH TS6 KP6 P1 P2 P3 NB
      refine hKK.out _ _ hN (fun hH => ?_)
      clear hKK KK hN
      try simp only [Act.put, List.setIfInBounds_toArray, List.set_cons_zero, List.set_cons_succ]
      refine tk (i := 8) (oi := { dst := some 30, op := Op.nilCheck (Operand.tmp 22), type := 0, pos := "writer.go:92", after := #[⟨0, .data⟩, ⟨0, .phase⟩, ⟨1, .phase⟩, ⟨2, .phase⟩, ⟨3, .phase⟩, ⟨4, .phase⟩, ⟨5, .phase⟩, ⟨6, .phase⟩, ⟨7, .phase⟩], guard := none }) (v := .pointer (some ⟨wb, 0, none⟩)) rfl (fun wx hS => ?_) hH ?_
      · go_simp
      refine tk (i := 9) (oi := { dst := some 31, op := Op.fieldAddr 80 (Operand.tmp 30) 2, type := 0, pos := "writer.go:92", after := #[⟨8, .data⟩, ⟨0, .phase⟩, ⟨1, .phase⟩, ⟨2, .phase⟩, ⟨3, .phase⟩, ⟨4, .phase⟩, ⟨5, .phase⟩, ⟨6, .phase⟩, ⟨7, .phase⟩], guard := none }) (v := .pointer (some ⟨wb, 98, none⟩)) rfl (fun wx hS => ?_) hH ?_
      · go_simp
      refine wpAnyH_ready (rs := [10]) (by kernel_rfl) (by simp) ?_
      refine AllReadyH.cons (o := { dst := none, op := Op.store 31 (Operand.tmp 31) (Operand.tmp 29), type := 0, pos := "writer.go:92", after := #[⟨9, .data⟩, ⟨7, .data⟩, ⟨7, .chain⟩, ⟨0, .phase⟩, ⟨1, .phase⟩, ⟨2, .phase⟩, ⟨3, .phase⟩, ⟨4, .phase⟩, ⟨5, .phase⟩, ⟨6, .phase⟩, ⟨7, .phase⟩], guard := none }) rfl (fun KK hKK => ?_) AllReadyH.nil
      refine step_store_cell (by rfl) 31 _ _ rfl wb 98 u2 rfl rfl _ 80 TS7.out.i info_slE (by rw [List.length_append, PL.out]; simp) HO2.out.2 HO2.out.1 ?_
      intro z3 P1 P2 P3
      have P1 := P1.out
      rw [set98 PL.out] at P1
      have TS8 := Lib.hid (TS7.out.set2 P2.out P1 WXB.out)
      have KP8 := Lib.hid (KP7.out.trans (Kp.but (f := fun i => i = wb) P2.out (Or.inl rfl)) fun i hi => Or.inl (Or.inl hi))
      have hN := TS8.out.x
      clear hH TS7 KP7 P1 P2 P3 HO2
      refine hKK.out _ _ hN (fun hH => ?_)
      clear hKK KK hN
      try simp only [Act.put, List.setIfInBounds_toArray, List.set_cons_zero, List.set_cons_succ]
      refine wpAnyH_done (by kernel_rfl) ?_ _
      refine NoPanic.normal ?_
      clear hH
      have c97 := get97 PL.out TS8.out.i
      obtain ⟨qb, qc, rfl, q1, q2, q3⟩ := own_form TS8.out.b
      obtain ⟨i0, hi, hz0, hz1, hz2⟩ := info_parts info_u8
      go_wp2_with (refine wpList_append_own_at _ (by rfl) _ _ 30 rfl base 5 i0 _ 1 1 Tryd.underlying30 hi hz0 hz1 hz2 (by rfl) (by decide) v1 B.length (byteCells B) rfl TS8.out.a ⟨qb, 0, none⟩ (S.length + 1) qc (byteCells (s0 :: S)) rfl (by rw [byteCells_length, Nat.mul_one]; rfl) (fun j u hj => by rw [Addr.add_lit, Nat.zero_add]; exact q3 j u hj) (byteCells_one _) (by have := BL.out; unfold maxLen; omega) (by have := BL.out; omega) (Nat.le_trans HBW.out KP8.out.size) ?_)
      intro u1 z4 P1 P2 _ P3
      have P1 : z4.ownsRow base 5 1 u1 (B ++ s0 :: S).length (byteCells (B ++ s0 :: S)) := by rw [List.length_append, byteCells_append]; exact P1
      have KP9 := Lib.hid (KP8.out.trans (Kp.grown (f := fun i => v1.ownBlock = some i) P2 fun _ q => Or.inl q) fun i hi => Or.inl (Or.inr (Or.inl hi)))
      have U1 : Hid (∀ k, u1.ownBlock = some k → v1.ownBlock = some k ∨ w.heap.size ≤ k) := Lib.hid (fun k hk => P3.elim (fun e => Or.inl (e ▸ hk)) fun e => Or.inr (by rw [e] at hk; cases hk; exact KP8.out.size))
      have HO1 : Hid (u1.oneCell' = true ∧ u1.cells = #[u1]) := Lib.hid (own_cell (Lib.hid P1))
      have TS9 := Lib.hid (TS8.out.app1 P2 P1)
      clear TS8 KP8 P1 P2 P3 c97 q1 q2 q3
      have hfit : 97 < (PC ++ [v1, u2, Value.map (some g)]).length := by rw [List.length_append, PL.out]; simp
      go_wp2_with (refine wpList_store_cell (by rfl) 30 _ _ rfl wb 97 u1 rfl rfl _ 80 TS9.out.1 info_sl8 hfit HO1.out.2 HO1.out.1 ?_)
      intro z5 P1 P2 P3
      have P1 := P1.out
      rw [set97 PL.out] at P1
      have KK := Kp.but (f := fun i => i = wb) P2.out (Or.inl rfl)
      go_wp2_with fail
      go_end0
      obtain ⟨t1, t2, t3, t4⟩ := TS9.out
      refine ⟨rfl, u1, u2, g, P1, row_kp t2 KK fun i hi q => row_type t2 t1 (by decide) (q ▸ hi), row_kp t3 KK fun i hi q => row_type t3 t1 (by decide) (q ▸ hi), GB.out, ?_, KP9.out.trans KK fun i hi => Or.inl (Or.inl hi), U1.out, U2.out, Or.inl rfl⟩
      have := set_kp t4 KK fun q => t4.ne_cells t1 q
      rw [HM.out] at this
      rw [List.map_append]
      exact this
end Go.Proofs.YtfhlcondnaahiaaDoor
