/- glyph's reader over bytes that are known, for pack.readHead. -/
import Derived.Test.YtfhlcondnaahiaaDoorHe
import Derived.Test.YtfhlcondnaahiaaDoorPh
import Derived.Test.YtfhlcondnaahiaaDoorGn
import Derived.Test.YtfhlcondnaahiaaDoorPa
import Derived.Test.YtfhlcondnaahiaaDoorHb
import Derived.Test.YtfhlcondnaahiaaDoorHk
import Derived.Test.YtfhlcondnaahiaaDoorHex
import Derived.Test.YtfhlcondnaahiaaDoorTk
section
namespace Go.Proofs.YtfhlcondnaahiaaDoor.Gl
open Go.RowKit
variable {B : Nat}
theorem RdAt.kp {f : Nat → Prop} {w w' : World} {k : Nat} {L : List UInt8} {e : Int} (h : RdAt B w k L e) (q : Kp f w w') (hf : ∀ j, f j → B ≤ j ∧ j ≠ k) : RdAt B w' k L e := by
  obtain ⟨p, ⟨h1, h2⟩, h3, h4, h5, h6⟩ := h
  refine ⟨p, ⟨?_, h2.1, h2.2.1, ?_⟩, h3, h4, h5, h6⟩
  · unfold blockIs
    rw [q.block k h1.lt fun z => (hf k z).2 rfl]
    exact h1
  · rcases h2.2.2 with h0 | ⟨b, o, hb, hc⟩
    · exact Or.inl h0
    · refine Or.inr ⟨b, o, hb, fun j hj => q.cell (hc j hj) fun z => ?_⟩
      have := hf b z
      exact h6 b this.1 _ hb rfl
theorem But.kp {f : Nat → Prop} {b : Nat} {w w' : World} (h : But b w w') (hf : f b ∨ w.heap.size ≤ b) : Kp f w w' :=
  ⟨h.os, h.tape, h.output, h.size, fun k hk hn => h.block k hk fun e => hf.elim (fun q => hn (e ▸ q)) fun q => by omega⟩
end Go.Proofs.YtfhlcondnaahiaaDoor.Gl
namespace Go.Proofs.YtfhlcondnaahiaaDoor
open Go.RowKit Sha
end Go.Proofs.YtfhlcondnaahiaaDoor
end
section
/- pack.readHead, of a head that writeHead wrote. -/
namespace Go.Proofs.YtfhlcondnaahiaaDoor
open Go.RowKit Sha

structure RhS (X : World) (B k g T : Nat) (v : Value) (L : List En) (j : Nat) (R : List UInt8) : Prop where
  rr : Gl.RdAt B X k R 0
  vv : X.ownsRow B 66 35 v (L.take j).length (enCells (L.take j))
  ss : setIs X g ((L.take j).map En.id)
  gg : B ≤ g
  kk : k < B
  gt : g < T
  vt : ∀ i, v.ownBlock = some i → i < T
  tt : B ≤ T
theorem RhS.kp {X Y : World} {B k g T j : Nat} {v : Value} {L : List En} {R : List UInt8} {f : Nat → Prop} (h : RhS X B k g T v L j R) (q : Kp f X Y) (hf : ∀ i, f i → T ≤ i) : RhS Y B k g T v L j R :=
  ⟨h.rr.kp q fun i hi => ⟨Nat.le_trans h.tt (hf i hi), fun e => by have := hf i hi; have := h.kk; have := h.tt; omega⟩,
    row_kp h.vv q fun i hi z => by have := hf i z; have := h.vt i hi; omega, set_kp h.ss q fun z => by have := hf g z; have := h.gt; omega, h.gg, h.kk, h.gt, h.vt, h.tt⟩
theorem RhS.call {X Y : World} {B k g T j : Nat} {v : Value} {L : List En} {R R' : List UInt8} (h : RhS X B k g T v L j R) (q : Gl.But k X Y) (hr : Gl.RdAt B Y k R' 0) : RhS Y B k g T v L j R' := by
  obtain ⟨p, ⟨h1, _⟩, _⟩ := h.rr
  have q : Kp (fun i => i = k) X Y := Gl.But.kp q (Or.inl rfl)
  exact ⟨hr, row_kp h.vv q fun i hi z => row_type h.vv h1 (by decide) (z ▸ hi), set_kp h.ss q fun z => h.ss.ne_cells h1 z, h.gg, h.kk, h.gt, h.vt, h.tt⟩
theorem RhS.make {X : World} {B k g j : Nat} {v : Value} {L : List En} {R : List UInt8} (r : Gl.RdAt B X k R 0) (hv : X.ownsRow B 66 35 v (L.take j).length (enCells (L.take j))) (hs : setIs X g ((L.take j).map En.id)) (hg : B ≤ g) (hk : k < B) (hb : B ≤ X.heap.size) : RhS X B k g X.heap.size v L j R := by
  refine ⟨r, hv, hs, hg, hk, hs.lt, fun i hi => ?_, hb⟩
  rcases hv.2 with ⟨e, h0⟩ | ⟨q, cap, cur, e, hba, hh, hr⟩
  · rw [e] at hi; cases hi
  · rw [e] at hi
    simp only [Value.ownBlock] at hi
    cases hi
    exact (Array.getElem?_eq_some_iff.1 hh).1
section
variable {w : World} {ops : Array Oper} {rest : List Oper} {o : Oper} {a : Act} {Q : Exit → Act → World → Prop}
end
end Go.Proofs.YtfhlcondnaahiaaDoor
end
section
/- pack.Blob, of a blob that was taken. -/
namespace Go.Proofs.YtfhlcondnaahiaaDoor
open Go.RowKit Sha

theorem neq_id (l : List UInt8) (hl : l.length = 32) (w : World) : (binOp .neq 24 (.agg (byteCells l).toArray) (.agg (byteCells l).toArray)).run Tryd.prog w = .ok (.bool false) w := by
  rw [run_neq_struct, show (Op.equalIn 10000 24 (.agg (byteCells l).toArray) (.agg (byteCells l).toArray)).run Tryd.prog w = .ok true w from eq_id_at 9998 l hl w]
  rfl
theorem neq_idO (a : Act) (o : Oper) (x y : Operand) (l : List UInt8) (ho : o.op = .binOp .neq 24 x y 24) (hx : a.eval x = .agg (byteCells l).toArray) (hy : a.eval y = .agg (byteCells l).toArray) (hl : l.length = 32) (w : World) :
    (execOp a.eval o).run Tryd.prog w = .ok (.value (.bool false)) w := by
  unfold execOp
  simp only [ho, hx, hy, Sem.run_bind, neq_id l hl, run_eqGuard_agg _ _ _ _ _ _ _ egtId, Result.andThen_ok, Sem.run_pure]
end Go.Proofs.YtfhlcondnaahiaaDoor
end
section
/- Same, of two rows of entries that are the same. -/
namespace Go.Proofs.YtfhlcondnaahiaaDoor
open Go.RowKit Sha

set_option maxRecDepth 100000 in
theorem egtEnR : Tryd.prog.eqGuardType Tryd.prog.depth 93 = false := by kernel_rfl
set_option maxRecDepth 100000 in
theorem en_fieldsR : ∃ f0 f1 f2 f3 : Field, (Tryd.prog.fieldsOf 93).toList = [f0, f1, f2, f3] ∧ f0.name ≠ "_" ∧ f1.name ≠ "_" ∧ f2.name ≠ "_" ∧ f3.name ≠ "_" ∧ f0.type = 24 ∧ f1.type = 3 ∧ f2.type = 3 ∧ f3.type = 3 ∧ f0.offset = 0 ∧ f1.offset = 32 ∧ f2.offset = 33 ∧ f3.offset = 34 :=
  ⟨_, _, _, _, rfl, by decide, by decide, by decide, by decide, rfl, rfl, rfl, rfl, rfl, rfl, rfl, rfl⟩
set_option maxRecDepth 100000 in
theorem neq_enR (x : En) (hx : x.ok) (w : World) : (binOp .neq 93 (.agg x.cells.toArray) (.agg x.cells.toArray)).run Tryd.prog w = .ok (.bool false) w := by
  have hl : x.id.length = 32 := hx
  have hb : (byteCells x.id).length = 32 := by rw [byteCells_length]; exact hl
  have hn : ∀ (o : Nat) (v : Value), x.cells[o]? = some v → (part 3 x.cells.toArray o).run Tryd.prog w = .ok v w := fun o v h => run_part_plain w (by kernel_rfl) (by simpa using h)
  have g : ∀ (i : Nat) (v : Value), [Value.int .i64 x.kind, Value.int .i64 (x.off : Int), Value.int .i64 (x.len : Int)][i]? = some v → x.cells[32 + i]? = some v := fun i v h => by
    unfold En.cells
    rw [List.getElem?_append_right (by omega), hb, Nat.add_sub_cancel_left]
    exact h
  have c0 : x.cells.toArray.extract 0 (0 + 32) = (byteCells x.id).toArray := by
    unfold En.cells
    simp [hb]
  have h : (Op.equalIn 10000 93 (.agg x.cells.toArray) (.agg x.cells.toArray)).run Tryd.prog w = .ok true w := by
    rw [show (10000 : Nat) = 9999 + 1 from rfl, run_equalIn_struct w 9999 _ _ _ (by kernel_rfl) (by kernel_rfl)]
    obtain ⟨f0, f1, f2, f3, hf, n0, n1, n2, n3, t0, t1, t2, t3, o0, o1, o2, o3⟩ := en_fieldsR
    rw [hf]
    refine eqFields_four 9999 _ _ f0 f1 f2 f3 n0 n1 n2 n3 _ _ _ _ _ _ _ _ w (by rw [t0, o0]; exact partId _ _ _) (by rw [t0, o0]; exact partId _ _ _) ?_ (by rw [t1, o1]; exact hn 32 _ (g 0 _ rfl)) (by rw [t1, o1]; exact hn 32 _ (g 0 _ rfl)) ?_ (by rw [t2, o2]; exact hn 33 _ (g 1 _ rfl)) (by rw [t2, o2]; exact hn 33 _ (g 1 _ rfl)) ?_ (by rw [t3, o3]; exact hn 34 _ (g 2 _ rfl)) (by rw [t3, o3]; exact hn 34 _ (g 2 _ rfl)) ?_
    · rw [t0, c0]; exact eq_id_at 9997 x.id hl w
    · rw [t1, show (9999 : Nat) = 9998 + 1 from rfl, run_equalIn_int w 9998 3 .i64 .i64 _ _ Tryd.underlying3]; simp
    · rw [t2, show (9999 : Nat) = 9998 + 1 from rfl, run_equalIn_int w 9998 3 .i64 .i64 _ _ Tryd.underlying3]; simp
    · rw [t3, show (9999 : Nat) = 9998 + 1 from rfl, run_equalIn_int w 9998 3 .i64 .i64 _ _ Tryd.underlying3]; simp
  rw [run_neq_struct, h]
  rfl
theorem neq_enOR (a : Act) (o : Oper) (x y : Operand) (e : En) (ho : o.op = .binOp .neq 93 x y 93) (hx : a.eval x = .agg e.cells.toArray) (hy : a.eval y = .agg e.cells.toArray) (hl : e.ok) (w : World) :
    (execOp a.eval o).run Tryd.prog w = .ok (.value (.bool false)) w := by
  unfold execOp
  simp only [ho, hx, hy, Sem.run_bind, neq_enR e hl, run_eqGuard_agg _ _ _ _ _ _ _ egtEnR, Result.andThen_ok, Sem.run_pure]
theorem info_enR : (Tryd.prog.info? 93).map (·.size) = some 35 := by kernel_rfl
set_option maxRecDepth 100000 in
set_option maxHeartbeats 2000000 in
theorem same_yes (a1 a2 : Option Addr) (c1 c2 : Nat) (L : List En) (w : World) (h1 : ensIn w a1 L) (h2 : ensIn w a2 L) (h35 : ∀ x ∈ L, x.ok) (hn : L.length ≤ 100000) :
    Calls Tryd.prog 15 #[.slice a1 L.length c1, .slice a2 L.length c2] w fun e w' => e = .returned (.bool true) ∧ Below w.heap.size w w' := by
  have H1 := Lib.hid h1
  have H2 := Lib.hid h2
  have H5 := Lib.hid h35
  obtain ⟨n, hnl⟩ : ∃ n, n = L.length := ⟨_, rfl⟩
  have NL := Lib.hid hnl
  rw [← hnl] at hn ⊢
  clear hnl h1 h2 h35
  go_enter Tryd.func15, Tryd.ntmps15
  go_wp2_with fail
  go_loopw [5] (fun i wr => ∃ j : Nat, j ≤ n ∧ i = .int .i64 (j : Int) ∧ Hid (Below w.heap.size w wr)) (fun i _ => n - (intOf i).toNat)
  case atStart => exact ⟨0, by omega, rfl, Lib.hid (Below.refl _ _)⟩
  case round =>
    obtain ⟨j, hj, rfl, BR⟩ := hrel
    by_cases hlt : j < n
    · have q1 : (j : Int) < (n : Int) := by omega
      have q0 : 0 ≤ (j : Int) := by omega
      have hjl : j < L.length := NL.out ▸ hlt
      obtain ⟨x, hx⟩ : ∃ x, x = L[j] := ⟨_, rfl⟩
      have X1 : Hid x.ok := Lib.hid (H5.out x (hx ▸ List.getElem_mem hjl))
      rcases H1.out with h0 | ⟨b1, o1, rfl, k1⟩
      · rw [h0] at hjl; cases hjl
      rcases H2.out with h0 | ⟨b2, o2, rfl, k2⟩
      · rw [h0] at hjl; cases hjl
      have K1 : Hid (∀ X, Below w.heap.size w X → X.rangeAt b1 (o1 + j * 35) x.cells) := Lib.hid (fun X hX i u hi => (hX.cell (block_lt_of_cell (k1 j hjl i u (hx ▸ hi)))).trans (k1 j hjl i u (hx ▸ hi)))
      have K2 : Hid (∀ X, Below w.heap.size w X → X.rangeAt b2 (o2 + j * 35) x.cells) := Lib.hid (fun X hX i u hi => (hX.cell (block_lt_of_cell (k2 j hjl i u (hx ▸ hi)))).trans (k2 j hjl i u (hx ▸ hi)))
      have X35 : Hid (x.cells.length = 35) := Lib.hid (En.len35 X1.out)
      clear k1 k2 hx hjl
      go_wp2_with fail
      refine wp_region_noPanic ?_
      refine wp_region_held_drew (S := fun w' => Below w.heap.size w w') (by kernel_rfl) (below_drew' BR.out) (fun hH => ?_)
      generalize wr.drew = z0 at *
      refine tk (i := 0) (oi := { dst := some 17, op := Op.move (Operand.tmp 0), type := 41, pos := "ref.go:159", after := #[], guard := none }) (v := .slice (some ⟨b1, o1, none⟩) n c1) rfl (fun wx hS => ?_) hH ?_
      · go_simp
      refine tk (i := 1) (oi := { dst := some 18, op := Op.move (Operand.tmp 5), type := 3, pos := "ref.go:159", after := #[], guard := none }) (v := .int .i64 (j : Int)) rfl (fun wx hS => ?_) hH ?_
      · go_simp
      refine tk (i := 2) (oi := { dst := some 19, op := Op.indexAddr 41 (Operand.tmp 17) (Operand.tmp 18), type := 0, pos := "ref.go:159", after := #[⟨0, .data⟩, ⟨1, .data⟩], guard := none }) (v := .pointer (some ⟨b1, o1 + j * 35, none⟩)) rfl (fun wx hS => ?_) hH ?_
      · go_simp
      refine tky (i := 3) (oi := { dst := some 20, op := Op.load 93 (Operand.tmp 19), type := 93, pos := "ref.go:159", after := #[⟨2, .data⟩], guard := none }) (v := .agg (x.cells).toArray) rfl (yieldsIf_load_mid (by rfl) 93 _ rfl (b1) (o1 + j * 35) rfl (x.cells) _ (fun wx hS => K1.out wx hS) Tryd.underlying93 rfl (by rw [info_enR, X35.out])) hH ?_
      refine tk (i := 4) (oi := { dst := some 21, op := Op.move (Operand.tmp 1), type := 41, pos := "ref.go:159", after := #[], guard := none }) (v := .slice (some ⟨b2, o2, none⟩) n c2) rfl (fun wx hS => ?_) hH ?_
      · go_simp
      refine tk (i := 5) (oi := { dst := some 22, op := Op.move (Operand.tmp 5), type := 3, pos := "ref.go:159", after := #[], guard := none }) (v := .int .i64 (j : Int)) rfl (fun wx hS => ?_) hH ?_
      · go_simp
      refine tk (i := 6) (oi := { dst := some 23, op := Op.indexAddr 41 (Operand.tmp 21) (Operand.tmp 22), type := 0, pos := "ref.go:159", after := #[⟨4, .data⟩, ⟨5, .data⟩], guard := none }) (v := .pointer (some ⟨b2, o2 + j * 35, none⟩)) rfl (fun wx hS => ?_) hH ?_
      · go_simp
      refine tky (i := 7) (oi := { dst := some 24, op := Op.load 93 (Operand.tmp 23), type := 93, pos := "ref.go:159", after := #[⟨6, .data⟩], guard := none }) (v := .agg (x.cells).toArray) rfl (yieldsIf_load_mid (by rfl) 93 _ rfl (b2) (o2 + j * 35) rfl (x.cells) _ (fun wx hS => K2.out wx hS) Tryd.underlying93 rfl (by rw [info_enR, X35.out])) hH ?_
      refine tk (i := 8) (oi := { dst := some 25, op := Op.binOp BinOp.neq 93 (Operand.tmp 20) (Operand.tmp 24) 93, type := 4, pos := "ref.go:159", after := #[⟨3, .data⟩, ⟨7, .data⟩], guard := none }) (v := .bool false) rfl (fun wx hS => ?_) hH ?_
      · exact neq_enOR _ _ _ _ x (by rfl) rfl rfl X1.out wx
      refine wpAnyH_done (by kernel_rfl) ?_ _
      refine NoPanic.normal ?_
      have BR2 := Lib.hid hH
      clear hH BR
      go_wp2_with fail
      go_roundw
      case rel => exact ⟨j + 1, by omega, by go_num, BR2⟩
      case measure => simp [intOf]; omega
    · have q1 : ¬ (j : Int) < (n : Int) := by omega
      go_wp2_with fail
      go_ret
      exact ⟨rfl, BR.out⟩
end Go.Proofs.YtfhlcondnaahiaaDoor
end
section
/- The entries of the document's kind (the law's from); what made holds, blob by blob. -/
namespace Go.Proofs.YtfhlcondnaahiaaDoor
open Go.RowKit Sha

structure Ms.Back (n : UInt8) (s : Ms) : Prop where
  nd : (s.L.map En.id).Nodup
  dl : s.D.length = s.L.length
  each : ∀ i (h : i < s.L.length) (h' : i < s.D.length), ∃ (k8 : UInt8) (N A E : List UInt8), N.length = 16 ∧ s.D[i].2.length ≤ 150 ∧ ((s.D[i].1 = 1 ∧ k8 = 1) ∨ (s.D[i].1 = 2 ∧ k8 = 2)) ∧ s.L[i].kind = s.D[i].1 ∧ s.L[i].id = hmac (kN n 3) (k8 :: s.D[i].2) ∧ s.L[i].len = s.D[i].2.length + 48 ∧ s.L[i].off = A.length ∧ s.B = A ++ (wseal (kN n 1) (kN n 2) k8 (hexL s.L[i].id) N s.D[i].2 ++ E)
theorem V_one {x : UInt8} (h : V x = 1) : x = 1 := UInt8.toNat_inj.1 (by
  have h : ((x.toNat : Nat) : Int) = 1 := h
  have : x.toNat = 1 := by omega
  rw [this]; rfl)
theorem V_two {x : UInt8} (h : V x = 2) : x = 2 := UInt8.toNat_inj.1 (by
  have h : ((x.toNat : Nat) : Int) = 2 := h
  have : x.toNat = 2 := by omega
  rw [this]; rfl)
theorem Ms.Back.step {s : Ms} {n : UInt8} (h : s.Back n) (k8 : UInt8) (b : List UInt8) (hk : V k8 = 1 ∨ V k8 = 2) (hb : b.length ≤ 150) : (msStep n s k8 b).Back n := by
  unfold msStep
  by_cases hin : hmac (kN n 3) (k8 :: b) ∈ s.L.map En.id
  · rw [if_pos hin]
    exact h
  · rw [if_neg hin]
    refine ⟨?_, ?_, ?_⟩
    · rw [List.map_append, List.nodup_append]
      refine ⟨h.nd, by simp, fun x hx y hy e => ?_⟩
      simp only [List.map_cons, List.map_nil, List.mem_singleton] at hy
      exact hin (hy ▸ e ▸ hx)
    · rw [List.length_append, List.length_append, h.dl]; rfl
    · intro i hi hi'
      by_cases hlt : i < s.L.length
      · have hlt' : i < s.D.length := by rw [h.dl]; exact hlt
        obtain ⟨k, N, A, E, h1, h2, h3, h4, h5, h6, h7, h8⟩ := h.each i hlt hlt'
        simp only [List.getElem_append_left hlt, List.getElem_append_left hlt']
        refine ⟨k, N, A, E ++ wseal (kN n 1) (kN n 2) k8 (hexL (hmac (kN n 3) (k8 :: b))) (tbytes [n] s.told 16) b, h1, h2, h3, h4, h5, h6, h7, ?_⟩
        refine (congrArg (fun q => q ++ wseal (kN n 1) (kN n 2) k8 (hexL (hmac (kN n 3) (k8 :: b))) (tbytes [n] s.told 16) b) h8).trans ?_
        simp only [List.append_assoc]
      · have e : i = s.L.length := by simp at hi; omega
        subst e
        refine ⟨k8, tbytes [n] s.told 16, s.B, [], tbytes_16 _ _, ?_, ?_, ?_, ?_, ?_, ?_, ?_⟩
        · simp only [← h.dl, List.getElem_concat_length]; exact hb
        · simp only [← h.dl, List.getElem_concat_length]
          rcases hk with q | q
          · exact Or.inl ⟨q, V_one q⟩
          · exact Or.inr ⟨q, V_two q⟩
        · simp [← h.dl]
        · simp [← h.dl]
        · simp [← h.dl]
        · simp
        · simp [← h.dl]
theorem info_en3R : (Tryd.prog.info? 93).map (fun i => (i.zero, i.size, i.bytes)) = some (some (.agg (zeros 32 ++ [Value.int .i64 0, Value.int .i64 0, Value.int .i64 0]).toArray), 35, 56) := by kernel_rfl
theorem fill_enR (cs : List Value) (hc : cs.length = 35) (w : World) : (Instr.buildSlice 41 1 #[(0, .agg cs.toArray)]).run Tryd.prog w = .ok (.slice (some ⟨w.heap.size, 0, none⟩) 1 1) (w.alloc (.cells cs.toArray 93)) := by
  obtain ⟨i0, hi, hz0, hz1, hz2⟩ := info_parts info_en3R
  generalize zeros 32 ++ [Value.int .i64 0, Value.int .i64 0, Value.int .i64 0] = zs at *
  have h := Great.fill_whole (s := 35) (by decide) [.agg cs.toArray] ((Array.range (1 * 35)).map ((Value.agg zs.toArray).cells[· % (Value.agg zs.toArray).cells.size]!)) (fun v hv => by rw [List.mem_singleton.1 hv]; simp [Value.cells, hc]) (by simp)
  have e : (List.flatMap (fun v => v.cells.toList) [Value.agg cs.toArray]).toArray = cs.toArray := by simp [Value.cells]
  refine run_buildSlice w _ _ 1 _ _ i0 _ Tryd.underlying41 hi hz0 (by rw [hz1]; decide) (by rw [hz1]; decide) ?_
  rw [hz1]
  rw [e] at h
  exact h
theorem buildEnR (x : En) (hx : x.ok) (w : World) : (Instr.build 93 #[(0, .agg (byteCells x.id).toArray), (1, .int .i64 x.kind), (2, .int .i64 (x.off : Int)), (3, .int .i64 (x.len : Int))]).run Tryd.prog w = .ok (.agg x.cells.toArray) w := by
  have h1 : (byteCells x.id).length = 32 := by rw [byteCells_length]; exact hx
  refine Ci.run_build_struct w _ (Tryd.prog.fieldsOf 93) #[(0, 32), (32, 1), (33, 1), (34, 1)] (.agg (zeros 32 ++ [Value.int .i64 0, Value.int .i64 0, Value.int .i64 0]).toArray) _ _ (by kernel_rfl) (by kernel_rfl) (by kernel_rfl) ?_
  show Instr.fill _ (zeros 32 ++ [Value.int .i64 0, Value.int .i64 0, Value.int .i64 0]).toArray [(0, .agg (byteCells x.id).toArray), (1, .int .i64 x.kind), (2, .int .i64 (x.off : Int)), (3, .int .i64 (x.len : Int))] = _
  have hz : (zeros 32).length = 32 := by simp [zeros]
  have e1 : splice (zeros 32 ++ [Value.int .i64 0, Value.int .i64 0, Value.int .i64 0]) 0 (byteCells x.id) = byteCells x.id ++ [Value.int .i64 0, Value.int .i64 0, Value.int .i64 0] := by
    simp [splice, h1, hz]
  have e2 : splice (byteCells x.id ++ [Value.int .i64 0, Value.int .i64 0, Value.int .i64 0]) 32 [Value.int .i64 x.kind] = byteCells x.id ++ [Value.int .i64 x.kind, Value.int .i64 0, Value.int .i64 0] := by
    rw [splice_set _ _ _ (by rw [List.length_append, h1]; decide), List.set_append_right _ _ (by omega)]; simp [h1]
  have e3 : splice (byteCells x.id ++ [Value.int .i64 x.kind, Value.int .i64 0, Value.int .i64 0]) 33 [Value.int .i64 (x.off : Int)] = byteCells x.id ++ [Value.int .i64 x.kind, Value.int .i64 (x.off : Int), Value.int .i64 0] := by
    rw [splice_set _ _ _ (by rw [List.length_append, h1]; simp), List.set_append_right _ _ (by omega)]; simp [h1]
  have e4 : splice (byteCells x.id ++ [Value.int .i64 x.kind, Value.int .i64 (x.off : Int), Value.int .i64 0]) 34 [Value.int .i64 (x.len : Int)] = x.cells := by
    rw [splice_set _ _ _ (by rw [List.length_append, h1]; simp), List.set_append_right _ _ (by omega)]; simp [h1, En.cells]
  rw [Ci.fill_cells _ _ 0 _ (byteCells x.id) rfl _ 0 (by rw [h1]; rfl) (by rw [h1, List.length_append, hz]; omega), e1,
    Ci.fill_cells _ _ 1 _ [Value.int .i64 x.kind] rfl _ 32 rfl (by rw [List.length_append, h1]; simp), e2,
    Ci.fill_cells _ _ 2 _ [Value.int .i64 (x.off : Int)] rfl _ 33 rfl (by rw [List.length_append, h1]; simp), e3,
    Ci.fill_cells _ _ 3 _ [Value.int .i64 (x.len : Int)] rfl _ 34 rfl (by rw [List.length_append, h1]; simp), e4]
  rfl
section
variable {w : World} {ops : Array Oper} {o : Oper} {a : Act} {K : Act → World → Prop} {Q : Exit → Act → World → Prop} {E : Prop}
theorem step_build_enR (hw : Region.wanted o (yielded ops a.tmps) = true) (x : Operand) (ho : o.op = .buildSlice 41 1 #[(0, x)]) (cs : List Value) (hc : cs.length = 35) (hx : a.eval x = .agg cs.toArray)
    (h : K (a.put o.dst (.slice (some ⟨w.heap.size, 0, none⟩) 1 1)) (w.alloc (.cells cs.toArray 93))) : if Region.wanted o (yielded ops a.tmps) = true then Oper.wp Tryd.prog o a w K Q else E := by
  rw [if_pos hw]
  have e : (#[((0 : Nat), x)].map fun (i, x) => (i, a.eval x)) = #[(0, .agg cs.toArray)] := by simp [hx]
  unfold Oper.wp execOp
  simp only [ho, Sem.run_bind, e, fill_enR cs hc, Result.andThen_ok]
  exact h
theorem step_append_enR (hw : Region.wanted o (yielded ops a.tmps) = true) (s x : Operand) (ho : o.op = .call { callee := .builtin .append, args := #[s, x], argTypes := #[41, 41] })
    (base : Nat) (v : Value) (L : List En) (hs : a.eval s = v) (hown : w.ownsRow base 93 35 v L.length (enCells L)) (g c : Nat) (n : En) (hok : n.ok) (hx : a.eval x = .slice (some ⟨g, 0, none⟩) 1 c) (hb : blockIs w g n.cells 93)
    (hn : L.length ≤ 100000) (hbase : base ≤ w.heap.size)
    (h : ∀ v' w', Hid (w'.ownsRow base 93 35 v' (L ++ [n]).length (enCells (L ++ [n]))) → Hid (w.grownBy w' v.ownBlock) → Hid (v'.ownBlock = v.ownBlock ∨ v'.ownBlock = some w.heap.size) → K (a.put o.dst v') w') : if Region.wanted o (yielded ops a.tmps) = true then Oper.wp Tryd.prog o a w K Q else E := by
  rw [if_pos hw]
  obtain ⟨i0, hi, hz0, hz1, hz2⟩ := info_parts info_en3R
  have hcell : ∀ j u, n.cells[j]? = some u → w.cell? ((⟨g, 0, none⟩ : Addr).add j) = some u := fun j u hj => by
    rw [Addr.add_lit, Nat.zero_add, hb.cell]
    exact hj
  obtain ⟨v', w', hr, h2, h3, h4, h5⟩ := run_append_own_at (P := Tryd.prog) w base 41 o.type 93 i0 _ 35 56 Tryd.underlying41 hi hz0 hz1 hz2 zeroEn_size (by decide) v L.length (enCells L) hown ⟨g, 0, none⟩ 1 c n.cells (by rw [En.len35 hok]) hcell n.one (by unfold maxLen; omega) (by omega) hbase
  unfold Oper.wp execOp
  simp only [ho, resolve, invoke, builtin, Sem.run_bind, Sem.run_pure, Result.andThen_ok, List.map_toArray, List.map_cons, List.map_nil, hs, hx, hr]
  refine h v' w' (Lib.hid ?_) (Lib.hid h3) (Lib.hid h5)
  rw [List.length_append, enCells_append, show enCells [n] = n.cells by simp [enCells]]
  exact h2
end
theorem grown_lowR {w X Y : World} {v : Value} {n : Nat} {xs : List Value} (hb : Below w.heap.size w X) (h : X.ownsRow w.heap.size 93 35 v n xs) (hg : X.grownBy Y v.ownBlock) : Below w.heap.size w Y :=
  hb.trans ⟨hg.os, hg.tape, hg.output, hg.size, fun k hk => hg.block k (Nat.lt_of_lt_of_le hk hb.size) fun e => by
    have e : v.ownBlock = some k := by first | exact e | exact e.symm
    have := (h.lt k e).1
    omega⟩
set_option maxRecDepth 100000 in
set_option maxHeartbeats 4000000 in
theorem from_any (a : Option Addr) (c : Nat) (L : List En) (w : World) (h1 : ensIn w a L) (h35 : ∀ x ∈ L, x.ok) (hn : L.length ≤ 1000) :
    Calls Tryd.prog 16 #[.slice a L.length c] w fun e w' => ∃ v, e = .returned v ∧ w'.ownsRow w.heap.size 93 35 v L.length (enCells L) ∧ Below w.heap.size w w' := by
  have H1 := Lib.hid h1
  have H5 := Lib.hid h35
  obtain ⟨n, hnl⟩ : ∃ n, n = L.length := ⟨_, rfl⟩
  have NL := Lib.hid hnl
  have HN := Lib.hid hn
  rw [← hnl]
  rw [← hnl] at hn
  clear hnl h1 h35
  generalize hv0 : Value.slice none 0 0 = v0
  go_enter Tryd.func16, Tryd.ntmps16
  rw [hv0]
  go_wp2_with fail
  go_loopw [3, 4] (fun v i wr => ∃ j : Nat, j ≤ n ∧ i = .int .i64 (j : Int) ∧ Hid (wr.ownsRow w.heap.size 93 35 v (L.take j).length (enCells (L.take j))) ∧ Hid (Below w.heap.size w wr)) (fun _ i _ => n - (intOf i).toNat)
  case atStart => exact ⟨0, by omega, rfl, Lib.hid (hv0 ▸ World.ownsRow_nil _ _ _ _), Lib.hid (Below.refl _ _)⟩
  case round =>
    obtain ⟨j, hj, rfl, OV, BR⟩ := hrel
    by_cases hlt : j < n
    · have q1 : (j : Int) < (n : Int) := by omega
      have q0 : 0 ≤ (j : Int) := by omega
      have hjl : j < L.length := NL.out ▸ hlt
      obtain ⟨x, hx⟩ : ∃ x, x = L[j] := ⟨_, rfl⟩
      have X1 : Hid x.ok := Lib.hid (H5.out x (hx ▸ List.getElem_mem hjl))
      have TK : Hid (L.take (j + 1) = L.take j ++ [x]) := Lib.hid (by rw [List.take_succ_eq_append_getElem hjl, ← hx])
      have LL : Hid ((L.take j).length ≤ 100000) := Lib.hid (by rw [List.length_take]; have := HN.out; omega)
      rcases H1.out with h0 | ⟨b, o, rfl, k1⟩
      · rw [h0] at hjl; cases hjl
      have K1 : Hid (∀ X, Below w.heap.size w X → X.rangeAt b (o + j * 35) x.cells) := Lib.hid (fun X hX i u hi => (hX.cell (block_lt_of_cell (k1 j hjl i u (hx ▸ hi)))).trans (k1 j hjl i u (hx ▸ hi)))
      have XB : Hid (∀ i u, (byteCells x.id)[i]? = some u → x.cells[i]? = some u) := Lib.hid (fun i u hi => by unfold En.cells; rw [List.getElem?_append_left (List.getElem?_eq_some_iff.1 hi).1]; exact hi)
      have XI : Hid (∀ X, Below w.heap.size w X → X.rangeAt b (o + j * 35) (byteCells x.id)) := Lib.hid (fun X hX i u hi => K1.out X hX i u (XB.out i u hi))
      have X32 : Hid ((byteCells x.id).length = 32) := Lib.hid (by rw [byteCells_length]; exact X1.out)
      have C0 : Hid (∀ X, Below w.heap.size w X → X.cell? ⟨b, o + j * 35 + 32, none⟩ = some (.int .i64 x.kind)) := Lib.hid (fun X hX => K1.out X hX 32 _ (by unfold En.cells; rw [List.getElem?_append_right (Nat.le_of_eq X32.out), X32.out]; rfl))
      have C1 : Hid (∀ X, Below w.heap.size w X → X.cell? ⟨b, o + j * 35 + 33, none⟩ = some (.int .i64 (x.off : Int))) := Lib.hid (fun X hX => K1.out X hX 33 _ (by unfold En.cells; rw [List.getElem?_append_right (by rw [X32.out]; decide), X32.out]; rfl))
      have C2 : Hid (∀ X, Below w.heap.size w X → X.cell? ⟨b, o + j * 35 + 34, none⟩ = some (.int .i64 (x.len : Int))) := Lib.hid (fun X hX => K1.out X hX 34 _ (by unfold En.cells; rw [List.getElem?_append_right (by rw [X32.out]; decide), X32.out]; rfl))
      have X35 : Hid (x.cells.length = 35) := Lib.hid (En.len35 X1.out)
      clear k1 hx hjl XB K1
      go_wp2_with fail
      refine wp_region_noPanic ?_
      refine wp_region_held_drew (S := fun w' => Below w.heap.size w w') (by kernel_rfl) (below_drew' BR.out) (fun hH => ?_)
      have OV0 := Lib.hid (row_kp OV.out (Kp.below (f := fun _ => False) (below_drew' (Below.refl wr.heap.size wr))) fun _ _ => id)
      generalize wr.drew = z0 at *
      clear OV BR
      refine tk (i := 0) (oi := { dst := some 11, op := Op.move (Operand.tmp 3), type := 41, pos := "law.go:31", after := #[], guard := none }) (v := u3) rfl (fun wx hS => ?_) hH ?_
      · go_simp
      refine tk (i := 1) (oi := { dst := some 12, op := Op.move (Operand.tmp 0), type := 31, pos := "law.go:31", after := #[], guard := none }) (v := .slice (some ⟨b, o, none⟩) n c) rfl (fun wx hS => ?_) hH ?_
      · go_simp
      refine tk (i := 6) (oi := { dst := some 17, op := Op.move (Operand.tmp 0), type := 31, pos := "law.go:31", after := #[], guard := none }) (v := .slice (some ⟨b, o, none⟩) n c) rfl (fun wx hS => ?_) hH ?_
      · go_simp
      refine tk (i := 11) (oi := { dst := some 22, op := Op.move (Operand.tmp 0), type := 31, pos := "law.go:31", after := #[], guard := none }) (v := .slice (some ⟨b, o, none⟩) n c) rfl (fun wx hS => ?_) hH ?_
      · go_simp
      refine tk (i := 16) (oi := { dst := some 27, op := Op.move (Operand.tmp 0), type := 31, pos := "law.go:31", after := #[], guard := none }) (v := .slice (some ⟨b, o, none⟩) n c) rfl (fun wx hS => ?_) hH ?_
      · go_simp
      refine tk (i := 2) (oi := { dst := some 13, op := Op.move (Operand.tmp 4), type := 3, pos := "law.go:31", after := #[], guard := none }) (v := .int .i64 (j : Int)) rfl (fun wx hS => ?_) hH ?_
      · go_simp
      refine tk (i := 7) (oi := { dst := some 18, op := Op.move (Operand.tmp 4), type := 3, pos := "law.go:31", after := #[], guard := none }) (v := .int .i64 (j : Int)) rfl (fun wx hS => ?_) hH ?_
      · go_simp
      refine tk (i := 12) (oi := { dst := some 23, op := Op.move (Operand.tmp 4), type := 3, pos := "law.go:31", after := #[], guard := none }) (v := .int .i64 (j : Int)) rfl (fun wx hS => ?_) hH ?_
      · go_simp
      refine tk (i := 17) (oi := { dst := some 28, op := Op.move (Operand.tmp 4), type := 3, pos := "law.go:31", after := #[], guard := none }) (v := .int .i64 (j : Int)) rfl (fun wx hS => ?_) hH ?_
      · go_simp
      refine tk (i := 3) (oi := { dst := some 14, op := Op.indexAddr 31 (Operand.tmp 12) (Operand.tmp 13), type := 0, pos := "law.go:31", after := #[⟨1, .data⟩, ⟨2, .data⟩], guard := none }) (v := .pointer (some ⟨b, o + j * 35, none⟩)) rfl (fun wx hS => ?_) hH ?_
      · go_simp
      refine tk (i := 8) (oi := { dst := some 19, op := Op.indexAddr 31 (Operand.tmp 17) (Operand.tmp 18), type := 0, pos := "law.go:31", after := #[⟨6, .data⟩, ⟨7, .data⟩], guard := none }) (v := .pointer (some ⟨b, o + j * 35, none⟩)) rfl (fun wx hS => ?_) hH ?_
      · go_simp
      refine tk (i := 13) (oi := { dst := some 24, op := Op.indexAddr 31 (Operand.tmp 22) (Operand.tmp 23), type := 0, pos := "law.go:31", after := #[⟨11, .data⟩, ⟨12, .data⟩], guard := none }) (v := .pointer (some ⟨b, o + j * 35, none⟩)) rfl (fun wx hS => ?_) hH ?_
      · go_simp
      refine tk (i := 18) (oi := { dst := some 29, op := Op.indexAddr 31 (Operand.tmp 27) (Operand.tmp 28), type := 0, pos := "law.go:31", after := #[⟨16, .data⟩, ⟨17, .data⟩], guard := none }) (v := .pointer (some ⟨b, o + j * 35, none⟩)) rfl (fun wx hS => ?_) hH ?_
      · go_simp
      refine tk (i := 4) (oi := { dst := some 15, op := Op.fieldAddr 66 (Operand.tmp 14) 0, type := 0, pos := "law.go:31", after := #[⟨3, .data⟩], guard := none }) (v := .pointer (some ⟨b, o + j * 35, none⟩)) rfl (fun wx hS => ?_) hH ?_
      · go_simp
      refine tky (i := 5) (oi := { dst := some 16, op := Op.load 24 (Operand.tmp 15), type := 24, pos := "law.go:31", after := #[⟨4, .data⟩], guard := none }) (v := .agg (byteCells x.id).toArray) rfl (yieldsIf_load_mid (by rfl) 24 _ rfl (b) (o + j * 35) rfl (byteCells x.id) _ (fun wx hS => XI.out wx hS) Tryd.underlying24 rfl (by rw [infoId, X32.out])) hH ?_
      refine tk (i := 9) (oi := { dst := some 20, op := Op.fieldAddr 66 (Operand.tmp 19) 1, type := 0, pos := "law.go:31", after := #[⟨8, .data⟩], guard := none }) (v := .pointer (some ⟨b, o + j * 35 + 32, none⟩)) rfl (fun wx hS => ?_) hH ?_
      · go_simp
      refine tk (i := 10) (oi := { dst := some 21, op := Op.load 3 (Operand.tmp 20), type := 3, pos := "law.go:31", after := #[⟨9, .data⟩], guard := none }) (v := .int .i64 x.kind) rfl (fun wx hS => ?_) hH ?_
      · have e1 := C0.out wx hS; go_simp
      refine tk (i := 14) (oi := { dst := some 25, op := Op.fieldAddr 66 (Operand.tmp 24) 2, type := 0, pos := "law.go:31", after := #[⟨13, .data⟩], guard := none }) (v := .pointer (some ⟨b, o + j * 35 + 33, none⟩)) rfl (fun wx hS => ?_) hH ?_
      · go_simp
      refine tk (i := 15) (oi := { dst := some 26, op := Op.load 3 (Operand.tmp 25), type := 3, pos := "law.go:31", after := #[⟨14, .data⟩], guard := none }) (v := .int .i64 (x.off : Int)) rfl (fun wx hS => ?_) hH ?_
      · have e1 := C1.out wx hS; go_simp
      refine tk (i := 19) (oi := { dst := some 30, op := Op.fieldAddr 66 (Operand.tmp 29) 3, type := 0, pos := "law.go:31", after := #[⟨18, .data⟩], guard := none }) (v := .pointer (some ⟨b, o + j * 35 + 34, none⟩)) rfl (fun wx hS => ?_) hH ?_
      · go_simp
      refine tk (i := 20) (oi := { dst := some 31, op := Op.load 3 (Operand.tmp 30), type := 3, pos := "law.go:31", after := #[⟨19, .data⟩], guard := none }) (v := .int .i64 (x.len : Int)) rfl (fun wx hS => ?_) hH ?_
      · have e1 := C2.out wx hS; go_simp
      refine tk (i := 21) (oi := { dst := some 32, op := Op.build 93 #[(0, Operand.tmp 16), (1, Operand.tmp 21), (2, Operand.tmp 26), (3, Operand.tmp 31)], type := 93, pos := "law.go:31", after := #[⟨5, .data⟩, ⟨10, .data⟩, ⟨15, .data⟩, ⟨20, .data⟩], guard := none }) (v := .agg x.cells.toArray) rfl (fun wx hS => ?_) hH ?_
      · exact run_buildO _ 93 _ rfl _ _ (buildEnR x X1.out wx) rfl
      refine wpAnyH_ready (rs := [22]) (by kernel_rfl) (by simp) ?_
      refine AllReadyH.cons (o := { dst := some 33, op := Op.buildSlice 41 1 #[(0, Operand.tmp 32)], type := 41, pos := "law.go:31", after := #[⟨21, .data⟩], guard := none }) rfl (fun KK hKK => ?_) AllReadyH.nil
      have kb := alloc_below z0 (.cells x.cells.toArray 93 (0, 0))
      have OV1 := Lib.hid (row_kp OV0.out (Kp.below (f := fun _ => False) kb) fun _ _ => id)
      have hN := hH.trans (kb.mono hH.size)
      have NB := Lib.hid (blockIs.new z0 x.cells 93)
      clear hH kb OV0
      refine step_build_enR (by rfl) _ rfl x.cells X35.out rfl ?_
      refine hKK.out _ _ hN (fun hH => ?_)
      clear hKK KK hN
      try simp only [Act.put, List.setIfInBounds_toArray, List.set_cons_zero, List.set_cons_succ]
      generalize z0.alloc (.cells x.cells.toArray 93) = z1 at *
      generalize z0.heap.size = nb at *
      refine wpAnyH_ready (rs := [23]) (by kernel_rfl) (by simp) ?_
      refine AllReadyH.cons (o := { dst := some 34, op := Op.call { callee := Callee.builtin Builtin.append, args := #[Operand.tmp 11, Operand.tmp 33], argTypes := #[41, 41] }, type := 41, pos := "law.go:31", after := #[⟨0, .data⟩, ⟨22, .data⟩], guard := none }) rfl (fun KK hKK => ?_) AllReadyH.nil
      refine step_append_enR (by rfl) _ _ rfl w.heap.size u3 (L.take j) rfl OV1.out nb 1 x X1.out rfl NB.out LL.out hH.size ?_
      intro u2 z2 P1 P2 P3
      have hN := grown_lowR hH OV1.out P2.out
      have OV2 : Hid (z2.ownsRow w.heap.size 93 35 u2 (L.take (j + 1)).length (enCells (L.take (j + 1)))) := Lib.hid (by rw [TK.out]; exact P1.out)
      obtain ⟨A2, cc2, e2⟩ := row_slice OV2.out
      have e3 : (L.take (j + 1)).length = j + 1 := by rw [List.length_take]; have := NL.out; omega
      rw [e3] at e2
      subst e2
      clear hH P1 P2 P3 NB OV1
      refine hKK.out _ _ hN (fun hH => ?_)
      clear hKK KK hN
      try simp only [Act.put, List.setIfInBounds_toArray, List.set_cons_zero, List.set_cons_succ]
      refine wpAnyH_ready (rs := [24]) (by kernel_rfl) (by simp) ?_
      refine AllReadyH.cons (o := { dst := some 3, op := Op.assign (Operand.tmp 34), type := 41, pos := "law.go:31", after := #[⟨23, .data⟩, ⟨23, .chain⟩, ⟨0, .phase⟩, ⟨1, .phase⟩, ⟨2, .phase⟩, ⟨3, .phase⟩, ⟨4, .phase⟩, ⟨5, .phase⟩, ⟨6, .phase⟩, ⟨7, .phase⟩, ⟨8, .phase⟩, ⟨9, .phase⟩, ⟨10, .phase⟩, ⟨11, .phase⟩, ⟨12, .phase⟩, ⟨13, .phase⟩, ⟨14, .phase⟩, ⟨15, .phase⟩, ⟨16, .phase⟩, ⟨17, .phase⟩, ⟨18, .phase⟩, ⟨19, .phase⟩, ⟨20, .phase⟩, ⟨21, .phase⟩, ⟨22, .phase⟩, ⟨23, .phase⟩], guard := none }) rfl (fun KK hKK => ?_) AllReadyH.nil
      go_simp
      refine hKK.out _ _ hH (fun hH => ?_)
      clear hKK KK
      try simp only [Act.put, List.setIfInBounds_toArray, List.set_cons_zero, List.set_cons_succ]
      refine wpAnyH_done (by kernel_rfl) ?_ _
      refine NoPanic.normal ?_
      have BR2 := Lib.hid hH
      clear hH
      go_wp2_with fail
      go_roundw
      case rel => exact ⟨j + 1, by omega, by go_num, OV2, BR2⟩
      case measure => simp [intOf]; omega
    · have q1 : ¬ (j : Int) < (n : Int) := by omega
      have hjn : j = n := by omega
      have OV2 : Hid (wr.ownsRow w.heap.size 93 35 u3 n (enCells L)) := Lib.hid (by
        have h := OV.out
        have e : L.take j = L := by rw [hjn, NL.out]; exact List.take_length
        rw [e, ← NL.out] at h
        exact h)
      obtain ⟨A, cc, e⟩ := row_slice OV2.out
      subst e
      clear OV
      go_wp2_with fail
      go_ret
      exact ⟨_, rfl, OV2.out, BR.out⟩
end Go.Proofs.YtfhlcondnaahiaaDoor
end
