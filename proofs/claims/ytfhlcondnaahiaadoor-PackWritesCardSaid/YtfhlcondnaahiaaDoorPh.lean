/- pack.writeHead. -/
import Derived.Test.YtfhlcondnaahiaaDoorTk
import Derived.Test.YtfhlcondnaahiaaDoorPd
import Derived.Test.YtfhlcondnaahiaaDoorHd
namespace Go.Proofs.YtfhlcondnaahiaaDoor
open Go.RowKit Sha

def enB (x : En) : List UInt8 := x.id ++ (Gl.numBytes x.kind.toNat ++ Gl.numBytes x.len)
def headP (L : List En) (j : Nat) : List UInt8 := [72, 89, 104] ++ Gl.numBytes L.length ++ (L.take j).flatMap enB
def headB (L : List En) : List UInt8 := headP L L.length
def En.fine (x : En) : Prop := x.ok ∧ (x.kind = 1 ∨ x.kind = 2) ∧ x.len ≤ 2000000
theorem numB_nine (n : Nat) (h : n ≤ 2000000) : (Gl.numBytes n).length ≤ 4 := Gl.numBytes_le 3 n (by omega)
theorem enB_len (x : En) (h : x.fine) : (enB x).length ≤ 37 ∧ 34 ≤ (enB x).length := by
  obtain ⟨h1, h2, h3⟩ := h
  have a1 : (Gl.numBytes x.kind.toNat).length = 1 := by rcases h2 with e | e <;> rw [e] <;> rw [Gl.numBytes_small (by decide)] <;> rfl
  have a2 := numB_nine x.len h3
  have a3 := Gl.numBytes_pos x.len
  have a4 : x.id.length = 32 := h1
  unfold enB
  rw [List.length_append, List.length_append]
  omega
theorem headP_len (L : List En) (h : ∀ x ∈ L, x.fine) (hl : L.length ≤ 2000000) (j : Nat) : (headP L j).length ≤ 7 + 37 * L.length := by
  unfold headP
  rw [List.length_append, List.length_append]
  have a1 := numB_nine L.length hl
  have a2 : ∀ M : List En, (∀ x ∈ M, x.fine) → (M.flatMap enB).length ≤ 37 * M.length := by
    intro M
    induction M with
    | nil => intro _; simp
    | cons x M ih =>
      intro hM
      have := ih fun y hy => hM y (List.mem_cons_of_mem _ hy)
      have := (enB_len x (hM x (List.mem_cons_self ..))).1
      rw [List.flatMap_cons, List.length_append, List.length_cons]
      omega
  have := a2 (L.take j) fun x hx => h x (List.mem_of_mem_take hx)
  rw [List.length_take] at this
  show 3 + _ + _ ≤ _
  omega
theorem headP_step (L : List En) (j : Nat) (hj : j < L.length) : headP L (j + 1) = headP L j ++ enB L[j] := by
  unfold headP
  rw [List.take_succ_eq_append_getElem hj, List.flatMap_append]
  simp [List.append_assoc]
theorem outNum_nat (X : List UInt8) (z : Int) (h0 : 0 ≤ z) (h1 : z < 4611686018427387904) : Gl.outNum (X, 0) z = (X ++ Gl.numBytes z.toNat, 0) := by
  unfold Gl.outNum
  rw [if_neg (by simp), if_neg (by omega)]
def ensIn (w : World) (a : Option Addr) (L : List En) : Prop := L = [] ∨ ∃ b o, a = some ⟨b, o, none⟩ ∧ ∀ j (h : j < L.length), w.rangeAt b (o + j * 35) L[j].cells
theorem ensIn.below {w w' : World} {a : Option Addr} {L : List En} (h : ensIn w a L) (k : Below w.heap.size w w') (h35 : ∀ x ∈ L, x.ok) : ensIn w' a L := by
  rcases h with h | ⟨b, o, e, hc⟩
  · exact Or.inl h
  · refine Or.inr ⟨b, o, e, fun j hj i u hi => ?_⟩
    have := hc j hj i u hi
    exact (k.cell (block_lt_of_cell this)).trans this
theorem nums2 (B k : Nat) (X : List UInt8) (a b : Int) (q : Nat) (w : World) (h : Gl.OutAt w B k (X, 0)) (ha : 0 ≤ a ∧ a < 4611686018427387904) (hb : 0 ≤ b ∧ b < 4611686018427387904) (hl : X.length ≤ 100000000) (hq : blockIs w q [.int .i64 a, .int .i64 b] 3) (hqk : q ≠ k) :
    Calls Tryd.prog 50 #[.pointer (some ⟨k, 0, none⟩), .slice (some ⟨q, 0, none⟩) 2 2] w fun e w' => e = .returned (.pointer (some ⟨k, 0, none⟩)) ∧ Gl.OutAt w' B k (X ++ (Gl.numBytes a.toNat ++ Gl.numBytes b.toNat), 0) ∧ Below B w w' ∧ Gl.KeptT k w w' := by
  have e : Gl.outNums (X, 0) [a, b] = (X ++ (Gl.numBytes a.toNat ++ Gl.numBytes b.toNat), 0) := by
    show Gl.outNum (Gl.outNum (X, 0) a) b = _
    rw [outNum_nat X a ha.1 ha.2, outNum_nat _ b hb.1 hb.2, List.append_assoc]
  have wf : ∀ z : Int, 0 ≤ z ∧ z < 4611686018427387904 → (Lit.int .i64 z).wf = true := fun z hz => by
    simp only [Lit.wf, Bool.and_eq_true, decide_eq_true_eq]
    exact ⟨Int.le_trans (by decide) hz.1, Int.le_trans (Int.le_of_lt hz.2) (by decide)⟩
  have := Gl.nums_any B k (X, 0) (some ⟨q, 0, none⟩) [a, b] 2 w h (fun z hz => by
    rcases List.mem_cons.1 hz with rfl | hz
    · exact wf _ ha
    · rw [List.mem_singleton.1 hz]; exact wf _ hb) hl (by simp) (fun w' _ hk => by
      have hb := hk.is hq hqk (by decide)
      refine Or.inr ⟨_, _, rfl, fun j hj => ?_⟩
      rw [Nat.zero_add]
      exact hb.cell j)
  rw [e] at this
  exact this

theorem en_kind {X : World} {xb : Nat} {x : En} {t : TypeId} (hx : x.ok) (h : blockIs X xb x.cells t) : X.cell? ⟨xb, 32, none⟩ = some (.int .i64 x.kind) := by
  have h1 : (byteCells x.id).length = 32 := by rw [byteCells_length]; exact hx
  rw [h.cell]
  unfold En.cells
  rw [List.getElem?_append_right (by omega), h1]
  rfl
theorem en_len {X : World} {xb : Nat} {x : En} {t : TypeId} (hx : x.ok) (h : blockIs X xb x.cells t) : X.cell? ⟨xb, 34, none⟩ = some (.int .i64 (x.len : Int)) := by
  have h1 : (byteCells x.id).length = 32 := by rw [byteCells_length]; exact hx
  rw [h.cell]
  unfold En.cells
  rw [List.getElem?_append_right (by omega), h1]
  rfl
theorem en_id {X : World} {xb : Nat} {x : En} {t : TypeId} (hx : x.ok) (h : blockIs X xb x.cells t) : bytesIn X (some ⟨xb, 0, none⟩) x.id := by
  have hx' : x.id.length = 32 := hx
  refine Or.inr ⟨_, _, rfl, fun j hj => ?_⟩
  have h1 := h.cell (0 + j)
  rw [h1, Nat.zero_add]
  unfold En.cells
  rw [List.getElem?_append_left (by rw [byteCells_length]; exact hj)]
  exact byteCells_get _ _ hj
set_option maxRecDepth 100000 in
set_option maxHeartbeats 4000000 in
theorem writeHead_any (a : Option Addr) (c : Nat) (L : List En) (w : World) (hl : L.length ≤ 1000) (hf : ∀ x ∈ L, x.fine) (hin : ensIn w a L) :
    Calls Tryd.prog 29 #[.slice a L.length c] w fun e w' => ∃ v, e = .returned (.tuple #[v, .int .i64 0]) ∧ Ci.ownB w' w.heap.size v (headB L) ∧ Below w.heap.size w w' := by
  have HIN := Lib.hid hin
  have HF := Lib.hid hf
  have HL := Lib.hid hl
  have BG := Gl.begin_c 104 104 rfl w
  have HPL := Lib.hid (headP_len L hf (by omega))
  have hzE : ∀ w : World, (zeroValue 66).run Tryd.prog w = .ok (.agg (zeros 32 ++ [Value.int .i64 0, Value.int .i64 0, Value.int .i64 0]).toArray) w := fun w => by kernel_rfl
  have ZL : Hid ((zeros 32 ++ [Value.int .i64 0, Value.int .i64 0, Value.int .i64 0]).length = 35) := Lib.hid (by simp [zeros])
  generalize zeros 32 ++ [Value.int .i64 0, Value.int .i64 0, Value.int .i64 0] = ZE at *
  clear hin hf hl
  go_enter Tryd.func29, Tryd.ntmps29
  go_wp2_with (with_reducible refine BG.mono ?_)
  rintro e w1 ⟨k, rfl, ho, kb⟩
  have NM := Gl.num1 w.heap.size k _ (L.length : Int) w1 ho (by
    have := HL.out
    simp only [Lit.wf, Bool.and_eq_true, decide_eq_true_eq]
    exact ⟨Int.le_trans (by decide) (Int.natCast_nonneg _), Int.le_trans (show (L.length : Int) ≤ 1000 by omega) (by decide)⟩) (by simp)
  rw [outNum_nat _ _ (by omega) (by have := HL.out; omega)] at NM
  have KB1 := Lib.hid kb
  clear BG ho kb
  go_wp2_with (with_reducible refine NM.mono ?_)
  rintro e w2 ⟨rfl, ho, kb⟩
  have KB2 : Hid (Below w.heap.size w w2) := Lib.hid (KB1.out.trans kb)
  have HO : Hid (Gl.OutAt w2 w.heap.size k (headP L 0, 0)) := Lib.hid (by
    have e : headP L 0 = [72, 89, 104] ++ Gl.numBytes (L.length : Int).toNat := by simp [headP]
    rw [e]
    exact ho)
  clear KB1 NM ho kb
  go_wp2_with fail
  go_loopw [14] (fun i wr => ∃ j : Nat, j ≤ L.length ∧ i = .int .i64 j ∧ Hid (Gl.OutAt wr w.heap.size k (headP L j, 0)) ∧ Hid (Below w.heap.size w wr)) (fun i _ => L.length - (intOf i).toNat)
  case atStart => exact ⟨0, Nat.zero_le _, rfl, HO, KB2⟩
  case round =>
    clear HO KB2
    obtain ⟨j, hj, rfl, HO, KB⟩ := hrel
    have p0 : 0 ≤ (j : Int) := by omega
    by_cases hlt : j < L.length
    · have q0 : (j : Int) < (L.length : Int) := by omega
      rcases HIN.out.below KB.out (fun x hx => (HF.out x hx).1) with h0 | ⟨b, o, rfl, hc⟩
      · rw [h0] at hlt; exact absurd hlt (Nat.not_lt_zero _)
      have RA := Lib.hid (hc j hlt)
      have ST := Lib.hid (headP_step L j hlt)
      have FX := Lib.hid (HF.out _ (List.getElem_mem hlt))
      clear hc
      generalize L[j] = x at *
      have XL := Lib.hid (En.len35 FX.out.1)
      go_wp2_with (first
        | (refine Ci.wpList_load_mid_if (by rfl) 66 _ rfl b (o + j * 35) rfl x.cells _ RA.out Tryd.underlying66 rfl (by rw [info_en, XL.out]) ?_)
        | (refine wpList_store_block rfl 66 _ _ rfl _ 0 x.cells rfl rfl ZE 66 (blockIs.new _ ZE 66) (by rw [info_en, XL.out]) (by rw [XL.out, ZL.out]; omega) x.one ?_))
      intro y0 P1 P2 P3
      have XB := P1.out
      rw [splice_all _ _ (by rw [XL.out, ZL.out])] at XB
      have KB0 := Lib.hid ((alloc_below wr (.cells ZE.toArray 66 (0, 0))).trans (P2.out.below (Nat.le_refl _) (by simp)))
      have KB3 := Lib.hid (KB.out.trans (KB0.out.mono KB.out.size))
      have HO3 := Lib.hid (HO.out.below KB0.out)
      have XK : Hid (wr.heap.size ≠ k) := Lib.hid (Nat.ne_of_gt HO.out.lt.2)
      have XG : Hid (w.heap.size ≤ wr.heap.size) := Lib.hid KB.out.size
      have XB := Lib.hid XB
      clear P1 P2 P3 KB0 KB HO RA
      generalize wr.heap.size = xb at *
      go_wp2_with fail
      refine wp_region_noPanic ?_
      refine wp_region_held_drew (S := fun X => blockIs X xb x.cells 66) (by kernel_rfl) (XB.out.drewN 1) (fun hH => ?_)
      have HO4 : Hid (Gl.OutAt y0.drew w.heap.size k (headP L j, 0)) := Lib.hid (HO3.out.below (below_drew' (Below.refl _ _)))
      have KB4 := Lib.hid (below_drew' KB3.out)
      clear XB HO3 KB3
      generalize y0.drew = z0 at *
      refine tk (i := 0) (oi := { dst := some 18, op := Op.move (Operand.tmp 4), type := 110, pos := "pack.go:110", after := #[], guard := none }) (v := .pointer (some ⟨k, 0, none⟩)) rfl (fun wx hS => ?_) hH ?_
      · go_simp
      refine tk (i := 1) (oi := { dst := some 19, op := Op.fieldAddr 66 (Operand.tmp 6) 0, type := 0, pos := "pack.go:110", after := #[], guard := none }) (v := .pointer (some ⟨xb, 0, none⟩)) rfl (fun wx hS => ?_) hH ?_
      · go_simp
      refine tk (i := 2) (oi := { dst := some 20, op := Op.slice 24 (Operand.tmp 19) none none none, type := 30, pos := "pack.go:110", after := #[⟨1, .data⟩], guard := none }) (v := .slice (some ⟨xb, 0, none⟩) 32 32) rfl (fun wx hS => ?_) hH ?_
      · go_simp
      refine tk (i := 5) (oi := { dst := some 23, op := Op.fieldAddr 66 (Operand.tmp 6) 1, type := 0, pos := "pack.go:110", after := #[], guard := none }) (v := .pointer (some ⟨xb, 32, none⟩)) rfl (fun wx hS => ?_) hH ?_
      · go_simp
      refine tk (i := 6) (oi := { dst := some 24, op := Op.load 3 (Operand.tmp 23), type := 3, pos := "pack.go:110", after := #[⟨5, .data⟩], guard := none }) (v := .int .i64 x.kind) rfl (fun wx hS => ?_) hH ?_
      · have e1 := en_kind FX.out.1 hS; go_simp
      refine tk (i := 7) (oi := { dst := some 25, op := Op.fieldAddr 66 (Operand.tmp 6) 3, type := 0, pos := "pack.go:110", after := #[], guard := none }) (v := .pointer (some ⟨xb, 34, none⟩)) rfl (fun wx hS => ?_) hH ?_
      · go_simp
      refine tk (i := 8) (oi := { dst := some 26, op := Op.load 3 (Operand.tmp 25), type := 3, pos := "pack.go:110", after := #[⟨7, .data⟩], guard := none }) (v := .int .i64 (x.len : Int)) rfl (fun wx hS => ?_) hH ?_
      · have e1 := en_len FX.out.1 hS; go_simp
      refine wpAnyH_ready (rs := [3, 9]) (by kernel_rfl) (by simp) ?_
      refine AllReadyH.cons (o := { dst := some 21, op := Op.buildSlice 71 1 #[(0, Operand.tmp 20)], type := 71, pos := "pack.go:110", after := #[⟨2, .data⟩], guard := none }) rfl (fun KK hKK => ?_) (AllReadyH.cons (o := { dst := some 27, op := Op.buildSlice 145 2 #[(0, Operand.tmp 24), (1, Operand.tmp 26)], type := 145, pos := "pack.go:110", after := #[⟨6, .data⟩, ⟨8, .data⟩], guard := none }) rfl (fun KK hKK => ?_) AllReadyH.nil)
      · skip
        have kb := alloc_below z0 (.cells #[.slice (some ⟨xb, 0, none⟩) 32 32] 30 (0, 0))
        have CA : Hid (blockIs (z0.alloc (.cells #[.slice (some ⟨xb, 0, none⟩) 32 32] 30 (0, 0))) z0.heap.size [.slice (some ⟨xb, 0, none⟩) 32 32] 30) := Lib.hid (blockIs.new z0 [.slice (some ⟨xb, 0, none⟩) 32 32] 30)
        have NCA : Hid (z0.heap.size ≠ k) := Lib.hid (Nat.ne_of_gt HO4.out.lt.2)
        have hN := hH.below kb hH.lt
        have KB4 := Lib.hid (KB4.out.trans (kb.mono KB4.out.size))
        have HO4 := Lib.hid (HO4.out.below kb)
        clear hH kb
        go_simp
        refine hKK.out _ _ hN (fun hH => ?_)
        clear hKK KK hN
        try simp only [Act.put, List.setIfInBounds_toArray, List.set_cons_zero, List.set_cons_succ]
        generalize z0.alloc (.cells #[.slice (some ⟨xb, 0, none⟩) 32 32] 30) = z1 at *
        generalize z0.heap.size = qa at *
        refine wpAnyH_ready (rs := [4, 9]) (by kernel_rfl) (by simp) ?_
        refine AllReadyH.cons (o := { dst := some 22, op := Op.call { callee := Callee.value (Operand.func 51), args := #[Operand.tmp 18, Operand.tmp 21], argTypes := #[110, 71] }, type := 110, pos := "pack.go:110", after := #[⟨0, .data⟩, ⟨3, .data⟩], guard := none }) rfl (fun KK hKK => ?_) (AllReadyH.cons (o := { dst := some 27, op := Op.buildSlice 145 2 #[(0, Operand.tmp 24), (1, Operand.tmp 26)], type := 145, pos := "pack.go:110", after := #[⟨6, .data⟩, ⟨8, .data⟩], guard := none }) rfl (fun KK hKK => ?_) AllReadyH.nil)
        · skip
          have RW := Gl.raw1g w.heap.size k (headP L j, 0) (some ⟨xb, 0, none⟩) 32 x.id z1 qa HO4.out (en_id FX.out.1 hH) (fun h => by cases h) (by have := HPL.out j; have := HL.out; show (headP L j).length ≤ _; omega) (by have : x.id.length = 32 := FX.out.1; omega) (by have h1 := CA.out.cell 0; have h2 : x.id.length = 32 := FX.out.1; rw [h2]; exact h1)
          rw [show Gl.outRaw (headP L j, 0) x.id = (headP L j ++ x.id, 0) from rfl] at RW
          go_simp
          with_reducible refine RW.mono ?_
          rintro e z2 ⟨rfl, ho, kb, kt⟩
          have hN := kt.is hH XK.out (by decide)
          have CA := Lib.hid (kt.is CA.out NCA.out (by decide))
          have KB4 := Lib.hid (KB4.out.trans kb)
          have HO4 := Lib.hid ho
          clear hH kb kt ho RW
          refine hKK.out _ _ hN (fun hH => ?_)
          clear hKK KK hN
          try simp only [Act.put, List.setIfInBounds_toArray, List.set_cons_zero, List.set_cons_succ]
          refine wpAnyH_ready (rs := [9]) (by kernel_rfl) (by simp) ?_
          refine AllReadyH.cons (o := { dst := some 27, op := Op.buildSlice 145 2 #[(0, Operand.tmp 24), (1, Operand.tmp 26)], type := 145, pos := "pack.go:110", after := #[⟨6, .data⟩, ⟨8, .data⟩], guard := none }) rfl (fun KK hKK => ?_) AllReadyH.nil
          have kb := alloc_below z2 (.cells #[.int .i64 x.kind, .int .i64 (x.len : Int)] 3 (0, 0))
          have CB : Hid (blockIs (z2.alloc (.cells #[.int .i64 x.kind, .int .i64 (x.len : Int)] 3 (0, 0))) z2.heap.size [.int .i64 x.kind, .int .i64 (x.len : Int)] 3) := Lib.hid (blockIs.new z2 [.int .i64 x.kind, .int .i64 (x.len : Int)] 3)
          have NCB : Hid (z2.heap.size ≠ k) := Lib.hid (Nat.ne_of_gt HO4.out.lt.2)
          have hN := hH.below kb hH.lt
          have KB4 := Lib.hid (KB4.out.trans (kb.mono KB4.out.size))
          have HO4 := Lib.hid (HO4.out.below kb)
          clear hH kb
          go_simp
          refine hKK.out _ _ hN (fun hH => ?_)
          clear hKK KK hN
          try simp only [Act.put, List.setIfInBounds_toArray, List.set_cons_zero, List.set_cons_succ]
          generalize z2.alloc (.cells #[.int .i64 x.kind, .int .i64 (x.len : Int)] 3) = z3 at *
          generalize z2.heap.size = qb at *
          have NU := nums2 w.heap.size k (headP L j ++ x.id) x.kind (x.len : Int) qb z3 HO4.out (by rcases FX.out.2.1 with e | e <;> rw [e] <;> decide) (by have := FX.out.2.2; omega) (by have := HPL.out j; have := HL.out; have : x.id.length = 32 := FX.out.1; rw [List.length_append]; omega) CB.out NCB.out
          refine wpAnyH_ready (rs := [10]) (by kernel_rfl) (by simp) ?_
          refine AllReadyH.cons (o := { dst := some 28, op := Op.call { callee := Callee.value (Operand.func 50), args := #[Operand.tmp 22, Operand.tmp 27], argTypes := #[110, 145] }, type := 110, pos := "pack.go:110", after := #[⟨4, .data⟩, ⟨9, .data⟩, ⟨4, .chain⟩], guard := none }) rfl (fun KK hKK => ?_) AllReadyH.nil
          go_simp
          with_reducible refine NU.mono ?_
          rintro e z4 ⟨rfl, ho, kb, kt⟩
          have hN := kt.is hH XK.out (by decide)
          have KB5 := Lib.hid (KB4.out.trans kb)
          have HO5 : Hid (Gl.OutAt z4 w.heap.size k (headP L (j + 1), 0)) := Lib.hid (by rw [ST.out]; unfold enB; rw [← List.append_assoc]; exact ho)
          clear hH kb kt ho NU KB4 HO4
          refine hKK.out _ _ hN (fun hH => ?_)
          clear hKK KK hN
          try simp only [Act.put, List.setIfInBounds_toArray, List.set_cons_zero, List.set_cons_succ]
          refine wpAnyH_done (by kernel_rfl) ?_ _
          refine NoPanic.normal ?_
          clear hH
          have hll := HL.out
          go_wp2_with fail
          go_roundw
          case rel => exact ⟨j + 1, by omega, by go_num, HO5, KB5⟩
          case measure => simp [intOf]; omega
        · skip
          have kb := alloc_below z1 (.cells #[.int .i64 x.kind, .int .i64 (x.len : Int)] 3 (0, 0))
          have CB : Hid (blockIs (z1.alloc (.cells #[.int .i64 x.kind, .int .i64 (x.len : Int)] 3 (0, 0))) z1.heap.size [.int .i64 x.kind, .int .i64 (x.len : Int)] 3) := Lib.hid (blockIs.new z1 [.int .i64 x.kind, .int .i64 (x.len : Int)] 3)
          have NCB : Hid (z1.heap.size ≠ k) := Lib.hid (Nat.ne_of_gt HO4.out.lt.2)
          have CA := Lib.hid (CA.out.below kb CA.out.lt)
          have hN := hH.below kb hH.lt
          have KB4 := Lib.hid (KB4.out.trans (kb.mono KB4.out.size))
          have HO4 := Lib.hid (HO4.out.below kb)
          clear hH kb
          go_simp
          refine hKK.out _ _ hN (fun hH => ?_)
          clear hKK KK hN
          try simp only [Act.put, List.setIfInBounds_toArray, List.set_cons_zero, List.set_cons_succ]
          generalize z1.alloc (.cells #[.int .i64 x.kind, .int .i64 (x.len : Int)] 3) = z2 at *
          generalize z1.heap.size = qb at *
          refine wpAnyH_ready (rs := [4]) (by kernel_rfl) (by simp) ?_
          refine AllReadyH.cons (o := { dst := some 22, op := Op.call { callee := Callee.value (Operand.func 51), args := #[Operand.tmp 18, Operand.tmp 21], argTypes := #[110, 71] }, type := 110, pos := "pack.go:110", after := #[⟨0, .data⟩, ⟨3, .data⟩], guard := none }) rfl (fun KK hKK => ?_) AllReadyH.nil
          have RW := Gl.raw1g w.heap.size k (headP L j, 0) (some ⟨xb, 0, none⟩) 32 x.id z2 qa HO4.out (en_id FX.out.1 hH) (fun h => by cases h) (by have := HPL.out j; have := HL.out; show (headP L j).length ≤ _; omega) (by have : x.id.length = 32 := FX.out.1; omega) (by have h1 := CA.out.cell 0; have h2 : x.id.length = 32 := FX.out.1; rw [h2]; exact h1)
          rw [show Gl.outRaw (headP L j, 0) x.id = (headP L j ++ x.id, 0) from rfl] at RW
          go_simp
          with_reducible refine RW.mono ?_
          rintro e z3 ⟨rfl, ho, kb, kt⟩
          have hN := kt.is hH XK.out (by decide)
          have CA := Lib.hid (kt.is CA.out NCA.out (by decide))
          have CB := Lib.hid (kt.is CB.out NCB.out (by decide))
          have KB4 := Lib.hid (KB4.out.trans kb)
          have HO4 := Lib.hid ho
          clear hH kb kt ho RW
          refine hKK.out _ _ hN (fun hH => ?_)
          clear hKK KK hN
          try simp only [Act.put, List.setIfInBounds_toArray, List.set_cons_zero, List.set_cons_succ]
          have NU := nums2 w.heap.size k (headP L j ++ x.id) x.kind (x.len : Int) qb z3 HO4.out (by rcases FX.out.2.1 with e | e <;> rw [e] <;> decide) (by have := FX.out.2.2; omega) (by have := HPL.out j; have := HL.out; have : x.id.length = 32 := FX.out.1; rw [List.length_append]; omega) CB.out NCB.out
          refine wpAnyH_ready (rs := [10]) (by kernel_rfl) (by simp) ?_
          refine AllReadyH.cons (o := { dst := some 28, op := Op.call { callee := Callee.value (Operand.func 50), args := #[Operand.tmp 22, Operand.tmp 27], argTypes := #[110, 145] }, type := 110, pos := "pack.go:110", after := #[⟨4, .data⟩, ⟨9, .data⟩, ⟨4, .chain⟩], guard := none }) rfl (fun KK hKK => ?_) AllReadyH.nil
          go_simp
          with_reducible refine NU.mono ?_
          rintro e z4 ⟨rfl, ho, kb, kt⟩
          have hN := kt.is hH XK.out (by decide)
          have KB5 := Lib.hid (KB4.out.trans kb)
          have HO5 : Hid (Gl.OutAt z4 w.heap.size k (headP L (j + 1), 0)) := Lib.hid (by rw [ST.out]; unfold enB; rw [← List.append_assoc]; exact ho)
          clear hH kb kt ho NU KB4 HO4
          refine hKK.out _ _ hN (fun hH => ?_)
          clear hKK KK hN
          try simp only [Act.put, List.setIfInBounds_toArray, List.set_cons_zero, List.set_cons_succ]
          refine wpAnyH_done (by kernel_rfl) ?_ _
          refine NoPanic.normal ?_
          clear hH
          have hll := HL.out
          go_wp2_with fail
          go_roundw
          case rel => exact ⟨j + 1, by omega, by go_num, HO5, KB5⟩
          case measure => simp [intOf]; omega
      · skip
        have kb := alloc_below z0 (.cells #[.int .i64 x.kind, .int .i64 (x.len : Int)] 3 (0, 0))
        have CB : Hid (blockIs (z0.alloc (.cells #[.int .i64 x.kind, .int .i64 (x.len : Int)] 3 (0, 0))) z0.heap.size [.int .i64 x.kind, .int .i64 (x.len : Int)] 3) := Lib.hid (blockIs.new z0 [.int .i64 x.kind, .int .i64 (x.len : Int)] 3)
        have NCB : Hid (z0.heap.size ≠ k) := Lib.hid (Nat.ne_of_gt HO4.out.lt.2)
        have hN := hH.below kb hH.lt
        have KB4 := Lib.hid (KB4.out.trans (kb.mono KB4.out.size))
        have HO4 := Lib.hid (HO4.out.below kb)
        clear hH kb
        go_simp
        refine hKK.out _ _ hN (fun hH => ?_)
        clear hKK KK hN
        try simp only [Act.put, List.setIfInBounds_toArray, List.set_cons_zero, List.set_cons_succ]
        generalize z0.alloc (.cells #[.int .i64 x.kind, .int .i64 (x.len : Int)] 3) = z1 at *
        generalize z0.heap.size = qb at *
        refine wpAnyH_ready (rs := [3]) (by kernel_rfl) (by simp) ?_
        refine AllReadyH.cons (o := { dst := some 21, op := Op.buildSlice 71 1 #[(0, Operand.tmp 20)], type := 71, pos := "pack.go:110", after := #[⟨2, .data⟩], guard := none }) rfl (fun KK hKK => ?_) AllReadyH.nil
        have kb := alloc_below z1 (.cells #[.slice (some ⟨xb, 0, none⟩) 32 32] 30 (0, 0))
        have CA : Hid (blockIs (z1.alloc (.cells #[.slice (some ⟨xb, 0, none⟩) 32 32] 30 (0, 0))) z1.heap.size [.slice (some ⟨xb, 0, none⟩) 32 32] 30) := Lib.hid (blockIs.new z1 [.slice (some ⟨xb, 0, none⟩) 32 32] 30)
        have NCA : Hid (z1.heap.size ≠ k) := Lib.hid (Nat.ne_of_gt HO4.out.lt.2)
        have CB := Lib.hid (CB.out.below kb CB.out.lt)
        have hN := hH.below kb hH.lt
        have KB4 := Lib.hid (KB4.out.trans (kb.mono KB4.out.size))
        have HO4 := Lib.hid (HO4.out.below kb)
        clear hH kb
        go_simp
        refine hKK.out _ _ hN (fun hH => ?_)
        clear hKK KK hN
        try simp only [Act.put, List.setIfInBounds_toArray, List.set_cons_zero, List.set_cons_succ]
        generalize z1.alloc (.cells #[.slice (some ⟨xb, 0, none⟩) 32 32] 30) = z2 at *
        generalize z1.heap.size = qa at *
        refine wpAnyH_ready (rs := [4]) (by kernel_rfl) (by simp) ?_
        refine AllReadyH.cons (o := { dst := some 22, op := Op.call { callee := Callee.value (Operand.func 51), args := #[Operand.tmp 18, Operand.tmp 21], argTypes := #[110, 71] }, type := 110, pos := "pack.go:110", after := #[⟨0, .data⟩, ⟨3, .data⟩], guard := none }) rfl (fun KK hKK => ?_) AllReadyH.nil
        have RW := Gl.raw1g w.heap.size k (headP L j, 0) (some ⟨xb, 0, none⟩) 32 x.id z2 qa HO4.out (en_id FX.out.1 hH) (fun h => by cases h) (by have := HPL.out j; have := HL.out; show (headP L j).length ≤ _; omega) (by have : x.id.length = 32 := FX.out.1; omega) (by have h1 := CA.out.cell 0; have h2 : x.id.length = 32 := FX.out.1; rw [h2]; exact h1)
        rw [show Gl.outRaw (headP L j, 0) x.id = (headP L j ++ x.id, 0) from rfl] at RW
        go_simp
        with_reducible refine RW.mono ?_
        rintro e z3 ⟨rfl, ho, kb, kt⟩
        have hN := kt.is hH XK.out (by decide)
        have CA := Lib.hid (kt.is CA.out NCA.out (by decide))
        have CB := Lib.hid (kt.is CB.out NCB.out (by decide))
        have KB4 := Lib.hid (KB4.out.trans kb)
        have HO4 := Lib.hid ho
        clear hH kb kt ho RW
        refine hKK.out _ _ hN (fun hH => ?_)
        clear hKK KK hN
        try simp only [Act.put, List.setIfInBounds_toArray, List.set_cons_zero, List.set_cons_succ]
        have NU := nums2 w.heap.size k (headP L j ++ x.id) x.kind (x.len : Int) qb z3 HO4.out (by rcases FX.out.2.1 with e | e <;> rw [e] <;> decide) (by have := FX.out.2.2; omega) (by have := HPL.out j; have := HL.out; have : x.id.length = 32 := FX.out.1; rw [List.length_append]; omega) CB.out NCB.out
        refine wpAnyH_ready (rs := [10]) (by kernel_rfl) (by simp) ?_
        refine AllReadyH.cons (o := { dst := some 28, op := Op.call { callee := Callee.value (Operand.func 50), args := #[Operand.tmp 22, Operand.tmp 27], argTypes := #[110, 145] }, type := 110, pos := "pack.go:110", after := #[⟨4, .data⟩, ⟨9, .data⟩, ⟨4, .chain⟩], guard := none }) rfl (fun KK hKK => ?_) AllReadyH.nil
        go_simp
        with_reducible refine NU.mono ?_
        rintro e z4 ⟨rfl, ho, kb, kt⟩
        have hN := kt.is hH XK.out (by decide)
        have KB5 := Lib.hid (KB4.out.trans kb)
        have HO5 : Hid (Gl.OutAt z4 w.heap.size k (headP L (j + 1), 0)) := Lib.hid (by rw [ST.out]; unfold enB; rw [← List.append_assoc]; exact ho)
        clear hH kb kt ho NU KB4 HO4
        refine hKK.out _ _ hN (fun hH => ?_)
        clear hKK KK hN
        try simp only [Act.put, List.setIfInBounds_toArray, List.set_cons_zero, List.set_cons_succ]
        refine wpAnyH_done (by kernel_rfl) ?_ _
        refine NoPanic.normal ?_
        clear hH
        have hll := HL.out
        go_wp2_with fail
        go_roundw
        case rel => exact ⟨j + 1, by omega, by go_num, HO5, KB5⟩
        case measure => simp [intOf]; omega
    · obtain rfl : j = L.length := by omega
      have q0 : ¬ ((L.length : Int) < (L.length : Int)) := by omega
      have BO := Gl.bytes_ok w.heap.size k (headP L L.length, 0) wr HO.out rfl (by have := HPL.out L.length; have := HL.out; show (headP L L.length).length ≤ _; omega)
      go_wp2_with (with_reducible refine BO.mono ?_; rintro e w3 ⟨v, rfl, hv, kb⟩)
      have HV : Ci.ownB w3 w.heap.size v (headB L) := ownB_mono hv KB.out.size
      have KF := KB.out.trans (kb.mono KB.out.size)
      refine bodyPost_ret (v := .tuple #[v, .int .i64 0]) (results_tmp2 (t := 2) (u := 3) rfl _ _ _) rfl ?_
      exact ⟨v, rfl, HV, KF⟩
end Go.Proofs.YtfhlcondnaahiaaDoor
