/- key.Ring.Id: the name of parts. -/
import Derived.Test.YtfhlcondnaahiaaDoorTk
import Derived.Test.YtfhlcondnaahiaaDoorCon
import Derived.BigQuiet
import Derived.Deep.DeepCutAuto
namespace Go.Proofs.YtfhlcondnaahiaaDoor
open Go.RowKit Sha

theorem infoId : (Tryd.prog.info? 24).map (·.size) = some 32 := by kernel_rfl
theorem zeroId (w : World) : (zeroValue 24).run Tryd.prog w = .ok (.agg (zeros 32).toArray) w := by kernel_rfl
theorem step_store_block {P : Program} {ops : Array Oper} {o : Oper} {a : Act} {w : World} {K : Act → World → Prop} {Q : Exit → Act → World → Prop} {E : Prop} (hgd : o.guard = none) (ty : TypeId) (x y : Operand) (ho : o.op = .store ty x y)
    (g off : Nat) (cs : List Value) (hx : a.eval x = .pointer (some ⟨g, off, none⟩)) (hy : a.eval y = .agg cs.toArray) (cur : List Value) (t : TypeId) (hg : blockIs w g cur t)
    (hi : (P.info? ty).map (·.size) = some cs.length) (hfit : off + cs.length ≤ cur.length) (h1 : ∀ v ∈ cs, v.oneCell' = true)
    (h : ∀ w', Hid (blockIs w' g (splice cur off cs) t) → Hid (But g w w') → Hid (w'.heap.size = w.heap.size) → K (a.put o.dst undef) w') :
    if Region.wanted o (yielded ops a.tmps) = true then Oper.wp P o a w K Q else E := by
  have hw : Region.wanted o (yielded ops a.tmps) = true := by simp [Region.wanted, hgd]
  rw [if_pos hw]
  unfold Oper.wp execOp
  simp only [ho, hx, hy, Instr.storeAt, Instr.sureAddr, Sem.run_bind, Sem.run_pure, Result.andThen_ok, run_storeVar_block w g off ty cur cs t hg hi hfit h1]
  exact h _ (show _ = _ by simpa using setRow_heap w g _ _ t _ hg) ⟨rfl, rfl, rfl, by simp [World.setRow], fun k _ hk => setRow_other w g k _ hk⟩ (by
    show (w.setRow g _).heap.size = _
    simp)
theorem own_form {w : World} {base : Nat} {e : TypeId} {v : Value} {n : Nat} {x : Value} {cs : List Value} (h : w.ownsRow base e 1 v n (x :: cs)) :
    ∃ q cap, v = .slice (some ⟨q, 0, none⟩) n cap ∧ n ≤ cap ∧ cap ≤ 9223372036854775807 ∧ ∀ j u, (x :: cs)[j]? = some u → w.cell? ⟨q, j, none⟩ = some u := by
  have hc := fun g hg => h.cells (g := g) hg
  have h0 := h.1
  rcases h.2 with ⟨rfl, hn⟩ | ⟨g, cap, cur, rfl, _, _, hnc, hcm, _, _⟩
  · rw [hn] at h0; simp at h0
  · refine ⟨g, cap, rfl, hnc, by unfold maxLen at hcm; omega, fun j u hu => ?_⟩
    have := hc g rfl j u hu
    rwa [Addr.add_lit, Nat.zero_add] at this
theorem parts_cells {w : World} {a : Option Addr} {ls : List (List UInt8)} (h : partsIn w a ls) : ∃ cs : List Value, cs.length = ls.length ∧ (∀ u ∈ cs, u.oneCell' = true) ∧ (∀ ad, a = some ad → ∀ j u, cs[j]? = some u → w.cell? (ad.add j) = some u) ∧
    ∀ j, j < ls.length → ∃ aj cj, cs[j]? = some (.slice aj (ls.getD j []).length cj) ∧ (ls.getD j []).length ≤ cj ∧ cj ≤ 9223372036854775807 ∧ bytesIn w aj (ls.getD j []) := by
  rcases h with rfl | ⟨pb, po, rfl, hp⟩
  · exact ⟨[], rfl, by simp, by simp, fun j hj => absurd hj (Nat.not_lt_zero j)⟩
  · have hget : ∀ j, j < ls.length → ((List.range ls.length).map fun j => (w.cell? ⟨pb, po + j, none⟩).getD undef)[j]? = w.cell? ⟨pb, po + j, none⟩ := by
      intro j hj
      obtain ⟨aj, cj, hc, _⟩ := hp j hj
      simp [hj, hc]
    refine ⟨(List.range ls.length).map fun j => (w.cell? ⟨pb, po + j, none⟩).getD undef, by simp, ?_, ?_, ?_⟩
    · intro u hu
      obtain ⟨j, hj, rfl⟩ := List.mem_map.1 hu
      obtain ⟨aj, cj, hc, _⟩ := hp j (List.mem_range.1 hj)
      rw [hc]
      rfl
    · rintro ad he j u hu
      obtain rfl := Option.some.inj he
      have hj : j < ls.length := by simpa using (List.getElem?_eq_some_iff.1 hu).1
      rw [Addr.add_lit]
      rw [← hget j hj]
      exact hu
    · intro j hj
      obtain ⟨aj, cj, hc, r⟩ := hp j hj
      exact ⟨aj, cj, by rw [hget j hj]; exact hc, r⟩
theorem parts_cons {w w' : World} {g q : Nat} {k : UInt8} {ls : List (List UInt8)} {cs : List Value} (hb : Below w.heap.size w w') (hk : w.cell? ⟨g, 0, none⟩ = some (.int .u8 (V k)))
    (hcell : ∀ j u, (Value.slice (some ⟨g, 0, none⟩) 1 1 :: cs)[j]? = some u → w'.cell? ⟨q, j, none⟩ = some u) (_ : cs.length = ls.length)
    (h : ∀ j, j < ls.length → ∃ aj cj, cs[j]? = some (.slice aj (ls.getD j []).length cj) ∧ (ls.getD j []).length ≤ cj ∧ cj ≤ 9223372036854775807 ∧ bytesIn w aj (ls.getD j [])) :
    partsIn w' (some ⟨q, 0, none⟩) ([k] :: ls) := by
  refine Or.inr ⟨q, 0, rfl, fun j hj => ?_⟩
  cases j with
  | zero =>
    refine ⟨some ⟨g, 0, none⟩, 1, hcell 0 _ rfl, Nat.le_refl _, by decide, Or.inr ⟨g, 0, rfl, fun i hi => ?_⟩⟩
    obtain rfl : i = 0 := by simpa using hi
    exact (hb.cell (p := ⟨g, 0, none⟩) (block_lt_of_cell hk)).trans hk
  | succ j =>
    obtain ⟨aj, cj, e1, e2, e3, e4⟩ := h j (by simpa using hj)
    refine ⟨aj, cj, ?_, by simpa using e2, e3, by simpa using e4.below hb⟩
    have := hcell (j + 1) _ (by rw [List.getElem?_cons_succ]; exact e1)
    rw [Nat.zero_add]
    simpa using this

set_option maxRecDepth 100000 in
set_option maxHeartbeats 2000000 in
theorem id_any (A N : List UInt8) (k : UInt8) (a : Option Addr) (c : Nat) (ls : List (List UInt8)) (w : World) (hA : A.length = 64) (hN : N.length = 32) (hl : ls.length ≤ 100000) (hlc : ls.length ≤ c) (ha : a = none → c = 0) (hm : ls.flatten.length ≤ 800000) (hp : partsIn w a ls) (ht : tables w) :
    Calls Tryd.prog 22 #[.agg (byteCells (A ++ N)).toArray, .int .u8 (V k), .slice a ls.length c] w fun e w' => e = .returned (.agg (byteCells (hmac N (k :: ls.flatten))).toArray) ∧ Below w.heap.size w w' := by
  have hz := zeroId
  have HN := Lib.hid hN
  have G0 := Lib.hid (blockIs.new w (byteCells (A ++ N)) 58)
  have A0 := Lib.hid (alloc_below w (.cells (byteCells (A ++ N)).toArray 58 (0, 0)))
  have S0 : Hid ((w.alloc (.cells (byteCells (A ++ N)).toArray 58 (0, 0))).heap.size = w.heap.size + 1) := Lib.hid (by simp)
  have R0 := Lib.hid (blockIs.new (w.alloc (.cells (byteCells (A ++ N)).toArray 58 (0, 0))) (zeros 32) 24)
  have B1 := Lib.hid (alloc_below (w.alloc (.cells (byteCells (A ++ N)).toArray 58 (0, 0))) (.cells (zeros 32).toArray 24 (0, 0)))
  rw [S0.out] at R0 B1
  have G1 := Lib.hid (G0.out.below B1.out (Nat.lt_succ_self _))
  have A1 := Lib.hid (A0.out.trans (B1.out.mono (Nat.le_succ _)))
  have P0 := Lib.hid (hp.below A1.out)
  have T0 := Lib.hid (ht.below A1.out ht.2.2.1 ht.2.2.2)
  have B0 : Hid (bytesIn ((w.alloc (.cells (byteCells (A ++ N)).toArray 58 (0, 0))).alloc (.cells (zeros 32).toArray 24 (0, 0))) (some ⟨w.heap.size, 64, none⟩) N) := Lib.hid (Or.inr ⟨_, _, rfl, fun j hj => by
    rw [G1.out.cell, byteCells_get _ _ (by rw [List.length_append]; omega)]
    simp only [List.getD_eq_getElem?_getD]
    rw [List.getElem?_append_right (by omega), show 64 + j - A.length = j by omega]⟩)
  clear G0 A0 S0 G1 B1 hp ht hA hN
  go_enter Tryd.func22, Tryd.ntmps22
  go_wp2_with fail
  generalize (w.alloc (.cells (byteCells (A ++ N)).toArray 58 (0, 0))).alloc (.cells (zeros 32).toArray 24 (0, 0)) = w2 at *
  clear hz
  generalize byteCells (A ++ N) = LL at *
  refine wp_region_noPanic ?_
  refine wp_region_held_drew (S := fun w' => Below w.heap.size w w') (by kernel_rfl) (below_drew' A1.out) (fun hH => ?_)
  have P0 : Hid (partsIn w2.drew a ls) := P0
  have B0 : Hid (bytesIn w2.drew (some ⟨w.heap.size, 64, none⟩) N) := B0
  have T0 : Hid (tables w2.drew) := T0
  have R0 : Hid (blockIs w2.drew (w.heap.size + 1) (zeros 32) 24) := R0
  clear A1
  generalize w2.drew = x0 at *
  refine tk (i := 0) (oi := { dst := some 7, op := Op.fieldAddr 58 (Operand.tmp 3) 1, type := 0, pos := "key.go:44", after := #[], guard := none }) (v := .pointer (some ⟨w.heap.size, 64, none⟩)) rfl (fun wx hS => ?_) hH ?_
  · go_simp
  refine tk (i := 1) (oi := { dst := some 8, op := Op.slice 23 (Operand.tmp 7) none none none, type := 30, pos := "key.go:44", after := #[⟨0, .data⟩], guard := none }) (v := .slice (some ⟨w.heap.size, 64, none⟩) 32 32) rfl (fun wx hS => ?_) hH ?_
  · go_simp
  refine tk (i := 2) (oi := { dst := some 9, op := Op.move (Operand.tmp 1), type := 5, pos := "key.go:44", after := #[], guard := none }) (v := .int .u8 (V k)) rfl (fun wx hS => ?_) hH ?_
  · go_simp
  refine tk (i := 5) (oi := { dst := some 12, op := Op.move (Operand.tmp 2), type := 71, pos := "key.go:44", after := #[], guard := none }) (v := .slice a ls.length c) rfl (fun wx hS => ?_) hH ?_
  · go_simp
  have kb := Lib.hid (alloc_below x0 (.cells #[.int .u8 (V k)] 5 (0, 0)))
  have kn := Lib.hid (heap_alloc_new x0 (.cells #[.int .u8 (V k)] 5 (0, 0)))
  have hN := hH.trans (kb.out.mono hH.size)
  clear hH
  refine wpAnyH_ready (rs := [3]) (by kernel_rfl) (by simp) ?_
  refine AllReadyH.cons (o := { dst := some 10, op := Op.buildSlice 30 1 #[(0, Operand.tmp 9)], type := 30, pos := "key.go:44", after := #[⟨2, .data⟩], guard := none }) rfl (fun KK hKK => ?_) AllReadyH.nil
  go_simp
  refine hKK.out _ _ hN (fun hH => ?_)
  clear hKK KK hN
  try simp only [Act.put, List.setIfInBounds_toArray, List.set_cons_zero, List.set_cons_succ]
  generalize x0.alloc (.cells #[.int .u8 (V k)] 5 (0, 0)) = x1 at *
  have C1 : Hid (x1.cell? ⟨x0.heap.size, 0, none⟩ = some (.int .u8 (V k))) := Lib.hid (by rw [cell_of_row _ _ _ _ _ _ kn.out]; rfl)
  have K1 := kb
  clear kb kn
  generalize hg0 : x0.heap.size = g at *
  have HG0 := Lib.hid hg0
  clear hg0
  have kb := Lib.hid (alloc_below x1 (.cells #[.slice (some ⟨g, 0, none⟩) 1 1] 30 (0, 0)))
  have kn := Lib.hid (heap_alloc_new x1 (.cells #[.slice (some ⟨g, 0, none⟩) 1 1] 30 (0, 0)))
  have hN := hH.trans (kb.out.mono hH.size)
  clear hH
  refine wpAnyH_ready (rs := [4]) (by kernel_rfl) (by simp) ?_
  refine AllReadyH.cons (o := { dst := some 11, op := Op.buildSlice 71 1 #[(0, Operand.tmp 10)], type := 71, pos := "key.go:44", after := #[⟨3, .data⟩], guard := none }) rfl (fun KK hKK => ?_) AllReadyH.nil
  go_simp
  refine hKK.out _ _ hN (fun hH => ?_)
  clear hKK KK hN
  try simp only [Act.put, List.setIfInBounds_toArray, List.set_cons_zero, List.set_cons_succ]
  generalize x1.alloc (.cells #[.slice (some ⟨g, 0, none⟩) 1 1] 30 (0, 0)) = x2 at *
  have C2 : Hid (x2.cell? ⟨x1.heap.size, 0, none⟩ = some (.slice (some ⟨g, 0, none⟩) 1 1)) := Lib.hid (by rw [cell_of_row _ _ _ _ _ _ kn.out]; rfl)
  have K2 := kb
  clear kb kn
  have C1 : Hid (x2.cell? ⟨g, 0, none⟩ = some (.int .u8 (V k))) := Lib.hid ((K2.out.cell (p := ⟨g, 0, none⟩) (block_lt_of_cell C1.out)).trans C1.out)
  generalize hg0 : x1.heap.size = h at *
  have HG1 := Lib.hid hg0
  clear hg0
  have kb := Lib.hid (alloc_below x2 (.cells #[.slice (some ⟨h, 0, none⟩) 1 1, .slice a ls.length c] 71 (0, 0)))
  have kn := Lib.hid (heap_alloc_new x2 (.cells #[.slice (some ⟨h, 0, none⟩) 1 1, .slice a ls.length c] 71 (0, 0)))
  have hN := hH.trans (kb.out.mono hH.size)
  clear hH
  refine wpAnyH_ready (rs := [6]) (by kernel_rfl) (by simp) ?_
  refine AllReadyH.cons (o := { dst := some 13, op := Op.buildSlice 138 2 #[(0, Operand.tmp 11), (1, Operand.tmp 12)], type := 138, pos := "key.go:44", after := #[⟨4, .data⟩, ⟨5, .data⟩], guard := none }) rfl (fun KK hKK => ?_) AllReadyH.nil
  go_simp
  refine hKK.out _ _ hN (fun hH => ?_)
  clear hKK KK hN
  try simp only [Act.put, List.setIfInBounds_toArray, List.set_cons_zero, List.set_cons_succ]
  generalize x2.alloc (.cells #[.slice (some ⟨h, 0, none⟩) 1 1, .slice a ls.length c] 71 (0, 0)) = x3 at *
  have C3 : Hid (x3.cell? ⟨x2.heap.size, 0, none⟩ = some (.slice (some ⟨h, 0, none⟩) 1 1)) := Lib.hid (by rw [cell_of_row _ _ _ _ _ _ kn.out]; rfl)
  have C4 : Hid (x3.cell? ⟨x2.heap.size, 1, none⟩ = some (.slice a ls.length c)) := Lib.hid (by rw [cell_of_row _ _ _ _ _ _ kn.out]; rfl)
  have K3 := kb
  clear kb kn
  have C1 : Hid (x3.cell? ⟨g, 0, none⟩ = some (.int .u8 (V k))) := Lib.hid ((K3.out.cell (p := ⟨g, 0, none⟩) (block_lt_of_cell C1.out)).trans C1.out)
  have C2 : Hid (x3.cell? ⟨h, 0, none⟩ = some (.slice (some ⟨g, 0, none⟩) 1 1)) := Lib.hid ((K3.out.cell (p := ⟨h, 0, none⟩) (block_lt_of_cell C2.out)).trans C2.out)
  have K03 : Hid (Below x0.heap.size x0 x3) := Lib.hid (by
    have a1 := K1.out; have a2 := K2.out; have a3 := K3.out
    rw [← HG0.out] at a1; rw [← HG1.out] at a2
    exact (a1.trans (a2.mono a1.size)).trans (a3.mono (Nat.le_trans a1.size a2.size)))
  clear K1 K2 K3 HG0 HG1
  generalize x2.heap.size = o at *
  have P3 := Lib.hid (P0.out.below K03.out)
  have B3 := Lib.hid (B0.out.below K03.out)
  have T3 := Lib.hid (T0.out.below K03.out T0.out.2.2.1 T0.out.2.2.2)
  have R3 := Lib.hid (R0.out.below K03.out R0.out.lt)
  clear P0 B0 T0 R0 K03
  obtain ⟨cs, d1, d2, d3, d4⟩ := parts_cells P3.out
  have HC := Lib.hid (concat_two o h (.slice (some ⟨g, 0, none⟩) 1 1) a ls.length c cs x3 d1 (by omega) (fun e => ⟨by have := ha e; omega, ha e⟩) rfl d2 C3.out C4.out C2.out d3)
  clear C3 C4
  refine wpAnyH_ready (rs := [7]) (by kernel_rfl) (by simp) ?_
  refine AllReadyH.cons (o := { dst := some 14, op := Op.call { callee := Callee.value (Operand.func 45), args := #[Operand.tmp 13], argTypes := #[138] }, type := 71, pos := "key.go:44", after := #[⟨6, .data⟩], guard := none }) rfl (fun KK hKK => ?_) AllReadyH.nil
  go_simp
  refine HC.out.mono ?_
  rintro e x4 ⟨v, rfl, own, kk⟩
  obtain ⟨q, cap, rfl, hcap1, hcap2, hcell⟩ := own_form own
  have P4 : Hid (partsIn x4 (some ⟨q, 0, none⟩) ([k] :: ls)) := Lib.hid (parts_cons kk C1.out hcell d1 d4)
  have B4 := Lib.hid (B3.out.below kk)
  have T4 := Lib.hid (T3.out.below kk T3.out.2.2.1 T3.out.2.2.2)
  have R4 := Lib.hid (R3.out.below kk R3.out.lt)
  have hN := hH.trans (kk.mono hH.size)
  clear hH kk own hcell d1 d2 d3 d4 HC P3 B3 T3 R3 C1 C2
  refine hKK.out _ _ hN (fun hH => ?_)
  clear hKK KK hN
  try simp only [Act.put, List.setIfInBounds_toArray, List.set_cons_zero, List.set_cons_succ]
  have HF := Lib.hid (kf_any (some ⟨w.heap.size, 64, none⟩) (some ⟨q, 0, none⟩) 32 cap N ([k] :: ls) x4 (by rw [HN.out]; decide) (by rw [HN.out]; decide) (by decide) B4.out (by simp; omega) (by simp only [List.length_cons]; omega) (by simp only [List.flatten_cons, List.length_append, List.length_cons, List.length_nil]; omega) T4.out P4.out)
  rw [HN.out, show ([k] :: ls).flatten = k :: ls.flatten by simp, show ([k] :: ls).length = 1 + ls.length by rw [List.length_cons, Nat.add_comm]] at HF
  refine wpAnyH_ready (rs := [8]) (by kernel_rfl) (by simp) ?_
  refine AllReadyH.cons (o := { dst := some 15, op := Op.call { callee := Callee.value (Operand.func 44), args := #[Operand.tmp 8, Operand.tmp 14], argTypes := #[30, 71] }, type := 23, pos := "key.go:44", after := #[⟨1, .data⟩, ⟨7, .data⟩, ⟨7, .chain⟩], guard := none }) rfl (fun KK hKK => ?_) AllReadyH.nil
  go_simp
  refine HF.out.mono ?_
  rintro e x5 ⟨rfl, kk⟩
  have R5 := Lib.hid (R4.out.below kk R4.out.lt)
  have hN := hH.trans (kk.mono hH.size)
  clear hH kk HF R4 B4 T4 P4
  have HL2 : Hid ((hmac N (k :: ls.flatten)).length = 32) := Lib.hid (hmac_length _ _)
  generalize hM : hmac N (k :: ls.flatten) = M at *
  have HM := Lib.hid hM
  clear hM
  refine hKK.out _ _ hN (fun hH => ?_)
  clear hKK KK hN
  try simp only [Act.put, List.setIfInBounds_toArray, List.set_cons_zero, List.set_cons_succ]
  refine wpAnyH_ready (rs := [9]) (by kernel_rfl) (by simp) ?_
  refine AllReadyH.cons (o := { dst := none, op := Op.store 24 (Operand.tmp 6) (Operand.tmp 15), type := 0, pos := "key.go:44", after := #[⟨8, .data⟩, ⟨8, .chain⟩, ⟨0, .phase⟩, ⟨1, .phase⟩, ⟨2, .phase⟩, ⟨3, .phase⟩, ⟨4, .phase⟩, ⟨5, .phase⟩, ⟨6, .phase⟩, ⟨7, .phase⟩, ⟨8, .phase⟩], guard := none }) rfl (fun KK hKK => ?_) AllReadyH.nil
  refine step_store_block rfl 24 _ _ rfl (w.heap.size + 1) 0 (byteCells M) rfl rfl (zeros 32) 24 R5.out (by rw [infoId, byteCells_length, HL2.out]) (by simp [zeros, byteCells_length, HL2.out]) (byteCells_one _) ?_
  intro x6 h1 h2 h3
  have h1 := h1.out
  rw [splice_all _ _ (by simp [zeros, byteCells_length, HL2.out])] at h1
  have E6 := Lib.hid h1
  have hN := hH.trans (h2.out.below (Nat.le_succ _) hH.size)
  clear h1 h2 h3 hH R5
  refine hKK.out _ _ hN (fun hH => ?_)
  clear hKK KK hN
  try simp only [Act.put, List.setIfInBounds_toArray, List.set_cons_zero, List.set_cons_succ]
  refine wpAnyH_done (by kernel_rfl) ?_ _
  refine NoPanic.normal ?_
  go_wp2_with fail
  refine bodyPost_ret (v := .agg (byteCells M).toArray) (results_cell_row rfl _ _ (w.heap.size + 1) 24 _ (0, 0) _ rfl E6.out Tryd.underlying24 rfl (by rw [infoId]; simp [byteCells_length, HL2.out])) rfl ?_
  exact ⟨by rw [HM.out], hH⟩
end Go.Proofs.YtfhlcondnaahiaaDoor
