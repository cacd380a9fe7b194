/- hypogeumlaw12.writers. -/
import Derived.Test.YtfhlcondnaahiaaDoorTk
import Derived.Test.YtfhlcondnaahiaaDoorPr
import Derived.Test.YtfhlcondnaahiaaDoorHc
namespace Go.Proofs.YtfhlcondnaahiaaDoor
open Go.RowKit Sha

theorem join7 {α β γ δ ε ζ η : Type} {Q H : α → β → γ → δ → ε → ζ → η → World → Prop} {G : Prop} (main : (∀ a b c d e f g w, H a b c d e f g w → Q a b c d e f g w) → G) (rest : ∀ a b c d e f g w, H a b c d e f g w → Q a b c d e f g w) : G := main rest
theorem tape_lt {X : World} {tb fc told : Nat} {fa : Option Addr} {n : UInt8} (h : tapeAt X tb fa fc [n] told) {x : Addr} (hx : fa = some x) : x.block < X.heap.size := by
  rcases h.row with e | ⟨b, o, e, hc⟩
  · cases e
  · have := block_lt_of_cell (hc 0 (by simp))
    rw [e] at hx
    cases hx
    exact this
theorem lit_one {X : World} {g : Nat} {n : UInt8} (h : cellsAt X g [.int .u8 (V n)]) : bytesIn X (some ⟨g, 0, none⟩) [n] := by
  refine Or.inr ⟨_, _, rfl, fun j hj => ?_⟩
  obtain rfl : j = 0 := by simpa using hj
  exact h 0 _ rfl
theorem wind_one (g : Nat) (n : UInt8) (w : World) (h : cellsAt w g [.int .u8 (V n)]) :
    Calls Tryd.prog 33 #[.slice (some ⟨g, 0, none⟩) 1 1] w fun e w' => ∃ tb fa fc, e = .returned (.pointer (some ⟨tb, 0, none⟩)) ∧ w.heap.size ≤ tb ∧ tapeAt w' tb fa fc [n] 0 ∧ (∀ x, fa = some x → w.heap.size ≤ x.block) ∧ Below w.heap.size w w' :=
  wind_any (some ⟨g, 0, none⟩) [n] 1 w (lit_one h) (fun h => by cases h) (by simp)
/-- The document's writer, new. -/
def refCells (RG : List UInt8) (s : List UInt8) (used : Int) (b : List UInt8) (lv : Value) : List Value := byteCells RG ++ [.string (str s), .int .i64 used, .string (str b), lv]
theorem buildRw (RG s : List UInt8) (h : RG.length = 96) (w : World) : (Instr.build 52 #[(0, .agg (byteCells RG).toArray), (1, .string (str s))]).run Tryd.prog w = .ok (.agg (refCells RG s 0 [] (.slice none 0 0)).toArray) w := by
  refine Ci.run_build_struct w _ (Tryd.prog.fieldsOf 52) #[(0, 96), (96, 1), (97, 1), (98, 1), (99, 1)] (.agg (zeros 96 ++ [Value.string ⟨#[]⟩, Value.int .i64 0, Value.string ⟨#[]⟩, Value.slice none 0 0]).toArray) _ _ (by kernel_rfl) (by kernel_rfl) (by kernel_rfl) ?_
  show Instr.fill _ (zeros 96 ++ [Value.string ⟨#[]⟩, Value.int .i64 0, Value.string ⟨#[]⟩, Value.slice none 0 0]).toArray [(0, .agg (byteCells RG).toArray), (1, .string (str s))] = _
  have h1 : (byteCells RG).length = 96 := by rw [byteCells_length, h]
  have hz : (zeros 96).length = 96 := by simp [zeros]
  have e1 : splice (zeros 96 ++ [Value.string ⟨#[]⟩, Value.int .i64 0, Value.string ⟨#[]⟩, Value.slice none 0 0]) 0 (byteCells RG) = byteCells RG ++ [Value.string ⟨#[]⟩, Value.int .i64 0, Value.string ⟨#[]⟩, Value.slice none 0 0] := by
    simp [splice, h1, hz]
  have e2 : splice (byteCells RG ++ [Value.string ⟨#[]⟩, Value.int .i64 0, Value.string ⟨#[]⟩, Value.slice none 0 0]) 96 [Value.string (str s)] = byteCells RG ++ [Value.string (str s), Value.int .i64 0, Value.string ⟨#[]⟩, Value.slice none 0 0] := by
    rw [splice_set _ _ _ (by rw [List.length_append, h1]; decide), List.set_append_right _ _ (by omega)]; simp [h1]
  rw [Ci.fill_cells _ _ 0 _ (byteCells RG) rfl _ 0 (by rw [h1]; rfl) (by rw [h1, List.length_append, hz]; omega), e1,
    Ci.fill_cells _ _ 1 _ [Value.string (str s)] rfl _ 96 rfl (by rw [List.length_append, h1]; simp), e2]
  rfl

set_option maxRecDepth 100000 in
set_option maxHeartbeats 8000000 in
theorem writers_any (n : UInt8) (w : World) (ht : tables w) :
    Calls Tryd.prog 13 #[.int .u8 (V n)] w fun e w' => ∃ wb tb fa fc rp, e = .returned (.tuple #[.pointer (some ⟨wb, 0, none⟩), .pointer (some ⟨rp, 0, none⟩)]) ∧
      WrAt w' w'.heap.size wb tb fa fc [n] 0 (penCells (ringN n) tb) [] [] (.slice none 0 0) (.slice none 0 0) none ∧ w.heap.size ≤ wb ∧ w.heap.size ≤ tb ∧ w.heap.size ≤ rp ∧ (∀ x, fa = some x → w.heap.size ≤ x.block) ∧ blockIs w' rp (refCells (ringN n) [n] 0 [] (.slice none 0 0)) 52 ∧ Below w.heap.size w w' := by
  have hz := zeroRingP
  have hz2 := zeroRing2
  have RA := ring_any n w
  have HT := Lib.hid ht
  clear ht
  go_enter Tryd.func13, Tryd.ntmps13
  go_wp2_with (first
    | (with_reducible refine RA.mono ?_; rintro e w1 ⟨rfl, kb⟩)
    | (refine wpList_store_block rfl 58 _ _ rfl _ 0 (byteCells (ringN n)) rfl rfl (zeros 96) 58 ((blockIs.new _ (zeros 96) 58).alloc _) (by rw [infoRing96, byteCells_length, ringN_length]) (by simp [zeros, byteCells_length, ringN_length]) (byteCells_one _) ?_))
  intro w2 P1 P2 P3
  have P1 := P1.out
  rw [splice_all _ _ (by simp [zeros, byteCells_length, ringN_length])] at P1
  have A1 := (alloc_below w1 (.cells (zeros 96).toArray 58 (0, 0))).alloc (by first | (simp; done) | (simp; omega)) (.cells (zeros 96).toArray 50 (0, 0))
  have H2 := Lib.hid (P2.out.is (blockIs.last (w1.alloc (.cells (zeros 96).toArray 58 (0, 0))) (zeros 96) 50 (w1.heap.size + 1) (by simp)) (by omega))
  have B2 := Lib.hid (kb.trans ((A1.trans (P2.out.below (Nat.le_refl _) (by first | (simp; done) | (simp; omega)))).mono kb.size))
  have K2 := Lib.hid P1
  clear P1 P2 P3 A1 RA
  go_wp2_with (refine wpList_store_block rfl 50 _ _ rfl (w1.heap.size + 1) 0 (byteCells (ringN n)) rfl rfl (zeros 96) 50 H2.out (by rw [infoRing2, byteCells_length, ringN_length]) (by simp [zeros, byteCells_length, ringN_length]) (byteCells_one _) ?_)
  intro w3 P1 P2 P3
  have P1 := P1.out
  rw [splice_all _ _ (by simp [zeros, byteCells_length, ringN_length])] at P1
  have K3 := Lib.hid (P2.out.is K2.out (by omega))
  have H3 := Lib.hid P1
  have B3 : Hid (Below w.heap.size w w3) := Lib.hid (B2.out.trans (P2.out.below (Nat.le_trans kb.size (Nat.le_succ _)) B2.out.size))
  have T3 := Lib.hid (HT.out.below B3.out HT.out.2.2.1 HT.out.2.2.2)
  clear P1 P2 P3 K2 H2 B2 kb
  generalize w1.heap.size + 1 = rb at *
  generalize w1.heap.size = kk at *
  go_wp2_with fail
  refine wp_region_noPanic ?_
  refine wp_region_held_drew (S := fun X => Below w3.heap.size w3 X) (by kernel_rfl) (below_drew' (Below.refl _ _)) (fun hH => ?_)
  generalize w3.drew = z0 at *
  refine tky (i := 0) (oi := { dst := some 11, op := Op.load 58 (Operand.tmp 4), type := 58, pos := "law.go:24", after := #[], guard := none }) (v := .agg (byteCells (ringN n)).toArray) rfl (yieldsIf_load_mid (by rfl) 58 _ rfl kk 0 rfl (byteCells (ringN n)) _ (fun wx hS => Ci.range_of (K3.out.below hS K3.out.lt)) Tryd.underlying58 rfl (by rw [infoRing96, byteCells_length, ringN_length])) hH ?_
  refine tk (i := 1) (oi := { dst := some 12, op := Op.move (Operand.tmp 0), type := 5, pos := "law.go:24", after := #[], guard := none }) (v := .int .u8 (V n)) rfl (fun wx hS => ?_) hH ?_
  · go_simp
  refine tky (i := 6) (oi := { dst := some 17, op := Op.load 50 (Operand.tmp 5), type := 50, pos := "law.go:24", after := #[⟨12, .gcOnly .lateStores⟩], guard := none }) (v := .agg (byteCells (ringN n)).toArray) rfl (yieldsIf_load_mid (by rfl) 50 _ rfl rb 0 rfl (byteCells (ringN n)) _ (fun wx hS => Ci.range_of (H3.out.below hS H3.out.lt)) Tryd.underlying50 rfl (by rw [infoRing2, byteCells_length, ringN_length])) hH ?_
  refine tk (i := 7) (oi := { dst := some 18, op := Op.move (Operand.tmp 0), type := 5, pos := "law.go:24", after := #[⟨12, .gcOnly .lateStores⟩], guard := none }) (v := .int .u8 (V n)) rfl (fun wx hS => ?_) hH ?_
  · go_simp
  revert hH
  refine join7 (Q := ?Q2_1_) (H := fun ga tb fa fc wb gb rp wx => Below w3.heap.size w3 wx ∧ True ∧ cellsAt wx ga [.int .u8 (V n)] ∧ (tapeAt wx tb fa fc [n] 0 ∧ w3.heap.size ≤ tb ∧ ∀ x, fa = some x → w3.heap.size ≤ x.block) ∧ (blockIs wx wb (penCells (ringN n) tb ++ [Value.slice none 0 0, Value.slice none 0 0, Value.map none]) 80 ∧ w3.heap.size ≤ wb ∧ (∀ x, fa = some x → x.block < wb) ∧ tb < wb) ∧ cellsAt wx gb [.int .u8 (V n)] ∧ (blockIs wx rp (refCells (ringN n) [n] 0 [] (.slice none 0 0)) 52 ∧ w3.heap.size ≤ rp)) (fun REST => ?main2_1_) ?rest2_1_
  case main2_1_ =>
    intro hH 
    refine wpAnyH_ready (rs := [2, 8]) (by kernel_rfl) (by simp) ?_
    refine AllReadyH.cons (o := { dst := some 13, op := Op.buildSlice 30 1 #[(0, Operand.tmp 12)], type := 30, pos := "law.go:24", after := #[⟨1, .data⟩], guard := none }) rfl (fun KK hKK => ?_) (AllReadyH.cons (o := { dst := some 19, op := Op.buildSlice 30 1 #[(0, Operand.tmp 18)], type := 30, pos := "law.go:24", after := #[⟨7, .data⟩, ⟨12, .gcOnly .lateStores⟩], guard := none }) rfl (fun KK hKK => ?_) AllReadyH.nil)
    · have kb := alloc_below z0 (.cells #[.int .u8 (V n)] 5 (0, 0))
      have q_ga := cellsAt.new z0 #[.int .u8 (V n)] z0.heap.size 5 [.int .u8 (V n)] rfl rfl
      have hN := hH.trans (kb.mono hH.size)
      clear hH kb
      go_simp
      refine hKK.out _ _ hN (fun hH => ?_)
      clear hKK KK hN
      try simp only [Act.put, List.setIfInBounds_toArray, List.set_cons_zero, List.set_cons_succ]
      generalize z0.alloc (.cells #[.int .u8 (V n)] 5 (0, 0)) = x2_1_0 at *
      generalize z0.heap.size = ga at q_ga ⊢
      refine wpAnyH_ready (rs := [3, 8]) (by kernel_rfl) (by simp) ?_
      refine AllReadyH.cons (o := { dst := some 14, op := Op.call { callee := Callee.value (Operand.func 33), args := #[Operand.tmp 13], argTypes := #[30] }, type := 75, pos := "law.go:24", after := #[⟨2, .data⟩], guard := none }) rfl (fun KK hKK => ?_) (AllReadyH.cons (o := { dst := some 19, op := Op.buildSlice 30 1 #[(0, Operand.tmp 18)], type := 30, pos := "law.go:24", after := #[⟨7, .data⟩, ⟨12, .gcOnly .lateStores⟩], guard := none }) rfl (fun KK hKK => ?_) AllReadyH.nil)
      · go_simp
        with_reducible refine (wind_one ga n x2_1_0 q_ga).mono ?_
        rintro e x2_1_1 ⟨tb, fa, fc, rfl, hlo, htp, hfa, kb⟩
        replace q_ga := q_ga.keep kb
        have HTB := And.intro htp (And.intro (Nat.le_trans hH.size hlo) fun (x : Addr) (hx : fa = some x) => Nat.le_trans hH.size (hfa x hx))
        clear htp hlo hfa
        have hN := hH.trans (kb.mono hH.size)
        clear hH kb
        refine hKK.out _ _ hN (fun hH => ?_)
        clear hKK KK hN
        try simp only [Act.put, List.setIfInBounds_toArray, List.set_cons_zero, List.set_cons_succ]
        refine tk (i := 4) (oi := { dst := some 15, op := Op.build 77 #[(0, Operand.tmp 11), (1, Operand.tmp 14)], type := 77, pos := "law.go:24", after := #[⟨0, .data⟩, ⟨3, .data⟩], guard := none }) (v := .agg (penCells (ringN n) tb).toArray) rfl (fun wx hS => ?_) hH ?_
        · exact run_buildO _ 77 _ rfl _ _ (buildPen (ringN n) tb (ringN_length n) wx) rfl
        refine wpAnyH_ready (rs := [5, 8]) (by kernel_rfl) (by simp) ?_
        refine AllReadyH.cons (o := { dst := some 16, op := Op.call { callee := Callee.value (Operand.func 32), args := #[Operand.tmp 15], argTypes := #[77] }, type := 27, pos := "law.go:24", after := #[⟨4, .data⟩, ⟨3, .chain⟩], guard := none }) rfl (fun KK hKK => ?_) (AllReadyH.cons (o := { dst := some 19, op := Op.buildSlice 30 1 #[(0, Operand.tmp 18)], type := 30, pos := "law.go:24", after := #[⟨7, .data⟩, ⟨12, .gcOnly .lateStores⟩], guard := none }) rfl (fun KK hKK => ?_) AllReadyH.nil)
        · go_simp
          have HTB0 := HTB.1
          with_reducible refine (new_any (penCells (ringN n) tb) (penCells_length _ _ (ringN_length n)) x2_1_1).mono ?_
          rintro e x2_1_2 ⟨wb, rfl, hlo, hnb, kb⟩
          replace q_ga := q_ga.keep kb
          replace HTB := And.intro (HTB.1.below kb) HTB.2
          have HWB := And.intro hnb (And.intro (Nat.le_trans hH.size hlo) (And.intro (fun (x : Addr) (hx : fa = some x) => Nat.lt_of_lt_of_le (tape_lt HTB0 hx) hlo) (Nat.lt_of_lt_of_le HTB0.is.lt hlo)))
          clear hnb hlo HTB0
          have hN := hH.trans (kb.mono hH.size)
          clear hH kb
          refine hKK.out _ _ hN (fun hH => ?_)
          clear hKK KK hN
          try simp only [Act.put, List.setIfInBounds_toArray, List.set_cons_zero, List.set_cons_succ]
          refine wpAnyH_ready (rs := [8, 12]) (by kernel_rfl) (by simp) ?_
          refine AllReadyH.cons (o := { dst := some 19, op := Op.buildSlice 30 1 #[(0, Operand.tmp 18)], type := 30, pos := "law.go:24", after := #[⟨7, .data⟩, ⟨12, .gcOnly .lateStores⟩], guard := none }) rfl (fun KK hKK => ?_) (AllReadyH.cons (o := { dst := some 2, op := Op.assign (Operand.tmp 16), type := 27, pos := "law.go:24", after := #[⟨5, .data⟩, ⟨5, .chain⟩, ⟨0, .phase⟩, ⟨1, .phase⟩, ⟨2, .phase⟩, ⟨3, .phase⟩, ⟨4, .phase⟩, ⟨5, .phase⟩, ⟨6, .textOnly .lateStores⟩, ⟨7, .textOnly .lateStores⟩, ⟨8, .textOnly .lateStores⟩, ⟨9, .textOnly .lateStores⟩, ⟨10, .textOnly .lateStores⟩, ⟨11, .textOnly .lateStores⟩], guard := none }) rfl (fun KK hKK => ?_) AllReadyH.nil)
          · have kb := alloc_below x2_1_2 (.cells #[.int .u8 (V n)] 5 (0, 0))
            replace q_ga := q_ga.keep kb
            replace HTB := And.intro (HTB.1.below kb) HTB.2
            replace HWB := And.intro (HWB.1.below kb HWB.1.lt) HWB.2
            have q_gb := cellsAt.new x2_1_2 #[.int .u8 (V n)] x2_1_2.heap.size 5 [.int .u8 (V n)] rfl rfl
            have hN := hH.trans (kb.mono hH.size)
            clear hH kb
            go_simp
            refine hKK.out _ _ hN (fun hH => ?_)
            clear hKK KK hN
            try simp only [Act.put, List.setIfInBounds_toArray, List.set_cons_zero, List.set_cons_succ]
            generalize x2_1_2.alloc (.cells #[.int .u8 (V n)] 5 (0, 0)) = x2_1_3 at *
            generalize x2_1_2.heap.size = gb at q_gb ⊢
            refine wpAnyH_ready (rs := [9, 12]) (by kernel_rfl) (by simp) ?_
            refine AllReadyH.cons (o := { dst := some 20, op := Op.convert 30 9 (Operand.tmp 19), type := 9, pos := "law.go:24", after := #[⟨8, .data⟩, ⟨12, .gcOnly .lateStores⟩], guard := none }) rfl (fun KK hKK => ?_) (AllReadyH.cons (o := { dst := some 2, op := Op.assign (Operand.tmp 16), type := 27, pos := "law.go:24", after := #[⟨5, .data⟩, ⟨5, .chain⟩, ⟨0, .phase⟩, ⟨1, .phase⟩, ⟨2, .phase⟩, ⟨3, .phase⟩, ⟨4, .phase⟩, ⟨5, .phase⟩, ⟨6, .textOnly .lateStores⟩, ⟨7, .textOnly .lateStores⟩, ⟨8, .textOnly .lateStores⟩, ⟨9, .textOnly .lateStores⟩, ⟨10, .textOnly .lateStores⟩, ⟨11, .textOnly .lateStores⟩], guard := none }) rfl (fun KK hKK => ?_) AllReadyH.nil)
            · have e1 : (convert 30 9 (.slice (some ⟨gb, 0, none⟩) 1 1)).run Tryd.prog x2_1_3 = .ok (.string (str ([n]))) x2_1_3 := conv_string x2_1_3 (some ⟨gb, 0, none⟩) ([n]) 1 (lit_one q_gb)
              go_simp
              refine hKK.out _ _ hH (fun hH => ?_)
              clear hKK KK e1
              try simp only [Act.put, List.setIfInBounds_toArray, List.set_cons_zero, List.set_cons_succ]
              refine tk (i := 10) (oi := { dst := some 21, op := Op.build 52 #[(0, Operand.tmp 17), (1, Operand.tmp 20)], type := 52, pos := "law.go:24", after := #[⟨6, .data⟩, ⟨9, .data⟩, ⟨12, .gcOnly .lateStores⟩], guard := none }) (v := .agg (refCells (ringN n) [n] 0 [] (.slice none 0 0)).toArray) rfl (fun wx hS => ?_) hH ?_
              · exact run_buildO _ 52 _ rfl _ _ (buildRw (ringN n) [n] (ringN_length n) wx) rfl
              refine wpAnyH_ready (rs := [11, 12]) (by kernel_rfl) (by simp) ?_
              refine AllReadyH.cons (o := { dst := some 22, op := Op.box 52 (Operand.tmp 21), type := 36, pos := "law.go:24", after := #[⟨10, .data⟩, ⟨12, .gcOnly .lateStores⟩], guard := none }) rfl (fun KK hKK => ?_) (AllReadyH.cons (o := { dst := some 2, op := Op.assign (Operand.tmp 16), type := 27, pos := "law.go:24", after := #[⟨5, .data⟩, ⟨5, .chain⟩, ⟨0, .phase⟩, ⟨1, .phase⟩, ⟨2, .phase⟩, ⟨3, .phase⟩, ⟨4, .phase⟩, ⟨5, .phase⟩, ⟨6, .textOnly .lateStores⟩, ⟨7, .textOnly .lateStores⟩, ⟨8, .textOnly .lateStores⟩, ⟨9, .textOnly .lateStores⟩, ⟨10, .textOnly .lateStores⟩, ⟨11, .textOnly .lateStores⟩], guard := none }) rfl (fun KK hKK => ?_) AllReadyH.nil)
              · have kb := alloc_below x2_1_3 (.cells (refCells (ringN n) [n] 0 [] (.slice none 0 0)).toArray 52 (0, 0))
                replace q_ga := q_ga.keep kb
                replace HTB := And.intro (HTB.1.below kb) HTB.2
                replace HWB := And.intro (HWB.1.below kb HWB.1.lt) HWB.2
                replace q_gb := q_gb.keep kb
                have q_rp := And.intro (blockIs.new x2_1_3 (refCells (ringN n) [n] 0 [] (.slice none 0 0)) 52) hH.size
                have hN := hH.trans (kb.mono hH.size)
                clear hH kb
                go_simp
                refine hKK.out _ _ hN (fun hH => ?_)
                clear hKK KK hN
                try simp only [Act.put, List.setIfInBounds_toArray, List.set_cons_zero, List.set_cons_succ]
                generalize x2_1_3.alloc (.cells (refCells (ringN n) [n] 0 [] (.slice none 0 0)).toArray 52 (0, 0)) = x2_1_5 at *
                generalize x2_1_3.heap.size = rp at q_rp ⊢
                refine wpAnyH_ready (rs := [12]) (by kernel_rfl) (by simp) ?_
                refine AllReadyH.cons (o := { dst := some 2, op := Op.assign (Operand.tmp 16), type := 27, pos := "law.go:24", after := #[⟨5, .data⟩, ⟨5, .chain⟩, ⟨0, .phase⟩, ⟨1, .phase⟩, ⟨2, .phase⟩, ⟨3, .phase⟩, ⟨4, .phase⟩, ⟨5, .phase⟩, ⟨6, .textOnly .lateStores⟩, ⟨7, .textOnly .lateStores⟩, ⟨8, .textOnly .lateStores⟩, ⟨9, .textOnly .lateStores⟩, ⟨10, .textOnly .lateStores⟩, ⟨11, .textOnly .lateStores⟩], guard := none }) rfl (fun KK hKK => ?_) AllReadyH.nil
                go_simp
                refine hKK.out _ _ hH (fun hH => ?_)
                clear hKK KK
                try simp only [Act.put, List.setIfInBounds_toArray, List.set_cons_zero, List.set_cons_succ]
                refine wpAnyH_listed (L2 := #[true, true, true, true, true, true, true, true, true, true, true, true, true, false]) (by kernel_rfl) ?_
                exact REST ga tb fa fc wb gb rp x2_1_5 ⟨hH, True.intro, q_ga, HTB, HWB, q_gb, q_rp⟩
              · go_simp
                refine hKK.out _ _ hH (fun hH => ?_)
                clear hKK KK
                try simp only [Act.put, List.setIfInBounds_toArray, List.set_cons_zero, List.set_cons_succ]
                refine wpAnyH_ready (rs := [11]) (by kernel_rfl) (by simp) ?_
                refine AllReadyH.cons (o := { dst := some 22, op := Op.box 52 (Operand.tmp 21), type := 36, pos := "law.go:24", after := #[⟨10, .data⟩, ⟨12, .gcOnly .lateStores⟩], guard := none }) rfl (fun KK hKK => ?_) AllReadyH.nil
                have kb := alloc_below x2_1_3 (.cells (refCells (ringN n) [n] 0 [] (.slice none 0 0)).toArray 52 (0, 0))
                replace q_ga := q_ga.keep kb
                replace HTB := And.intro (HTB.1.below kb) HTB.2
                replace HWB := And.intro (HWB.1.below kb HWB.1.lt) HWB.2
                replace q_gb := q_gb.keep kb
                have q_rp := And.intro (blockIs.new x2_1_3 (refCells (ringN n) [n] 0 [] (.slice none 0 0)) 52) hH.size
                have hN := hH.trans (kb.mono hH.size)
                clear hH kb
                go_simp
                refine hKK.out _ _ hN (fun hH => ?_)
                clear hKK KK hN
                try simp only [Act.put, List.setIfInBounds_toArray, List.set_cons_zero, List.set_cons_succ]
                generalize x2_1_3.alloc (.cells (refCells (ringN n) [n] 0 [] (.slice none 0 0)).toArray 52 (0, 0)) = x2_1_6 at *
                generalize x2_1_3.heap.size = rp at q_rp ⊢
                refine wpAnyH_listed (L2 := #[true, true, true, true, true, true, true, true, true, true, true, true, true, false]) (by kernel_rfl) ?_
                exact REST ga tb fa fc wb gb rp x2_1_6 ⟨hH, True.intro, q_ga, HTB, HWB, q_gb, q_rp⟩
            · go_simp
              refine hKK.out _ _ hH (fun hH => ?_)
              clear hKK KK
              try simp only [Act.put, List.setIfInBounds_toArray, List.set_cons_zero, List.set_cons_succ]
              refine wpAnyH_ready (rs := [9]) (by kernel_rfl) (by simp) ?_
              refine AllReadyH.cons (o := { dst := some 20, op := Op.convert 30 9 (Operand.tmp 19), type := 9, pos := "law.go:24", after := #[⟨8, .data⟩, ⟨12, .gcOnly .lateStores⟩], guard := none }) rfl (fun KK hKK => ?_) AllReadyH.nil
              have e1 : (convert 30 9 (.slice (some ⟨gb, 0, none⟩) 1 1)).run Tryd.prog x2_1_3 = .ok (.string (str ([n]))) x2_1_3 := conv_string x2_1_3 (some ⟨gb, 0, none⟩) ([n]) 1 (lit_one q_gb)
              go_simp
              refine hKK.out _ _ hH (fun hH => ?_)
              clear hKK KK e1
              try simp only [Act.put, List.setIfInBounds_toArray, List.set_cons_zero, List.set_cons_succ]
              refine tk (i := 10) (oi := { dst := some 21, op := Op.build 52 #[(0, Operand.tmp 17), (1, Operand.tmp 20)], type := 52, pos := "law.go:24", after := #[⟨6, .data⟩, ⟨9, .data⟩, ⟨12, .gcOnly .lateStores⟩], guard := none }) (v := .agg (refCells (ringN n) [n] 0 [] (.slice none 0 0)).toArray) rfl (fun wx hS => ?_) hH ?_
              · exact run_buildO _ 52 _ rfl _ _ (buildRw (ringN n) [n] (ringN_length n) wx) rfl
              refine wpAnyH_ready (rs := [11]) (by kernel_rfl) (by simp) ?_
              refine AllReadyH.cons (o := { dst := some 22, op := Op.box 52 (Operand.tmp 21), type := 36, pos := "law.go:24", after := #[⟨10, .data⟩, ⟨12, .gcOnly .lateStores⟩], guard := none }) rfl (fun KK hKK => ?_) AllReadyH.nil
              have kb := alloc_below x2_1_3 (.cells (refCells (ringN n) [n] 0 [] (.slice none 0 0)).toArray 52 (0, 0))
              replace q_ga := q_ga.keep kb
              replace HTB := And.intro (HTB.1.below kb) HTB.2
              replace HWB := And.intro (HWB.1.below kb HWB.1.lt) HWB.2
              replace q_gb := q_gb.keep kb
              have q_rp := And.intro (blockIs.new x2_1_3 (refCells (ringN n) [n] 0 [] (.slice none 0 0)) 52) hH.size
              have hN := hH.trans (kb.mono hH.size)
              clear hH kb
              go_simp
              refine hKK.out _ _ hN (fun hH => ?_)
              clear hKK KK hN
              try simp only [Act.put, List.setIfInBounds_toArray, List.set_cons_zero, List.set_cons_succ]
              generalize x2_1_3.alloc (.cells (refCells (ringN n) [n] 0 [] (.slice none 0 0)).toArray 52 (0, 0)) = x2_1_6 at *
              generalize x2_1_3.heap.size = rp at q_rp ⊢
              refine wpAnyH_listed (L2 := #[true, true, true, true, true, true, true, true, true, true, true, true, true, false]) (by kernel_rfl) ?_
              exact REST ga tb fa fc wb gb rp x2_1_6 ⟨hH, True.intro, q_ga, HTB, HWB, q_gb, q_rp⟩
          · go_simp
            refine hKK.out _ _ hH (fun hH => ?_)
            clear hKK KK
            try simp only [Act.put, List.setIfInBounds_toArray, List.set_cons_zero, List.set_cons_succ]
            refine wpAnyH_ready (rs := [8]) (by kernel_rfl) (by simp) ?_
            refine AllReadyH.cons (o := { dst := some 19, op := Op.buildSlice 30 1 #[(0, Operand.tmp 18)], type := 30, pos := "law.go:24", after := #[⟨7, .data⟩, ⟨12, .gcOnly .lateStores⟩], guard := none }) rfl (fun KK hKK => ?_) AllReadyH.nil
            have kb := alloc_below x2_1_2 (.cells #[.int .u8 (V n)] 5 (0, 0))
            replace q_ga := q_ga.keep kb
            replace HTB := And.intro (HTB.1.below kb) HTB.2
            replace HWB := And.intro (HWB.1.below kb HWB.1.lt) HWB.2
            have q_gb := cellsAt.new x2_1_2 #[.int .u8 (V n)] x2_1_2.heap.size 5 [.int .u8 (V n)] rfl rfl
            have hN := hH.trans (kb.mono hH.size)
            clear hH kb
            go_simp
            refine hKK.out _ _ hN (fun hH => ?_)
            clear hKK KK hN
            try simp only [Act.put, List.setIfInBounds_toArray, List.set_cons_zero, List.set_cons_succ]
            generalize x2_1_2.alloc (.cells #[.int .u8 (V n)] 5 (0, 0)) = x2_1_4 at *
            generalize x2_1_2.heap.size = gb at q_gb ⊢
            refine wpAnyH_ready (rs := [9]) (by kernel_rfl) (by simp) ?_
            refine AllReadyH.cons (o := { dst := some 20, op := Op.convert 30 9 (Operand.tmp 19), type := 9, pos := "law.go:24", after := #[⟨8, .data⟩, ⟨12, .gcOnly .lateStores⟩], guard := none }) rfl (fun KK hKK => ?_) AllReadyH.nil
            have e1 : (convert 30 9 (.slice (some ⟨gb, 0, none⟩) 1 1)).run Tryd.prog x2_1_4 = .ok (.string (str ([n]))) x2_1_4 := conv_string x2_1_4 (some ⟨gb, 0, none⟩) ([n]) 1 (lit_one q_gb)
            go_simp
            refine hKK.out _ _ hH (fun hH => ?_)
            clear hKK KK e1
            try simp only [Act.put, List.setIfInBounds_toArray, List.set_cons_zero, List.set_cons_succ]
            refine tk (i := 10) (oi := { dst := some 21, op := Op.build 52 #[(0, Operand.tmp 17), (1, Operand.tmp 20)], type := 52, pos := "law.go:24", after := #[⟨6, .data⟩, ⟨9, .data⟩, ⟨12, .gcOnly .lateStores⟩], guard := none }) (v := .agg (refCells (ringN n) [n] 0 [] (.slice none 0 0)).toArray) rfl (fun wx hS => ?_) hH ?_
            · exact run_buildO _ 52 _ rfl _ _ (buildRw (ringN n) [n] (ringN_length n) wx) rfl
            refine wpAnyH_ready (rs := [11]) (by kernel_rfl) (by simp) ?_
            refine AllReadyH.cons (o := { dst := some 22, op := Op.box 52 (Operand.tmp 21), type := 36, pos := "law.go:24", after := #[⟨10, .data⟩, ⟨12, .gcOnly .lateStores⟩], guard := none }) rfl (fun KK hKK => ?_) AllReadyH.nil
            have kb := alloc_below x2_1_4 (.cells (refCells (ringN n) [n] 0 [] (.slice none 0 0)).toArray 52 (0, 0))
            replace q_ga := q_ga.keep kb
            replace HTB := And.intro (HTB.1.below kb) HTB.2
            replace HWB := And.intro (HWB.1.below kb HWB.1.lt) HWB.2
            replace q_gb := q_gb.keep kb
            have q_rp := And.intro (blockIs.new x2_1_4 (refCells (ringN n) [n] 0 [] (.slice none 0 0)) 52) hH.size
            have hN := hH.trans (kb.mono hH.size)
            clear hH kb
            go_simp
            refine hKK.out _ _ hN (fun hH => ?_)
            clear hKK KK hN
            try simp only [Act.put, List.setIfInBounds_toArray, List.set_cons_zero, List.set_cons_succ]
            generalize x2_1_4.alloc (.cells (refCells (ringN n) [n] 0 [] (.slice none 0 0)).toArray 52 (0, 0)) = x2_1_6 at *
            generalize x2_1_4.heap.size = rp at q_rp ⊢
            refine wpAnyH_listed (L2 := #[true, true, true, true, true, true, true, true, true, true, true, true, true, false]) (by kernel_rfl) ?_
            exact REST ga tb fa fc wb gb rp x2_1_6 ⟨hH, True.intro, q_ga, HTB, HWB, q_gb, q_rp⟩
        · have kb := alloc_below x2_1_1 (.cells #[.int .u8 (V n)] 5 (0, 0))
          replace q_ga := q_ga.keep kb
          replace HTB := And.intro (HTB.1.below kb) HTB.2
          have q_gb := cellsAt.new x2_1_1 #[.int .u8 (V n)] x2_1_1.heap.size 5 [.int .u8 (V n)] rfl rfl
          have hN := hH.trans (kb.mono hH.size)
          clear hH kb
          go_simp
          refine hKK.out _ _ hN (fun hH => ?_)
          clear hKK KK hN
          try simp only [Act.put, List.setIfInBounds_toArray, List.set_cons_zero, List.set_cons_succ]
          generalize x2_1_1.alloc (.cells #[.int .u8 (V n)] 5 (0, 0)) = x2_1_2 at *
          generalize x2_1_1.heap.size = gb at q_gb ⊢
          refine wpAnyH_ready (rs := [5, 9]) (by kernel_rfl) (by simp) ?_
          refine AllReadyH.cons (o := { dst := some 16, op := Op.call { callee := Callee.value (Operand.func 32), args := #[Operand.tmp 15], argTypes := #[77] }, type := 27, pos := "law.go:24", after := #[⟨4, .data⟩, ⟨3, .chain⟩], guard := none }) rfl (fun KK hKK => ?_) (AllReadyH.cons (o := { dst := some 20, op := Op.convert 30 9 (Operand.tmp 19), type := 9, pos := "law.go:24", after := #[⟨8, .data⟩, ⟨12, .gcOnly .lateStores⟩], guard := none }) rfl (fun KK hKK => ?_) AllReadyH.nil)
          · go_simp
            have HTB0 := HTB.1
            with_reducible refine (new_any (penCells (ringN n) tb) (penCells_length _ _ (ringN_length n)) x2_1_2).mono ?_
            rintro e x2_1_3 ⟨wb, rfl, hlo, hnb, kb⟩
            replace q_ga := q_ga.keep kb
            replace HTB := And.intro (HTB.1.below kb) HTB.2
            replace q_gb := q_gb.keep kb
            have HWB := And.intro hnb (And.intro (Nat.le_trans hH.size hlo) (And.intro (fun (x : Addr) (hx : fa = some x) => Nat.lt_of_lt_of_le (tape_lt HTB0 hx) hlo) (Nat.lt_of_lt_of_le HTB0.is.lt hlo)))
            clear hnb hlo HTB0
            have hN := hH.trans (kb.mono hH.size)
            clear hH kb
            refine hKK.out _ _ hN (fun hH => ?_)
            clear hKK KK hN
            try simp only [Act.put, List.setIfInBounds_toArray, List.set_cons_zero, List.set_cons_succ]
            refine wpAnyH_ready (rs := [9, 12]) (by kernel_rfl) (by simp) ?_
            refine AllReadyH.cons (o := { dst := some 20, op := Op.convert 30 9 (Operand.tmp 19), type := 9, pos := "law.go:24", after := #[⟨8, .data⟩, ⟨12, .gcOnly .lateStores⟩], guard := none }) rfl (fun KK hKK => ?_) (AllReadyH.cons (o := { dst := some 2, op := Op.assign (Operand.tmp 16), type := 27, pos := "law.go:24", after := #[⟨5, .data⟩, ⟨5, .chain⟩, ⟨0, .phase⟩, ⟨1, .phase⟩, ⟨2, .phase⟩, ⟨3, .phase⟩, ⟨4, .phase⟩, ⟨5, .phase⟩, ⟨6, .textOnly .lateStores⟩, ⟨7, .textOnly .lateStores⟩, ⟨8, .textOnly .lateStores⟩, ⟨9, .textOnly .lateStores⟩, ⟨10, .textOnly .lateStores⟩, ⟨11, .textOnly .lateStores⟩], guard := none }) rfl (fun KK hKK => ?_) AllReadyH.nil)
            · have e1 : (convert 30 9 (.slice (some ⟨gb, 0, none⟩) 1 1)).run Tryd.prog x2_1_3 = .ok (.string (str ([n]))) x2_1_3 := conv_string x2_1_3 (some ⟨gb, 0, none⟩) ([n]) 1 (lit_one q_gb)
              go_simp
              refine hKK.out _ _ hH (fun hH => ?_)
              clear hKK KK e1
              try simp only [Act.put, List.setIfInBounds_toArray, List.set_cons_zero, List.set_cons_succ]
              refine tk (i := 10) (oi := { dst := some 21, op := Op.build 52 #[(0, Operand.tmp 17), (1, Operand.tmp 20)], type := 52, pos := "law.go:24", after := #[⟨6, .data⟩, ⟨9, .data⟩, ⟨12, .gcOnly .lateStores⟩], guard := none }) (v := .agg (refCells (ringN n) [n] 0 [] (.slice none 0 0)).toArray) rfl (fun wx hS => ?_) hH ?_
              · exact run_buildO _ 52 _ rfl _ _ (buildRw (ringN n) [n] (ringN_length n) wx) rfl
              refine wpAnyH_ready (rs := [11, 12]) (by kernel_rfl) (by simp) ?_
              refine AllReadyH.cons (o := { dst := some 22, op := Op.box 52 (Operand.tmp 21), type := 36, pos := "law.go:24", after := #[⟨10, .data⟩, ⟨12, .gcOnly .lateStores⟩], guard := none }) rfl (fun KK hKK => ?_) (AllReadyH.cons (o := { dst := some 2, op := Op.assign (Operand.tmp 16), type := 27, pos := "law.go:24", after := #[⟨5, .data⟩, ⟨5, .chain⟩, ⟨0, .phase⟩, ⟨1, .phase⟩, ⟨2, .phase⟩, ⟨3, .phase⟩, ⟨4, .phase⟩, ⟨5, .phase⟩, ⟨6, .textOnly .lateStores⟩, ⟨7, .textOnly .lateStores⟩, ⟨8, .textOnly .lateStores⟩, ⟨9, .textOnly .lateStores⟩, ⟨10, .textOnly .lateStores⟩, ⟨11, .textOnly .lateStores⟩], guard := none }) rfl (fun KK hKK => ?_) AllReadyH.nil)
              · have kb := alloc_below x2_1_3 (.cells (refCells (ringN n) [n] 0 [] (.slice none 0 0)).toArray 52 (0, 0))
                replace q_ga := q_ga.keep kb
                replace HTB := And.intro (HTB.1.below kb) HTB.2
                replace HWB := And.intro (HWB.1.below kb HWB.1.lt) HWB.2
                replace q_gb := q_gb.keep kb
                have q_rp := And.intro (blockIs.new x2_1_3 (refCells (ringN n) [n] 0 [] (.slice none 0 0)) 52) hH.size
                have hN := hH.trans (kb.mono hH.size)
                clear hH kb
                go_simp
                refine hKK.out _ _ hN (fun hH => ?_)
                clear hKK KK hN
                try simp only [Act.put, List.setIfInBounds_toArray, List.set_cons_zero, List.set_cons_succ]
                generalize x2_1_3.alloc (.cells (refCells (ringN n) [n] 0 [] (.slice none 0 0)).toArray 52 (0, 0)) = x2_1_5 at *
                generalize x2_1_3.heap.size = rp at q_rp ⊢
                refine wpAnyH_ready (rs := [12]) (by kernel_rfl) (by simp) ?_
                refine AllReadyH.cons (o := { dst := some 2, op := Op.assign (Operand.tmp 16), type := 27, pos := "law.go:24", after := #[⟨5, .data⟩, ⟨5, .chain⟩, ⟨0, .phase⟩, ⟨1, .phase⟩, ⟨2, .phase⟩, ⟨3, .phase⟩, ⟨4, .phase⟩, ⟨5, .phase⟩, ⟨6, .textOnly .lateStores⟩, ⟨7, .textOnly .lateStores⟩, ⟨8, .textOnly .lateStores⟩, ⟨9, .textOnly .lateStores⟩, ⟨10, .textOnly .lateStores⟩, ⟨11, .textOnly .lateStores⟩], guard := none }) rfl (fun KK hKK => ?_) AllReadyH.nil
                go_simp
                refine hKK.out _ _ hH (fun hH => ?_)
                clear hKK KK
                try simp only [Act.put, List.setIfInBounds_toArray, List.set_cons_zero, List.set_cons_succ]
                refine wpAnyH_listed (L2 := #[true, true, true, true, true, true, true, true, true, true, true, true, true, false]) (by kernel_rfl) ?_
                exact REST ga tb fa fc wb gb rp x2_1_5 ⟨hH, True.intro, q_ga, HTB, HWB, q_gb, q_rp⟩
              · go_simp
                refine hKK.out _ _ hH (fun hH => ?_)
                clear hKK KK
                try simp only [Act.put, List.setIfInBounds_toArray, List.set_cons_zero, List.set_cons_succ]
                refine wpAnyH_ready (rs := [11]) (by kernel_rfl) (by simp) ?_
                refine AllReadyH.cons (o := { dst := some 22, op := Op.box 52 (Operand.tmp 21), type := 36, pos := "law.go:24", after := #[⟨10, .data⟩, ⟨12, .gcOnly .lateStores⟩], guard := none }) rfl (fun KK hKK => ?_) AllReadyH.nil
                have kb := alloc_below x2_1_3 (.cells (refCells (ringN n) [n] 0 [] (.slice none 0 0)).toArray 52 (0, 0))
                replace q_ga := q_ga.keep kb
                replace HTB := And.intro (HTB.1.below kb) HTB.2
                replace HWB := And.intro (HWB.1.below kb HWB.1.lt) HWB.2
                replace q_gb := q_gb.keep kb
                have q_rp := And.intro (blockIs.new x2_1_3 (refCells (ringN n) [n] 0 [] (.slice none 0 0)) 52) hH.size
                have hN := hH.trans (kb.mono hH.size)
                clear hH kb
                go_simp
                refine hKK.out _ _ hN (fun hH => ?_)
                clear hKK KK hN
                try simp only [Act.put, List.setIfInBounds_toArray, List.set_cons_zero, List.set_cons_succ]
                generalize x2_1_3.alloc (.cells (refCells (ringN n) [n] 0 [] (.slice none 0 0)).toArray 52 (0, 0)) = x2_1_6 at *
                generalize x2_1_3.heap.size = rp at q_rp ⊢
                refine wpAnyH_listed (L2 := #[true, true, true, true, true, true, true, true, true, true, true, true, true, false]) (by kernel_rfl) ?_
                exact REST ga tb fa fc wb gb rp x2_1_6 ⟨hH, True.intro, q_ga, HTB, HWB, q_gb, q_rp⟩
            · go_simp
              refine hKK.out _ _ hH (fun hH => ?_)
              clear hKK KK
              try simp only [Act.put, List.setIfInBounds_toArray, List.set_cons_zero, List.set_cons_succ]
              refine wpAnyH_ready (rs := [9]) (by kernel_rfl) (by simp) ?_
              refine AllReadyH.cons (o := { dst := some 20, op := Op.convert 30 9 (Operand.tmp 19), type := 9, pos := "law.go:24", after := #[⟨8, .data⟩, ⟨12, .gcOnly .lateStores⟩], guard := none }) rfl (fun KK hKK => ?_) AllReadyH.nil
              have e1 : (convert 30 9 (.slice (some ⟨gb, 0, none⟩) 1 1)).run Tryd.prog x2_1_3 = .ok (.string (str ([n]))) x2_1_3 := conv_string x2_1_3 (some ⟨gb, 0, none⟩) ([n]) 1 (lit_one q_gb)
              go_simp
              refine hKK.out _ _ hH (fun hH => ?_)
              clear hKK KK e1
              try simp only [Act.put, List.setIfInBounds_toArray, List.set_cons_zero, List.set_cons_succ]
              refine tk (i := 10) (oi := { dst := some 21, op := Op.build 52 #[(0, Operand.tmp 17), (1, Operand.tmp 20)], type := 52, pos := "law.go:24", after := #[⟨6, .data⟩, ⟨9, .data⟩, ⟨12, .gcOnly .lateStores⟩], guard := none }) (v := .agg (refCells (ringN n) [n] 0 [] (.slice none 0 0)).toArray) rfl (fun wx hS => ?_) hH ?_
              · exact run_buildO _ 52 _ rfl _ _ (buildRw (ringN n) [n] (ringN_length n) wx) rfl
              refine wpAnyH_ready (rs := [11]) (by kernel_rfl) (by simp) ?_
              refine AllReadyH.cons (o := { dst := some 22, op := Op.box 52 (Operand.tmp 21), type := 36, pos := "law.go:24", after := #[⟨10, .data⟩, ⟨12, .gcOnly .lateStores⟩], guard := none }) rfl (fun KK hKK => ?_) AllReadyH.nil
              have kb := alloc_below x2_1_3 (.cells (refCells (ringN n) [n] 0 [] (.slice none 0 0)).toArray 52 (0, 0))
              replace q_ga := q_ga.keep kb
              replace HTB := And.intro (HTB.1.below kb) HTB.2
              replace HWB := And.intro (HWB.1.below kb HWB.1.lt) HWB.2
              replace q_gb := q_gb.keep kb
              have q_rp := And.intro (blockIs.new x2_1_3 (refCells (ringN n) [n] 0 [] (.slice none 0 0)) 52) hH.size
              have hN := hH.trans (kb.mono hH.size)
              clear hH kb
              go_simp
              refine hKK.out _ _ hN (fun hH => ?_)
              clear hKK KK hN
              try simp only [Act.put, List.setIfInBounds_toArray, List.set_cons_zero, List.set_cons_succ]
              generalize x2_1_3.alloc (.cells (refCells (ringN n) [n] 0 [] (.slice none 0 0)).toArray 52 (0, 0)) = x2_1_6 at *
              generalize x2_1_3.heap.size = rp at q_rp ⊢
              refine wpAnyH_listed (L2 := #[true, true, true, true, true, true, true, true, true, true, true, true, true, false]) (by kernel_rfl) ?_
              exact REST ga tb fa fc wb gb rp x2_1_6 ⟨hH, True.intro, q_ga, HTB, HWB, q_gb, q_rp⟩
          · have e1 : (convert 30 9 (.slice (some ⟨gb, 0, none⟩) 1 1)).run Tryd.prog x2_1_2 = .ok (.string (str ([n]))) x2_1_2 := conv_string x2_1_2 (some ⟨gb, 0, none⟩) ([n]) 1 (lit_one q_gb)
            go_simp
            refine hKK.out _ _ hH (fun hH => ?_)
            clear hKK KK e1
            try simp only [Act.put, List.setIfInBounds_toArray, List.set_cons_zero, List.set_cons_succ]
            refine tk (i := 10) (oi := { dst := some 21, op := Op.build 52 #[(0, Operand.tmp 17), (1, Operand.tmp 20)], type := 52, pos := "law.go:24", after := #[⟨6, .data⟩, ⟨9, .data⟩, ⟨12, .gcOnly .lateStores⟩], guard := none }) (v := .agg (refCells (ringN n) [n] 0 [] (.slice none 0 0)).toArray) rfl (fun wx hS => ?_) hH ?_
            · exact run_buildO _ 52 _ rfl _ _ (buildRw (ringN n) [n] (ringN_length n) wx) rfl
            refine wpAnyH_ready (rs := [5, 11]) (by kernel_rfl) (by simp) ?_
            refine AllReadyH.cons (o := { dst := some 16, op := Op.call { callee := Callee.value (Operand.func 32), args := #[Operand.tmp 15], argTypes := #[77] }, type := 27, pos := "law.go:24", after := #[⟨4, .data⟩, ⟨3, .chain⟩], guard := none }) rfl (fun KK hKK => ?_) (AllReadyH.cons (o := { dst := some 22, op := Op.box 52 (Operand.tmp 21), type := 36, pos := "law.go:24", after := #[⟨10, .data⟩, ⟨12, .gcOnly .lateStores⟩], guard := none }) rfl (fun KK hKK => ?_) AllReadyH.nil)
            · go_simp
              have HTB0 := HTB.1
              with_reducible refine (new_any (penCells (ringN n) tb) (penCells_length _ _ (ringN_length n)) x2_1_2).mono ?_
              rintro e x2_1_4 ⟨wb, rfl, hlo, hnb, kb⟩
              replace q_ga := q_ga.keep kb
              replace HTB := And.intro (HTB.1.below kb) HTB.2
              replace q_gb := q_gb.keep kb
              have HWB := And.intro hnb (And.intro (Nat.le_trans hH.size hlo) (And.intro (fun (x : Addr) (hx : fa = some x) => Nat.lt_of_lt_of_le (tape_lt HTB0 hx) hlo) (Nat.lt_of_lt_of_le HTB0.is.lt hlo)))
              clear hnb hlo HTB0
              have hN := hH.trans (kb.mono hH.size)
              clear hH kb
              refine hKK.out _ _ hN (fun hH => ?_)
              clear hKK KK hN
              try simp only [Act.put, List.setIfInBounds_toArray, List.set_cons_zero, List.set_cons_succ]
              refine wpAnyH_ready (rs := [11, 12]) (by kernel_rfl) (by simp) ?_
              refine AllReadyH.cons (o := { dst := some 22, op := Op.box 52 (Operand.tmp 21), type := 36, pos := "law.go:24", after := #[⟨10, .data⟩, ⟨12, .gcOnly .lateStores⟩], guard := none }) rfl (fun KK hKK => ?_) (AllReadyH.cons (o := { dst := some 2, op := Op.assign (Operand.tmp 16), type := 27, pos := "law.go:24", after := #[⟨5, .data⟩, ⟨5, .chain⟩, ⟨0, .phase⟩, ⟨1, .phase⟩, ⟨2, .phase⟩, ⟨3, .phase⟩, ⟨4, .phase⟩, ⟨5, .phase⟩, ⟨6, .textOnly .lateStores⟩, ⟨7, .textOnly .lateStores⟩, ⟨8, .textOnly .lateStores⟩, ⟨9, .textOnly .lateStores⟩, ⟨10, .textOnly .lateStores⟩, ⟨11, .textOnly .lateStores⟩], guard := none }) rfl (fun KK hKK => ?_) AllReadyH.nil)
              · have kb := alloc_below x2_1_4 (.cells (refCells (ringN n) [n] 0 [] (.slice none 0 0)).toArray 52 (0, 0))
                replace q_ga := q_ga.keep kb
                replace HTB := And.intro (HTB.1.below kb) HTB.2
                replace HWB := And.intro (HWB.1.below kb HWB.1.lt) HWB.2
                replace q_gb := q_gb.keep kb
                have q_rp := And.intro (blockIs.new x2_1_4 (refCells (ringN n) [n] 0 [] (.slice none 0 0)) 52) hH.size
                have hN := hH.trans (kb.mono hH.size)
                clear hH kb
                go_simp
                refine hKK.out _ _ hN (fun hH => ?_)
                clear hKK KK hN
                try simp only [Act.put, List.setIfInBounds_toArray, List.set_cons_zero, List.set_cons_succ]
                generalize x2_1_4.alloc (.cells (refCells (ringN n) [n] 0 [] (.slice none 0 0)).toArray 52 (0, 0)) = x2_1_5 at *
                generalize x2_1_4.heap.size = rp at q_rp ⊢
                refine wpAnyH_ready (rs := [12]) (by kernel_rfl) (by simp) ?_
                refine AllReadyH.cons (o := { dst := some 2, op := Op.assign (Operand.tmp 16), type := 27, pos := "law.go:24", after := #[⟨5, .data⟩, ⟨5, .chain⟩, ⟨0, .phase⟩, ⟨1, .phase⟩, ⟨2, .phase⟩, ⟨3, .phase⟩, ⟨4, .phase⟩, ⟨5, .phase⟩, ⟨6, .textOnly .lateStores⟩, ⟨7, .textOnly .lateStores⟩, ⟨8, .textOnly .lateStores⟩, ⟨9, .textOnly .lateStores⟩, ⟨10, .textOnly .lateStores⟩, ⟨11, .textOnly .lateStores⟩], guard := none }) rfl (fun KK hKK => ?_) AllReadyH.nil
                go_simp
                refine hKK.out _ _ hH (fun hH => ?_)
                clear hKK KK
                try simp only [Act.put, List.setIfInBounds_toArray, List.set_cons_zero, List.set_cons_succ]
                refine wpAnyH_listed (L2 := #[true, true, true, true, true, true, true, true, true, true, true, true, true, false]) (by kernel_rfl) ?_
                exact REST ga tb fa fc wb gb rp x2_1_5 ⟨hH, True.intro, q_ga, HTB, HWB, q_gb, q_rp⟩
              · go_simp
                refine hKK.out _ _ hH (fun hH => ?_)
                clear hKK KK
                try simp only [Act.put, List.setIfInBounds_toArray, List.set_cons_zero, List.set_cons_succ]
                refine wpAnyH_ready (rs := [11]) (by kernel_rfl) (by simp) ?_
                refine AllReadyH.cons (o := { dst := some 22, op := Op.box 52 (Operand.tmp 21), type := 36, pos := "law.go:24", after := #[⟨10, .data⟩, ⟨12, .gcOnly .lateStores⟩], guard := none }) rfl (fun KK hKK => ?_) AllReadyH.nil
                have kb := alloc_below x2_1_4 (.cells (refCells (ringN n) [n] 0 [] (.slice none 0 0)).toArray 52 (0, 0))
                replace q_ga := q_ga.keep kb
                replace HTB := And.intro (HTB.1.below kb) HTB.2
                replace HWB := And.intro (HWB.1.below kb HWB.1.lt) HWB.2
                replace q_gb := q_gb.keep kb
                have q_rp := And.intro (blockIs.new x2_1_4 (refCells (ringN n) [n] 0 [] (.slice none 0 0)) 52) hH.size
                have hN := hH.trans (kb.mono hH.size)
                clear hH kb
                go_simp
                refine hKK.out _ _ hN (fun hH => ?_)
                clear hKK KK hN
                try simp only [Act.put, List.setIfInBounds_toArray, List.set_cons_zero, List.set_cons_succ]
                generalize x2_1_4.alloc (.cells (refCells (ringN n) [n] 0 [] (.slice none 0 0)).toArray 52 (0, 0)) = x2_1_6 at *
                generalize x2_1_4.heap.size = rp at q_rp ⊢
                refine wpAnyH_listed (L2 := #[true, true, true, true, true, true, true, true, true, true, true, true, true, false]) (by kernel_rfl) ?_
                exact REST ga tb fa fc wb gb rp x2_1_6 ⟨hH, True.intro, q_ga, HTB, HWB, q_gb, q_rp⟩
            · have kb := alloc_below x2_1_2 (.cells (refCells (ringN n) [n] 0 [] (.slice none 0 0)).toArray 52 (0, 0))
              replace q_ga := q_ga.keep kb
              replace HTB := And.intro (HTB.1.below kb) HTB.2
              replace q_gb := q_gb.keep kb
              have q_rp := And.intro (blockIs.new x2_1_2 (refCells (ringN n) [n] 0 [] (.slice none 0 0)) 52) hH.size
              have hN := hH.trans (kb.mono hH.size)
              clear hH kb
              go_simp
              refine hKK.out _ _ hN (fun hH => ?_)
              clear hKK KK hN
              try simp only [Act.put, List.setIfInBounds_toArray, List.set_cons_zero, List.set_cons_succ]
              generalize x2_1_2.alloc (.cells (refCells (ringN n) [n] 0 [] (.slice none 0 0)).toArray 52 (0, 0)) = x2_1_4 at *
              generalize x2_1_2.heap.size = rp at q_rp ⊢
              refine wpAnyH_ready (rs := [5]) (by kernel_rfl) (by simp) ?_
              refine AllReadyH.cons (o := { dst := some 16, op := Op.call { callee := Callee.value (Operand.func 32), args := #[Operand.tmp 15], argTypes := #[77] }, type := 27, pos := "law.go:24", after := #[⟨4, .data⟩, ⟨3, .chain⟩], guard := none }) rfl (fun KK hKK => ?_) AllReadyH.nil
              go_simp
              have HTB0 := HTB.1
              with_reducible refine (new_any (penCells (ringN n) tb) (penCells_length _ _ (ringN_length n)) x2_1_4).mono ?_
              rintro e x2_1_5 ⟨wb, rfl, hlo, hnb, kb⟩
              replace q_ga := q_ga.keep kb
              replace HTB := And.intro (HTB.1.below kb) HTB.2
              replace q_gb := q_gb.keep kb
              replace q_rp := And.intro (q_rp.1.below kb q_rp.1.lt) q_rp.2
              have HWB := And.intro hnb (And.intro (Nat.le_trans hH.size hlo) (And.intro (fun (x : Addr) (hx : fa = some x) => Nat.lt_of_lt_of_le (tape_lt HTB0 hx) hlo) (Nat.lt_of_lt_of_le HTB0.is.lt hlo)))
              clear hnb hlo HTB0
              have hN := hH.trans (kb.mono hH.size)
              clear hH kb
              refine hKK.out _ _ hN (fun hH => ?_)
              clear hKK KK hN
              try simp only [Act.put, List.setIfInBounds_toArray, List.set_cons_zero, List.set_cons_succ]
              refine wpAnyH_ready (rs := [12]) (by kernel_rfl) (by simp) ?_
              refine AllReadyH.cons (o := { dst := some 2, op := Op.assign (Operand.tmp 16), type := 27, pos := "law.go:24", after := #[⟨5, .data⟩, ⟨5, .chain⟩, ⟨0, .phase⟩, ⟨1, .phase⟩, ⟨2, .phase⟩, ⟨3, .phase⟩, ⟨4, .phase⟩, ⟨5, .phase⟩, ⟨6, .textOnly .lateStores⟩, ⟨7, .textOnly .lateStores⟩, ⟨8, .textOnly .lateStores⟩, ⟨9, .textOnly .lateStores⟩, ⟨10, .textOnly .lateStores⟩, ⟨11, .textOnly .lateStores⟩], guard := none }) rfl (fun KK hKK => ?_) AllReadyH.nil
              go_simp
              refine hKK.out _ _ hH (fun hH => ?_)
              clear hKK KK
              try simp only [Act.put, List.setIfInBounds_toArray, List.set_cons_zero, List.set_cons_succ]
              refine wpAnyH_listed (L2 := #[true, true, true, true, true, true, true, true, true, true, true, true, true, false]) (by kernel_rfl) ?_
              exact REST ga tb fa fc wb gb rp x2_1_5 ⟨hH, True.intro, q_ga, HTB, HWB, q_gb, q_rp⟩
      · have kb := alloc_below x2_1_0 (.cells #[.int .u8 (V n)] 5 (0, 0))
        replace q_ga := q_ga.keep kb
        have q_gb := cellsAt.new x2_1_0 #[.int .u8 (V n)] x2_1_0.heap.size 5 [.int .u8 (V n)] rfl rfl
        have hN := hH.trans (kb.mono hH.size)
        clear hH kb
        go_simp
        refine hKK.out _ _ hN (fun hH => ?_)
        clear hKK KK hN
        try simp only [Act.put, List.setIfInBounds_toArray, List.set_cons_zero, List.set_cons_succ]
        generalize x2_1_0.alloc (.cells #[.int .u8 (V n)] 5 (0, 0)) = x2_1_1 at *
        generalize x2_1_0.heap.size = gb at q_gb ⊢
        refine wpAnyH_ready (rs := [3, 9]) (by kernel_rfl) (by simp) ?_
        refine AllReadyH.cons (o := { dst := some 14, op := Op.call { callee := Callee.value (Operand.func 33), args := #[Operand.tmp 13], argTypes := #[30] }, type := 75, pos := "law.go:24", after := #[⟨2, .data⟩], guard := none }) rfl (fun KK hKK => ?_) (AllReadyH.cons (o := { dst := some 20, op := Op.convert 30 9 (Operand.tmp 19), type := 9, pos := "law.go:24", after := #[⟨8, .data⟩, ⟨12, .gcOnly .lateStores⟩], guard := none }) rfl (fun KK hKK => ?_) AllReadyH.nil)
        · go_simp
          with_reducible refine (wind_one ga n x2_1_1 q_ga).mono ?_
          rintro e x2_1_2 ⟨tb, fa, fc, rfl, hlo, htp, hfa, kb⟩
          replace q_ga := q_ga.keep kb
          replace q_gb := q_gb.keep kb
          have HTB := And.intro htp (And.intro (Nat.le_trans hH.size hlo) fun (x : Addr) (hx : fa = some x) => Nat.le_trans hH.size (hfa x hx))
          clear htp hlo hfa
          have hN := hH.trans (kb.mono hH.size)
          clear hH kb
          refine hKK.out _ _ hN (fun hH => ?_)
          clear hKK KK hN
          try simp only [Act.put, List.setIfInBounds_toArray, List.set_cons_zero, List.set_cons_succ]
          refine tk (i := 4) (oi := { dst := some 15, op := Op.build 77 #[(0, Operand.tmp 11), (1, Operand.tmp 14)], type := 77, pos := "law.go:24", after := #[⟨0, .data⟩, ⟨3, .data⟩], guard := none }) (v := .agg (penCells (ringN n) tb).toArray) rfl (fun wx hS => ?_) hH ?_
          · exact run_buildO _ 77 _ rfl _ _ (buildPen (ringN n) tb (ringN_length n) wx) rfl
          refine wpAnyH_ready (rs := [5, 9]) (by kernel_rfl) (by simp) ?_
          refine AllReadyH.cons (o := { dst := some 16, op := Op.call { callee := Callee.value (Operand.func 32), args := #[Operand.tmp 15], argTypes := #[77] }, type := 27, pos := "law.go:24", after := #[⟨4, .data⟩, ⟨3, .chain⟩], guard := none }) rfl (fun KK hKK => ?_) (AllReadyH.cons (o := { dst := some 20, op := Op.convert 30 9 (Operand.tmp 19), type := 9, pos := "law.go:24", after := #[⟨8, .data⟩, ⟨12, .gcOnly .lateStores⟩], guard := none }) rfl (fun KK hKK => ?_) AllReadyH.nil)
          · go_simp
            have HTB0 := HTB.1
            with_reducible refine (new_any (penCells (ringN n) tb) (penCells_length _ _ (ringN_length n)) x2_1_2).mono ?_
            rintro e x2_1_3 ⟨wb, rfl, hlo, hnb, kb⟩
            replace q_ga := q_ga.keep kb
            replace HTB := And.intro (HTB.1.below kb) HTB.2
            replace q_gb := q_gb.keep kb
            have HWB := And.intro hnb (And.intro (Nat.le_trans hH.size hlo) (And.intro (fun (x : Addr) (hx : fa = some x) => Nat.lt_of_lt_of_le (tape_lt HTB0 hx) hlo) (Nat.lt_of_lt_of_le HTB0.is.lt hlo)))
            clear hnb hlo HTB0
            have hN := hH.trans (kb.mono hH.size)
            clear hH kb
            refine hKK.out _ _ hN (fun hH => ?_)
            clear hKK KK hN
            try simp only [Act.put, List.setIfInBounds_toArray, List.set_cons_zero, List.set_cons_succ]
            refine wpAnyH_ready (rs := [9, 12]) (by kernel_rfl) (by simp) ?_
            refine AllReadyH.cons (o := { dst := some 20, op := Op.convert 30 9 (Operand.tmp 19), type := 9, pos := "law.go:24", after := #[⟨8, .data⟩, ⟨12, .gcOnly .lateStores⟩], guard := none }) rfl (fun KK hKK => ?_) (AllReadyH.cons (o := { dst := some 2, op := Op.assign (Operand.tmp 16), type := 27, pos := "law.go:24", after := #[⟨5, .data⟩, ⟨5, .chain⟩, ⟨0, .phase⟩, ⟨1, .phase⟩, ⟨2, .phase⟩, ⟨3, .phase⟩, ⟨4, .phase⟩, ⟨5, .phase⟩, ⟨6, .textOnly .lateStores⟩, ⟨7, .textOnly .lateStores⟩, ⟨8, .textOnly .lateStores⟩, ⟨9, .textOnly .lateStores⟩, ⟨10, .textOnly .lateStores⟩, ⟨11, .textOnly .lateStores⟩], guard := none }) rfl (fun KK hKK => ?_) AllReadyH.nil)
            · have e1 : (convert 30 9 (.slice (some ⟨gb, 0, none⟩) 1 1)).run Tryd.prog x2_1_3 = .ok (.string (str ([n]))) x2_1_3 := conv_string x2_1_3 (some ⟨gb, 0, none⟩) ([n]) 1 (lit_one q_gb)
              go_simp
              refine hKK.out _ _ hH (fun hH => ?_)
              clear hKK KK e1
              try simp only [Act.put, List.setIfInBounds_toArray, List.set_cons_zero, List.set_cons_succ]
              refine tk (i := 10) (oi := { dst := some 21, op := Op.build 52 #[(0, Operand.tmp 17), (1, Operand.tmp 20)], type := 52, pos := "law.go:24", after := #[⟨6, .data⟩, ⟨9, .data⟩, ⟨12, .gcOnly .lateStores⟩], guard := none }) (v := .agg (refCells (ringN n) [n] 0 [] (.slice none 0 0)).toArray) rfl (fun wx hS => ?_) hH ?_
              · exact run_buildO _ 52 _ rfl _ _ (buildRw (ringN n) [n] (ringN_length n) wx) rfl
              refine wpAnyH_ready (rs := [11, 12]) (by kernel_rfl) (by simp) ?_
              refine AllReadyH.cons (o := { dst := some 22, op := Op.box 52 (Operand.tmp 21), type := 36, pos := "law.go:24", after := #[⟨10, .data⟩, ⟨12, .gcOnly .lateStores⟩], guard := none }) rfl (fun KK hKK => ?_) (AllReadyH.cons (o := { dst := some 2, op := Op.assign (Operand.tmp 16), type := 27, pos := "law.go:24", after := #[⟨5, .data⟩, ⟨5, .chain⟩, ⟨0, .phase⟩, ⟨1, .phase⟩, ⟨2, .phase⟩, ⟨3, .phase⟩, ⟨4, .phase⟩, ⟨5, .phase⟩, ⟨6, .textOnly .lateStores⟩, ⟨7, .textOnly .lateStores⟩, ⟨8, .textOnly .lateStores⟩, ⟨9, .textOnly .lateStores⟩, ⟨10, .textOnly .lateStores⟩, ⟨11, .textOnly .lateStores⟩], guard := none }) rfl (fun KK hKK => ?_) AllReadyH.nil)
              · have kb := alloc_below x2_1_3 (.cells (refCells (ringN n) [n] 0 [] (.slice none 0 0)).toArray 52 (0, 0))
                replace q_ga := q_ga.keep kb
                replace HTB := And.intro (HTB.1.below kb) HTB.2
                replace HWB := And.intro (HWB.1.below kb HWB.1.lt) HWB.2
                replace q_gb := q_gb.keep kb
                have q_rp := And.intro (blockIs.new x2_1_3 (refCells (ringN n) [n] 0 [] (.slice none 0 0)) 52) hH.size
                have hN := hH.trans (kb.mono hH.size)
                clear hH kb
                go_simp
                refine hKK.out _ _ hN (fun hH => ?_)
                clear hKK KK hN
                try simp only [Act.put, List.setIfInBounds_toArray, List.set_cons_zero, List.set_cons_succ]
                generalize x2_1_3.alloc (.cells (refCells (ringN n) [n] 0 [] (.slice none 0 0)).toArray 52 (0, 0)) = x2_1_5 at *
                generalize x2_1_3.heap.size = rp at q_rp ⊢
                refine wpAnyH_ready (rs := [12]) (by kernel_rfl) (by simp) ?_
                refine AllReadyH.cons (o := { dst := some 2, op := Op.assign (Operand.tmp 16), type := 27, pos := "law.go:24", after := #[⟨5, .data⟩, ⟨5, .chain⟩, ⟨0, .phase⟩, ⟨1, .phase⟩, ⟨2, .phase⟩, ⟨3, .phase⟩, ⟨4, .phase⟩, ⟨5, .phase⟩, ⟨6, .textOnly .lateStores⟩, ⟨7, .textOnly .lateStores⟩, ⟨8, .textOnly .lateStores⟩, ⟨9, .textOnly .lateStores⟩, ⟨10, .textOnly .lateStores⟩, ⟨11, .textOnly .lateStores⟩], guard := none }) rfl (fun KK hKK => ?_) AllReadyH.nil
                go_simp
                refine hKK.out _ _ hH (fun hH => ?_)
                clear hKK KK
                try simp only [Act.put, List.setIfInBounds_toArray, List.set_cons_zero, List.set_cons_succ]
                refine wpAnyH_listed (L2 := #[true, true, true, true, true, true, true, true, true, true, true, true, true, false]) (by kernel_rfl) ?_
                exact REST ga tb fa fc wb gb rp x2_1_5 ⟨hH, True.intro, q_ga, HTB, HWB, q_gb, q_rp⟩
              · go_simp
                refine hKK.out _ _ hH (fun hH => ?_)
                clear hKK KK
                try simp only [Act.put, List.setIfInBounds_toArray, List.set_cons_zero, List.set_cons_succ]
                refine wpAnyH_ready (rs := [11]) (by kernel_rfl) (by simp) ?_
                refine AllReadyH.cons (o := { dst := some 22, op := Op.box 52 (Operand.tmp 21), type := 36, pos := "law.go:24", after := #[⟨10, .data⟩, ⟨12, .gcOnly .lateStores⟩], guard := none }) rfl (fun KK hKK => ?_) AllReadyH.nil
                have kb := alloc_below x2_1_3 (.cells (refCells (ringN n) [n] 0 [] (.slice none 0 0)).toArray 52 (0, 0))
                replace q_ga := q_ga.keep kb
                replace HTB := And.intro (HTB.1.below kb) HTB.2
                replace HWB := And.intro (HWB.1.below kb HWB.1.lt) HWB.2
                replace q_gb := q_gb.keep kb
                have q_rp := And.intro (blockIs.new x2_1_3 (refCells (ringN n) [n] 0 [] (.slice none 0 0)) 52) hH.size
                have hN := hH.trans (kb.mono hH.size)
                clear hH kb
                go_simp
                refine hKK.out _ _ hN (fun hH => ?_)
                clear hKK KK hN
                try simp only [Act.put, List.setIfInBounds_toArray, List.set_cons_zero, List.set_cons_succ]
                generalize x2_1_3.alloc (.cells (refCells (ringN n) [n] 0 [] (.slice none 0 0)).toArray 52 (0, 0)) = x2_1_6 at *
                generalize x2_1_3.heap.size = rp at q_rp ⊢
                refine wpAnyH_listed (L2 := #[true, true, true, true, true, true, true, true, true, true, true, true, true, false]) (by kernel_rfl) ?_
                exact REST ga tb fa fc wb gb rp x2_1_6 ⟨hH, True.intro, q_ga, HTB, HWB, q_gb, q_rp⟩
            · go_simp
              refine hKK.out _ _ hH (fun hH => ?_)
              clear hKK KK
              try simp only [Act.put, List.setIfInBounds_toArray, List.set_cons_zero, List.set_cons_succ]
              refine wpAnyH_ready (rs := [9]) (by kernel_rfl) (by simp) ?_
              refine AllReadyH.cons (o := { dst := some 20, op := Op.convert 30 9 (Operand.tmp 19), type := 9, pos := "law.go:24", after := #[⟨8, .data⟩, ⟨12, .gcOnly .lateStores⟩], guard := none }) rfl (fun KK hKK => ?_) AllReadyH.nil
              have e1 : (convert 30 9 (.slice (some ⟨gb, 0, none⟩) 1 1)).run Tryd.prog x2_1_3 = .ok (.string (str ([n]))) x2_1_3 := conv_string x2_1_3 (some ⟨gb, 0, none⟩) ([n]) 1 (lit_one q_gb)
              go_simp
              refine hKK.out _ _ hH (fun hH => ?_)
              clear hKK KK e1
              try simp only [Act.put, List.setIfInBounds_toArray, List.set_cons_zero, List.set_cons_succ]
              refine tk (i := 10) (oi := { dst := some 21, op := Op.build 52 #[(0, Operand.tmp 17), (1, Operand.tmp 20)], type := 52, pos := "law.go:24", after := #[⟨6, .data⟩, ⟨9, .data⟩, ⟨12, .gcOnly .lateStores⟩], guard := none }) (v := .agg (refCells (ringN n) [n] 0 [] (.slice none 0 0)).toArray) rfl (fun wx hS => ?_) hH ?_
              · exact run_buildO _ 52 _ rfl _ _ (buildRw (ringN n) [n] (ringN_length n) wx) rfl
              refine wpAnyH_ready (rs := [11]) (by kernel_rfl) (by simp) ?_
              refine AllReadyH.cons (o := { dst := some 22, op := Op.box 52 (Operand.tmp 21), type := 36, pos := "law.go:24", after := #[⟨10, .data⟩, ⟨12, .gcOnly .lateStores⟩], guard := none }) rfl (fun KK hKK => ?_) AllReadyH.nil
              have kb := alloc_below x2_1_3 (.cells (refCells (ringN n) [n] 0 [] (.slice none 0 0)).toArray 52 (0, 0))
              replace q_ga := q_ga.keep kb
              replace HTB := And.intro (HTB.1.below kb) HTB.2
              replace HWB := And.intro (HWB.1.below kb HWB.1.lt) HWB.2
              replace q_gb := q_gb.keep kb
              have q_rp := And.intro (blockIs.new x2_1_3 (refCells (ringN n) [n] 0 [] (.slice none 0 0)) 52) hH.size
              have hN := hH.trans (kb.mono hH.size)
              clear hH kb
              go_simp
              refine hKK.out _ _ hN (fun hH => ?_)
              clear hKK KK hN
              try simp only [Act.put, List.setIfInBounds_toArray, List.set_cons_zero, List.set_cons_succ]
              generalize x2_1_3.alloc (.cells (refCells (ringN n) [n] 0 [] (.slice none 0 0)).toArray 52 (0, 0)) = x2_1_6 at *
              generalize x2_1_3.heap.size = rp at q_rp ⊢
              refine wpAnyH_listed (L2 := #[true, true, true, true, true, true, true, true, true, true, true, true, true, false]) (by kernel_rfl) ?_
              exact REST ga tb fa fc wb gb rp x2_1_6 ⟨hH, True.intro, q_ga, HTB, HWB, q_gb, q_rp⟩
          · have e1 : (convert 30 9 (.slice (some ⟨gb, 0, none⟩) 1 1)).run Tryd.prog x2_1_2 = .ok (.string (str ([n]))) x2_1_2 := conv_string x2_1_2 (some ⟨gb, 0, none⟩) ([n]) 1 (lit_one q_gb)
            go_simp
            refine hKK.out _ _ hH (fun hH => ?_)
            clear hKK KK e1
            try simp only [Act.put, List.setIfInBounds_toArray, List.set_cons_zero, List.set_cons_succ]
            refine tk (i := 10) (oi := { dst := some 21, op := Op.build 52 #[(0, Operand.tmp 17), (1, Operand.tmp 20)], type := 52, pos := "law.go:24", after := #[⟨6, .data⟩, ⟨9, .data⟩, ⟨12, .gcOnly .lateStores⟩], guard := none }) (v := .agg (refCells (ringN n) [n] 0 [] (.slice none 0 0)).toArray) rfl (fun wx hS => ?_) hH ?_
            · exact run_buildO _ 52 _ rfl _ _ (buildRw (ringN n) [n] (ringN_length n) wx) rfl
            refine wpAnyH_ready (rs := [5, 11]) (by kernel_rfl) (by simp) ?_
            refine AllReadyH.cons (o := { dst := some 16, op := Op.call { callee := Callee.value (Operand.func 32), args := #[Operand.tmp 15], argTypes := #[77] }, type := 27, pos := "law.go:24", after := #[⟨4, .data⟩, ⟨3, .chain⟩], guard := none }) rfl (fun KK hKK => ?_) (AllReadyH.cons (o := { dst := some 22, op := Op.box 52 (Operand.tmp 21), type := 36, pos := "law.go:24", after := #[⟨10, .data⟩, ⟨12, .gcOnly .lateStores⟩], guard := none }) rfl (fun KK hKK => ?_) AllReadyH.nil)
            · go_simp
              have HTB0 := HTB.1
              with_reducible refine (new_any (penCells (ringN n) tb) (penCells_length _ _ (ringN_length n)) x2_1_2).mono ?_
              rintro e x2_1_4 ⟨wb, rfl, hlo, hnb, kb⟩
              replace q_ga := q_ga.keep kb
              replace HTB := And.intro (HTB.1.below kb) HTB.2
              replace q_gb := q_gb.keep kb
              have HWB := And.intro hnb (And.intro (Nat.le_trans hH.size hlo) (And.intro (fun (x : Addr) (hx : fa = some x) => Nat.lt_of_lt_of_le (tape_lt HTB0 hx) hlo) (Nat.lt_of_lt_of_le HTB0.is.lt hlo)))
              clear hnb hlo HTB0
              have hN := hH.trans (kb.mono hH.size)
              clear hH kb
              refine hKK.out _ _ hN (fun hH => ?_)
              clear hKK KK hN
              try simp only [Act.put, List.setIfInBounds_toArray, List.set_cons_zero, List.set_cons_succ]
              refine wpAnyH_ready (rs := [11, 12]) (by kernel_rfl) (by simp) ?_
              refine AllReadyH.cons (o := { dst := some 22, op := Op.box 52 (Operand.tmp 21), type := 36, pos := "law.go:24", after := #[⟨10, .data⟩, ⟨12, .gcOnly .lateStores⟩], guard := none }) rfl (fun KK hKK => ?_) (AllReadyH.cons (o := { dst := some 2, op := Op.assign (Operand.tmp 16), type := 27, pos := "law.go:24", after := #[⟨5, .data⟩, ⟨5, .chain⟩, ⟨0, .phase⟩, ⟨1, .phase⟩, ⟨2, .phase⟩, ⟨3, .phase⟩, ⟨4, .phase⟩, ⟨5, .phase⟩, ⟨6, .textOnly .lateStores⟩, ⟨7, .textOnly .lateStores⟩, ⟨8, .textOnly .lateStores⟩, ⟨9, .textOnly .lateStores⟩, ⟨10, .textOnly .lateStores⟩, ⟨11, .textOnly .lateStores⟩], guard := none }) rfl (fun KK hKK => ?_) AllReadyH.nil)
              · have kb := alloc_below x2_1_4 (.cells (refCells (ringN n) [n] 0 [] (.slice none 0 0)).toArray 52 (0, 0))
                replace q_ga := q_ga.keep kb
                replace HTB := And.intro (HTB.1.below kb) HTB.2
                replace HWB := And.intro (HWB.1.below kb HWB.1.lt) HWB.2
                replace q_gb := q_gb.keep kb
                have q_rp := And.intro (blockIs.new x2_1_4 (refCells (ringN n) [n] 0 [] (.slice none 0 0)) 52) hH.size
                have hN := hH.trans (kb.mono hH.size)
                clear hH kb
                go_simp
                refine hKK.out _ _ hN (fun hH => ?_)
                clear hKK KK hN
                try simp only [Act.put, List.setIfInBounds_toArray, List.set_cons_zero, List.set_cons_succ]
                generalize x2_1_4.alloc (.cells (refCells (ringN n) [n] 0 [] (.slice none 0 0)).toArray 52 (0, 0)) = x2_1_5 at *
                generalize x2_1_4.heap.size = rp at q_rp ⊢
                refine wpAnyH_ready (rs := [12]) (by kernel_rfl) (by simp) ?_
                refine AllReadyH.cons (o := { dst := some 2, op := Op.assign (Operand.tmp 16), type := 27, pos := "law.go:24", after := #[⟨5, .data⟩, ⟨5, .chain⟩, ⟨0, .phase⟩, ⟨1, .phase⟩, ⟨2, .phase⟩, ⟨3, .phase⟩, ⟨4, .phase⟩, ⟨5, .phase⟩, ⟨6, .textOnly .lateStores⟩, ⟨7, .textOnly .lateStores⟩, ⟨8, .textOnly .lateStores⟩, ⟨9, .textOnly .lateStores⟩, ⟨10, .textOnly .lateStores⟩, ⟨11, .textOnly .lateStores⟩], guard := none }) rfl (fun KK hKK => ?_) AllReadyH.nil
                go_simp
                refine hKK.out _ _ hH (fun hH => ?_)
                clear hKK KK
                try simp only [Act.put, List.setIfInBounds_toArray, List.set_cons_zero, List.set_cons_succ]
                refine wpAnyH_listed (L2 := #[true, true, true, true, true, true, true, true, true, true, true, true, true, false]) (by kernel_rfl) ?_
                exact REST ga tb fa fc wb gb rp x2_1_5 ⟨hH, True.intro, q_ga, HTB, HWB, q_gb, q_rp⟩
              · go_simp
                refine hKK.out _ _ hH (fun hH => ?_)
                clear hKK KK
                try simp only [Act.put, List.setIfInBounds_toArray, List.set_cons_zero, List.set_cons_succ]
                refine wpAnyH_ready (rs := [11]) (by kernel_rfl) (by simp) ?_
                refine AllReadyH.cons (o := { dst := some 22, op := Op.box 52 (Operand.tmp 21), type := 36, pos := "law.go:24", after := #[⟨10, .data⟩, ⟨12, .gcOnly .lateStores⟩], guard := none }) rfl (fun KK hKK => ?_) AllReadyH.nil
                have kb := alloc_below x2_1_4 (.cells (refCells (ringN n) [n] 0 [] (.slice none 0 0)).toArray 52 (0, 0))
                replace q_ga := q_ga.keep kb
                replace HTB := And.intro (HTB.1.below kb) HTB.2
                replace HWB := And.intro (HWB.1.below kb HWB.1.lt) HWB.2
                replace q_gb := q_gb.keep kb
                have q_rp := And.intro (blockIs.new x2_1_4 (refCells (ringN n) [n] 0 [] (.slice none 0 0)) 52) hH.size
                have hN := hH.trans (kb.mono hH.size)
                clear hH kb
                go_simp
                refine hKK.out _ _ hN (fun hH => ?_)
                clear hKK KK hN
                try simp only [Act.put, List.setIfInBounds_toArray, List.set_cons_zero, List.set_cons_succ]
                generalize x2_1_4.alloc (.cells (refCells (ringN n) [n] 0 [] (.slice none 0 0)).toArray 52 (0, 0)) = x2_1_6 at *
                generalize x2_1_4.heap.size = rp at q_rp ⊢
                refine wpAnyH_listed (L2 := #[true, true, true, true, true, true, true, true, true, true, true, true, true, false]) (by kernel_rfl) ?_
                exact REST ga tb fa fc wb gb rp x2_1_6 ⟨hH, True.intro, q_ga, HTB, HWB, q_gb, q_rp⟩
            · have kb := alloc_below x2_1_2 (.cells (refCells (ringN n) [n] 0 [] (.slice none 0 0)).toArray 52 (0, 0))
              replace q_ga := q_ga.keep kb
              replace HTB := And.intro (HTB.1.below kb) HTB.2
              replace q_gb := q_gb.keep kb
              have q_rp := And.intro (blockIs.new x2_1_2 (refCells (ringN n) [n] 0 [] (.slice none 0 0)) 52) hH.size
              have hN := hH.trans (kb.mono hH.size)
              clear hH kb
              go_simp
              refine hKK.out _ _ hN (fun hH => ?_)
              clear hKK KK hN
              try simp only [Act.put, List.setIfInBounds_toArray, List.set_cons_zero, List.set_cons_succ]
              generalize x2_1_2.alloc (.cells (refCells (ringN n) [n] 0 [] (.slice none 0 0)).toArray 52 (0, 0)) = x2_1_4 at *
              generalize x2_1_2.heap.size = rp at q_rp ⊢
              refine wpAnyH_ready (rs := [5]) (by kernel_rfl) (by simp) ?_
              refine AllReadyH.cons (o := { dst := some 16, op := Op.call { callee := Callee.value (Operand.func 32), args := #[Operand.tmp 15], argTypes := #[77] }, type := 27, pos := "law.go:24", after := #[⟨4, .data⟩, ⟨3, .chain⟩], guard := none }) rfl (fun KK hKK => ?_) AllReadyH.nil
              go_simp
              have HTB0 := HTB.1
              with_reducible refine (new_any (penCells (ringN n) tb) (penCells_length _ _ (ringN_length n)) x2_1_4).mono ?_
              rintro e x2_1_5 ⟨wb, rfl, hlo, hnb, kb⟩
              replace q_ga := q_ga.keep kb
              replace HTB := And.intro (HTB.1.below kb) HTB.2
              replace q_gb := q_gb.keep kb
              replace q_rp := And.intro (q_rp.1.below kb q_rp.1.lt) q_rp.2
              have HWB := And.intro hnb (And.intro (Nat.le_trans hH.size hlo) (And.intro (fun (x : Addr) (hx : fa = some x) => Nat.lt_of_lt_of_le (tape_lt HTB0 hx) hlo) (Nat.lt_of_lt_of_le HTB0.is.lt hlo)))
              clear hnb hlo HTB0
              have hN := hH.trans (kb.mono hH.size)
              clear hH kb
              refine hKK.out _ _ hN (fun hH => ?_)
              clear hKK KK hN
              try simp only [Act.put, List.setIfInBounds_toArray, List.set_cons_zero, List.set_cons_succ]
              refine wpAnyH_ready (rs := [12]) (by kernel_rfl) (by simp) ?_
              refine AllReadyH.cons (o := { dst := some 2, op := Op.assign (Operand.tmp 16), type := 27, pos := "law.go:24", after := #[⟨5, .data⟩, ⟨5, .chain⟩, ⟨0, .phase⟩, ⟨1, .phase⟩, ⟨2, .phase⟩, ⟨3, .phase⟩, ⟨4, .phase⟩, ⟨5, .phase⟩, ⟨6, .textOnly .lateStores⟩, ⟨7, .textOnly .lateStores⟩, ⟨8, .textOnly .lateStores⟩, ⟨9, .textOnly .lateStores⟩, ⟨10, .textOnly .lateStores⟩, ⟨11, .textOnly .lateStores⟩], guard := none }) rfl (fun KK hKK => ?_) AllReadyH.nil
              go_simp
              refine hKK.out _ _ hH (fun hH => ?_)
              clear hKK KK
              try simp only [Act.put, List.setIfInBounds_toArray, List.set_cons_zero, List.set_cons_succ]
              refine wpAnyH_listed (L2 := #[true, true, true, true, true, true, true, true, true, true, true, true, true, false]) (by kernel_rfl) ?_
              exact REST ga tb fa fc wb gb rp x2_1_5 ⟨hH, True.intro, q_ga, HTB, HWB, q_gb, q_rp⟩
        · have e1 : (convert 30 9 (.slice (some ⟨gb, 0, none⟩) 1 1)).run Tryd.prog x2_1_1 = .ok (.string (str ([n]))) x2_1_1 := conv_string x2_1_1 (some ⟨gb, 0, none⟩) ([n]) 1 (lit_one q_gb)
          go_simp
          refine hKK.out _ _ hH (fun hH => ?_)
          clear hKK KK e1
          try simp only [Act.put, List.setIfInBounds_toArray, List.set_cons_zero, List.set_cons_succ]
          refine tk (i := 10) (oi := { dst := some 21, op := Op.build 52 #[(0, Operand.tmp 17), (1, Operand.tmp 20)], type := 52, pos := "law.go:24", after := #[⟨6, .data⟩, ⟨9, .data⟩, ⟨12, .gcOnly .lateStores⟩], guard := none }) (v := .agg (refCells (ringN n) [n] 0 [] (.slice none 0 0)).toArray) rfl (fun wx hS => ?_) hH ?_
          · exact run_buildO _ 52 _ rfl _ _ (buildRw (ringN n) [n] (ringN_length n) wx) rfl
          refine wpAnyH_ready (rs := [3, 11]) (by kernel_rfl) (by simp) ?_
          refine AllReadyH.cons (o := { dst := some 14, op := Op.call { callee := Callee.value (Operand.func 33), args := #[Operand.tmp 13], argTypes := #[30] }, type := 75, pos := "law.go:24", after := #[⟨2, .data⟩], guard := none }) rfl (fun KK hKK => ?_) (AllReadyH.cons (o := { dst := some 22, op := Op.box 52 (Operand.tmp 21), type := 36, pos := "law.go:24", after := #[⟨10, .data⟩, ⟨12, .gcOnly .lateStores⟩], guard := none }) rfl (fun KK hKK => ?_) AllReadyH.nil)
          · go_simp
            with_reducible refine (wind_one ga n x2_1_1 q_ga).mono ?_
            rintro e x2_1_3 ⟨tb, fa, fc, rfl, hlo, htp, hfa, kb⟩
            replace q_ga := q_ga.keep kb
            replace q_gb := q_gb.keep kb
            have HTB := And.intro htp (And.intro (Nat.le_trans hH.size hlo) fun (x : Addr) (hx : fa = some x) => Nat.le_trans hH.size (hfa x hx))
            clear htp hlo hfa
            have hN := hH.trans (kb.mono hH.size)
            clear hH kb
            refine hKK.out _ _ hN (fun hH => ?_)
            clear hKK KK hN
            try simp only [Act.put, List.setIfInBounds_toArray, List.set_cons_zero, List.set_cons_succ]
            refine tk (i := 4) (oi := { dst := some 15, op := Op.build 77 #[(0, Operand.tmp 11), (1, Operand.tmp 14)], type := 77, pos := "law.go:24", after := #[⟨0, .data⟩, ⟨3, .data⟩], guard := none }) (v := .agg (penCells (ringN n) tb).toArray) rfl (fun wx hS => ?_) hH ?_
            · exact run_buildO _ 77 _ rfl _ _ (buildPen (ringN n) tb (ringN_length n) wx) rfl
            refine wpAnyH_ready (rs := [5, 11]) (by kernel_rfl) (by simp) ?_
            refine AllReadyH.cons (o := { dst := some 16, op := Op.call { callee := Callee.value (Operand.func 32), args := #[Operand.tmp 15], argTypes := #[77] }, type := 27, pos := "law.go:24", after := #[⟨4, .data⟩, ⟨3, .chain⟩], guard := none }) rfl (fun KK hKK => ?_) (AllReadyH.cons (o := { dst := some 22, op := Op.box 52 (Operand.tmp 21), type := 36, pos := "law.go:24", after := #[⟨10, .data⟩, ⟨12, .gcOnly .lateStores⟩], guard := none }) rfl (fun KK hKK => ?_) AllReadyH.nil)
            · go_simp
              have HTB0 := HTB.1
              with_reducible refine (new_any (penCells (ringN n) tb) (penCells_length _ _ (ringN_length n)) x2_1_3).mono ?_
              rintro e x2_1_4 ⟨wb, rfl, hlo, hnb, kb⟩
              replace q_ga := q_ga.keep kb
              replace HTB := And.intro (HTB.1.below kb) HTB.2
              replace q_gb := q_gb.keep kb
              have HWB := And.intro hnb (And.intro (Nat.le_trans hH.size hlo) (And.intro (fun (x : Addr) (hx : fa = some x) => Nat.lt_of_lt_of_le (tape_lt HTB0 hx) hlo) (Nat.lt_of_lt_of_le HTB0.is.lt hlo)))
              clear hnb hlo HTB0
              have hN := hH.trans (kb.mono hH.size)
              clear hH kb
              refine hKK.out _ _ hN (fun hH => ?_)
              clear hKK KK hN
              try simp only [Act.put, List.setIfInBounds_toArray, List.set_cons_zero, List.set_cons_succ]
              refine wpAnyH_ready (rs := [11, 12]) (by kernel_rfl) (by simp) ?_
              refine AllReadyH.cons (o := { dst := some 22, op := Op.box 52 (Operand.tmp 21), type := 36, pos := "law.go:24", after := #[⟨10, .data⟩, ⟨12, .gcOnly .lateStores⟩], guard := none }) rfl (fun KK hKK => ?_) (AllReadyH.cons (o := { dst := some 2, op := Op.assign (Operand.tmp 16), type := 27, pos := "law.go:24", after := #[⟨5, .data⟩, ⟨5, .chain⟩, ⟨0, .phase⟩, ⟨1, .phase⟩, ⟨2, .phase⟩, ⟨3, .phase⟩, ⟨4, .phase⟩, ⟨5, .phase⟩, ⟨6, .textOnly .lateStores⟩, ⟨7, .textOnly .lateStores⟩, ⟨8, .textOnly .lateStores⟩, ⟨9, .textOnly .lateStores⟩, ⟨10, .textOnly .lateStores⟩, ⟨11, .textOnly .lateStores⟩], guard := none }) rfl (fun KK hKK => ?_) AllReadyH.nil)
              · have kb := alloc_below x2_1_4 (.cells (refCells (ringN n) [n] 0 [] (.slice none 0 0)).toArray 52 (0, 0))
                replace q_ga := q_ga.keep kb
                replace HTB := And.intro (HTB.1.below kb) HTB.2
                replace HWB := And.intro (HWB.1.below kb HWB.1.lt) HWB.2
                replace q_gb := q_gb.keep kb
                have q_rp := And.intro (blockIs.new x2_1_4 (refCells (ringN n) [n] 0 [] (.slice none 0 0)) 52) hH.size
                have hN := hH.trans (kb.mono hH.size)
                clear hH kb
                go_simp
                refine hKK.out _ _ hN (fun hH => ?_)
                clear hKK KK hN
                try simp only [Act.put, List.setIfInBounds_toArray, List.set_cons_zero, List.set_cons_succ]
                generalize x2_1_4.alloc (.cells (refCells (ringN n) [n] 0 [] (.slice none 0 0)).toArray 52 (0, 0)) = x2_1_5 at *
                generalize x2_1_4.heap.size = rp at q_rp ⊢
                refine wpAnyH_ready (rs := [12]) (by kernel_rfl) (by simp) ?_
                refine AllReadyH.cons (o := { dst := some 2, op := Op.assign (Operand.tmp 16), type := 27, pos := "law.go:24", after := #[⟨5, .data⟩, ⟨5, .chain⟩, ⟨0, .phase⟩, ⟨1, .phase⟩, ⟨2, .phase⟩, ⟨3, .phase⟩, ⟨4, .phase⟩, ⟨5, .phase⟩, ⟨6, .textOnly .lateStores⟩, ⟨7, .textOnly .lateStores⟩, ⟨8, .textOnly .lateStores⟩, ⟨9, .textOnly .lateStores⟩, ⟨10, .textOnly .lateStores⟩, ⟨11, .textOnly .lateStores⟩], guard := none }) rfl (fun KK hKK => ?_) AllReadyH.nil
                go_simp
                refine hKK.out _ _ hH (fun hH => ?_)
                clear hKK KK
                try simp only [Act.put, List.setIfInBounds_toArray, List.set_cons_zero, List.set_cons_succ]
                refine wpAnyH_listed (L2 := #[true, true, true, true, true, true, true, true, true, true, true, true, true, false]) (by kernel_rfl) ?_
                exact REST ga tb fa fc wb gb rp x2_1_5 ⟨hH, True.intro, q_ga, HTB, HWB, q_gb, q_rp⟩
              · go_simp
                refine hKK.out _ _ hH (fun hH => ?_)
                clear hKK KK
                try simp only [Act.put, List.setIfInBounds_toArray, List.set_cons_zero, List.set_cons_succ]
                refine wpAnyH_ready (rs := [11]) (by kernel_rfl) (by simp) ?_
                refine AllReadyH.cons (o := { dst := some 22, op := Op.box 52 (Operand.tmp 21), type := 36, pos := "law.go:24", after := #[⟨10, .data⟩, ⟨12, .gcOnly .lateStores⟩], guard := none }) rfl (fun KK hKK => ?_) AllReadyH.nil
                have kb := alloc_below x2_1_4 (.cells (refCells (ringN n) [n] 0 [] (.slice none 0 0)).toArray 52 (0, 0))
                replace q_ga := q_ga.keep kb
                replace HTB := And.intro (HTB.1.below kb) HTB.2
                replace HWB := And.intro (HWB.1.below kb HWB.1.lt) HWB.2
                replace q_gb := q_gb.keep kb
                have q_rp := And.intro (blockIs.new x2_1_4 (refCells (ringN n) [n] 0 [] (.slice none 0 0)) 52) hH.size
                have hN := hH.trans (kb.mono hH.size)
                clear hH kb
                go_simp
                refine hKK.out _ _ hN (fun hH => ?_)
                clear hKK KK hN
                try simp only [Act.put, List.setIfInBounds_toArray, List.set_cons_zero, List.set_cons_succ]
                generalize x2_1_4.alloc (.cells (refCells (ringN n) [n] 0 [] (.slice none 0 0)).toArray 52 (0, 0)) = x2_1_6 at *
                generalize x2_1_4.heap.size = rp at q_rp ⊢
                refine wpAnyH_listed (L2 := #[true, true, true, true, true, true, true, true, true, true, true, true, true, false]) (by kernel_rfl) ?_
                exact REST ga tb fa fc wb gb rp x2_1_6 ⟨hH, True.intro, q_ga, HTB, HWB, q_gb, q_rp⟩
            · have kb := alloc_below x2_1_3 (.cells (refCells (ringN n) [n] 0 [] (.slice none 0 0)).toArray 52 (0, 0))
              replace q_ga := q_ga.keep kb
              replace HTB := And.intro (HTB.1.below kb) HTB.2
              replace q_gb := q_gb.keep kb
              have q_rp := And.intro (blockIs.new x2_1_3 (refCells (ringN n) [n] 0 [] (.slice none 0 0)) 52) hH.size
              have hN := hH.trans (kb.mono hH.size)
              clear hH kb
              go_simp
              refine hKK.out _ _ hN (fun hH => ?_)
              clear hKK KK hN
              try simp only [Act.put, List.setIfInBounds_toArray, List.set_cons_zero, List.set_cons_succ]
              generalize x2_1_3.alloc (.cells (refCells (ringN n) [n] 0 [] (.slice none 0 0)).toArray 52 (0, 0)) = x2_1_4 at *
              generalize x2_1_3.heap.size = rp at q_rp ⊢
              refine wpAnyH_ready (rs := [5]) (by kernel_rfl) (by simp) ?_
              refine AllReadyH.cons (o := { dst := some 16, op := Op.call { callee := Callee.value (Operand.func 32), args := #[Operand.tmp 15], argTypes := #[77] }, type := 27, pos := "law.go:24", after := #[⟨4, .data⟩, ⟨3, .chain⟩], guard := none }) rfl (fun KK hKK => ?_) AllReadyH.nil
              go_simp
              have HTB0 := HTB.1
              with_reducible refine (new_any (penCells (ringN n) tb) (penCells_length _ _ (ringN_length n)) x2_1_4).mono ?_
              rintro e x2_1_5 ⟨wb, rfl, hlo, hnb, kb⟩
              replace q_ga := q_ga.keep kb
              replace HTB := And.intro (HTB.1.below kb) HTB.2
              replace q_gb := q_gb.keep kb
              replace q_rp := And.intro (q_rp.1.below kb q_rp.1.lt) q_rp.2
              have HWB := And.intro hnb (And.intro (Nat.le_trans hH.size hlo) (And.intro (fun (x : Addr) (hx : fa = some x) => Nat.lt_of_lt_of_le (tape_lt HTB0 hx) hlo) (Nat.lt_of_lt_of_le HTB0.is.lt hlo)))
              clear hnb hlo HTB0
              have hN := hH.trans (kb.mono hH.size)
              clear hH kb
              refine hKK.out _ _ hN (fun hH => ?_)
              clear hKK KK hN
              try simp only [Act.put, List.setIfInBounds_toArray, List.set_cons_zero, List.set_cons_succ]
              refine wpAnyH_ready (rs := [12]) (by kernel_rfl) (by simp) ?_
              refine AllReadyH.cons (o := { dst := some 2, op := Op.assign (Operand.tmp 16), type := 27, pos := "law.go:24", after := #[⟨5, .data⟩, ⟨5, .chain⟩, ⟨0, .phase⟩, ⟨1, .phase⟩, ⟨2, .phase⟩, ⟨3, .phase⟩, ⟨4, .phase⟩, ⟨5, .phase⟩, ⟨6, .textOnly .lateStores⟩, ⟨7, .textOnly .lateStores⟩, ⟨8, .textOnly .lateStores⟩, ⟨9, .textOnly .lateStores⟩, ⟨10, .textOnly .lateStores⟩, ⟨11, .textOnly .lateStores⟩], guard := none }) rfl (fun KK hKK => ?_) AllReadyH.nil
              go_simp
              refine hKK.out _ _ hH (fun hH => ?_)
              clear hKK KK
              try simp only [Act.put, List.setIfInBounds_toArray, List.set_cons_zero, List.set_cons_succ]
              refine wpAnyH_listed (L2 := #[true, true, true, true, true, true, true, true, true, true, true, true, true, false]) (by kernel_rfl) ?_
              exact REST ga tb fa fc wb gb rp x2_1_5 ⟨hH, True.intro, q_ga, HTB, HWB, q_gb, q_rp⟩
          · have kb := alloc_below x2_1_1 (.cells (refCells (ringN n) [n] 0 [] (.slice none 0 0)).toArray 52 (0, 0))
            replace q_ga := q_ga.keep kb
            replace q_gb := q_gb.keep kb
            have q_rp := And.intro (blockIs.new x2_1_1 (refCells (ringN n) [n] 0 [] (.slice none 0 0)) 52) hH.size
            have hN := hH.trans (kb.mono hH.size)
            clear hH kb
            go_simp
            refine hKK.out _ _ hN (fun hH => ?_)
            clear hKK KK hN
            try simp only [Act.put, List.setIfInBounds_toArray, List.set_cons_zero, List.set_cons_succ]
            generalize x2_1_1.alloc (.cells (refCells (ringN n) [n] 0 [] (.slice none 0 0)).toArray 52 (0, 0)) = x2_1_3 at *
            generalize x2_1_1.heap.size = rp at q_rp ⊢
            refine wpAnyH_ready (rs := [3]) (by kernel_rfl) (by simp) ?_
            refine AllReadyH.cons (o := { dst := some 14, op := Op.call { callee := Callee.value (Operand.func 33), args := #[Operand.tmp 13], argTypes := #[30] }, type := 75, pos := "law.go:24", after := #[⟨2, .data⟩], guard := none }) rfl (fun KK hKK => ?_) AllReadyH.nil
            go_simp
            with_reducible refine (wind_one ga n x2_1_3 q_ga).mono ?_
            rintro e x2_1_4 ⟨tb, fa, fc, rfl, hlo, htp, hfa, kb⟩
            replace q_ga := q_ga.keep kb
            replace q_gb := q_gb.keep kb
            replace q_rp := And.intro (q_rp.1.below kb q_rp.1.lt) q_rp.2
            have HTB := And.intro htp (And.intro (Nat.le_trans hH.size hlo) fun (x : Addr) (hx : fa = some x) => Nat.le_trans hH.size (hfa x hx))
            clear htp hlo hfa
            have hN := hH.trans (kb.mono hH.size)
            clear hH kb
            refine hKK.out _ _ hN (fun hH => ?_)
            clear hKK KK hN
            try simp only [Act.put, List.setIfInBounds_toArray, List.set_cons_zero, List.set_cons_succ]
            refine tk (i := 4) (oi := { dst := some 15, op := Op.build 77 #[(0, Operand.tmp 11), (1, Operand.tmp 14)], type := 77, pos := "law.go:24", after := #[⟨0, .data⟩, ⟨3, .data⟩], guard := none }) (v := .agg (penCells (ringN n) tb).toArray) rfl (fun wx hS => ?_) hH ?_
            · exact run_buildO _ 77 _ rfl _ _ (buildPen (ringN n) tb (ringN_length n) wx) rfl
            refine wpAnyH_ready (rs := [5]) (by kernel_rfl) (by simp) ?_
            refine AllReadyH.cons (o := { dst := some 16, op := Op.call { callee := Callee.value (Operand.func 32), args := #[Operand.tmp 15], argTypes := #[77] }, type := 27, pos := "law.go:24", after := #[⟨4, .data⟩, ⟨3, .chain⟩], guard := none }) rfl (fun KK hKK => ?_) AllReadyH.nil
            go_simp
            have HTB0 := HTB.1
            with_reducible refine (new_any (penCells (ringN n) tb) (penCells_length _ _ (ringN_length n)) x2_1_4).mono ?_
            rintro e x2_1_5 ⟨wb, rfl, hlo, hnb, kb⟩
            replace q_ga := q_ga.keep kb
            replace HTB := And.intro (HTB.1.below kb) HTB.2
            replace q_gb := q_gb.keep kb
            replace q_rp := And.intro (q_rp.1.below kb q_rp.1.lt) q_rp.2
            have HWB := And.intro hnb (And.intro (Nat.le_trans hH.size hlo) (And.intro (fun (x : Addr) (hx : fa = some x) => Nat.lt_of_lt_of_le (tape_lt HTB0 hx) hlo) (Nat.lt_of_lt_of_le HTB0.is.lt hlo)))
            clear hnb hlo HTB0
            have hN := hH.trans (kb.mono hH.size)
            clear hH kb
            refine hKK.out _ _ hN (fun hH => ?_)
            clear hKK KK hN
            try simp only [Act.put, List.setIfInBounds_toArray, List.set_cons_zero, List.set_cons_succ]
            refine wpAnyH_ready (rs := [12]) (by kernel_rfl) (by simp) ?_
            refine AllReadyH.cons (o := { dst := some 2, op := Op.assign (Operand.tmp 16), type := 27, pos := "law.go:24", after := #[⟨5, .data⟩, ⟨5, .chain⟩, ⟨0, .phase⟩, ⟨1, .phase⟩, ⟨2, .phase⟩, ⟨3, .phase⟩, ⟨4, .phase⟩, ⟨5, .phase⟩, ⟨6, .textOnly .lateStores⟩, ⟨7, .textOnly .lateStores⟩, ⟨8, .textOnly .lateStores⟩, ⟨9, .textOnly .lateStores⟩, ⟨10, .textOnly .lateStores⟩, ⟨11, .textOnly .lateStores⟩], guard := none }) rfl (fun KK hKK => ?_) AllReadyH.nil
            go_simp
            refine hKK.out _ _ hH (fun hH => ?_)
            clear hKK KK
            try simp only [Act.put, List.setIfInBounds_toArray, List.set_cons_zero, List.set_cons_succ]
            refine wpAnyH_listed (L2 := #[true, true, true, true, true, true, true, true, true, true, true, true, true, false]) (by kernel_rfl) ?_
            exact REST ga tb fa fc wb gb rp x2_1_5 ⟨hH, True.intro, q_ga, HTB, HWB, q_gb, q_rp⟩
    · have kb := alloc_below z0 (.cells #[.int .u8 (V n)] 5 (0, 0))
      have q_gb := cellsAt.new z0 #[.int .u8 (V n)] z0.heap.size 5 [.int .u8 (V n)] rfl rfl
      have hN := hH.trans (kb.mono hH.size)
      clear hH kb
      go_simp
      refine hKK.out _ _ hN (fun hH => ?_)
      clear hKK KK hN
      try simp only [Act.put, List.setIfInBounds_toArray, List.set_cons_zero, List.set_cons_succ]
      generalize z0.alloc (.cells #[.int .u8 (V n)] 5 (0, 0)) = x2_1_0 at *
      generalize z0.heap.size = gb at q_gb ⊢
      refine wpAnyH_ready (rs := [2, 9]) (by kernel_rfl) (by simp) ?_
      refine AllReadyH.cons (o := { dst := some 13, op := Op.buildSlice 30 1 #[(0, Operand.tmp 12)], type := 30, pos := "law.go:24", after := #[⟨1, .data⟩], guard := none }) rfl (fun KK hKK => ?_) (AllReadyH.cons (o := { dst := some 20, op := Op.convert 30 9 (Operand.tmp 19), type := 9, pos := "law.go:24", after := #[⟨8, .data⟩, ⟨12, .gcOnly .lateStores⟩], guard := none }) rfl (fun KK hKK => ?_) AllReadyH.nil)
      · have kb := alloc_below x2_1_0 (.cells #[.int .u8 (V n)] 5 (0, 0))
        replace q_gb := q_gb.keep kb
        have q_ga := cellsAt.new x2_1_0 #[.int .u8 (V n)] x2_1_0.heap.size 5 [.int .u8 (V n)] rfl rfl
        have hN := hH.trans (kb.mono hH.size)
        clear hH kb
        go_simp
        refine hKK.out _ _ hN (fun hH => ?_)
        clear hKK KK hN
        try simp only [Act.put, List.setIfInBounds_toArray, List.set_cons_zero, List.set_cons_succ]
        generalize x2_1_0.alloc (.cells #[.int .u8 (V n)] 5 (0, 0)) = x2_1_1 at *
        generalize x2_1_0.heap.size = ga at q_ga ⊢
        refine wpAnyH_ready (rs := [3, 9]) (by kernel_rfl) (by simp) ?_
        refine AllReadyH.cons (o := { dst := some 14, op := Op.call { callee := Callee.value (Operand.func 33), args := #[Operand.tmp 13], argTypes := #[30] }, type := 75, pos := "law.go:24", after := #[⟨2, .data⟩], guard := none }) rfl (fun KK hKK => ?_) (AllReadyH.cons (o := { dst := some 20, op := Op.convert 30 9 (Operand.tmp 19), type := 9, pos := "law.go:24", after := #[⟨8, .data⟩, ⟨12, .gcOnly .lateStores⟩], guard := none }) rfl (fun KK hKK => ?_) AllReadyH.nil)
        · go_simp
          with_reducible refine (wind_one ga n x2_1_1 q_ga).mono ?_
          rintro e x2_1_2 ⟨tb, fa, fc, rfl, hlo, htp, hfa, kb⟩
          replace q_ga := q_ga.keep kb
          replace q_gb := q_gb.keep kb
          have HTB := And.intro htp (And.intro (Nat.le_trans hH.size hlo) fun (x : Addr) (hx : fa = some x) => Nat.le_trans hH.size (hfa x hx))
          clear htp hlo hfa
          have hN := hH.trans (kb.mono hH.size)
          clear hH kb
          refine hKK.out _ _ hN (fun hH => ?_)
          clear hKK KK hN
          try simp only [Act.put, List.setIfInBounds_toArray, List.set_cons_zero, List.set_cons_succ]
          refine tk (i := 4) (oi := { dst := some 15, op := Op.build 77 #[(0, Operand.tmp 11), (1, Operand.tmp 14)], type := 77, pos := "law.go:24", after := #[⟨0, .data⟩, ⟨3, .data⟩], guard := none }) (v := .agg (penCells (ringN n) tb).toArray) rfl (fun wx hS => ?_) hH ?_
          · exact run_buildO _ 77 _ rfl _ _ (buildPen (ringN n) tb (ringN_length n) wx) rfl
          refine wpAnyH_ready (rs := [5, 9]) (by kernel_rfl) (by simp) ?_
          refine AllReadyH.cons (o := { dst := some 16, op := Op.call { callee := Callee.value (Operand.func 32), args := #[Operand.tmp 15], argTypes := #[77] }, type := 27, pos := "law.go:24", after := #[⟨4, .data⟩, ⟨3, .chain⟩], guard := none }) rfl (fun KK hKK => ?_) (AllReadyH.cons (o := { dst := some 20, op := Op.convert 30 9 (Operand.tmp 19), type := 9, pos := "law.go:24", after := #[⟨8, .data⟩, ⟨12, .gcOnly .lateStores⟩], guard := none }) rfl (fun KK hKK => ?_) AllReadyH.nil)
          · go_simp
            have HTB0 := HTB.1
            with_reducible refine (new_any (penCells (ringN n) tb) (penCells_length _ _ (ringN_length n)) x2_1_2).mono ?_
            rintro e x2_1_3 ⟨wb, rfl, hlo, hnb, kb⟩
            replace q_ga := q_ga.keep kb
            replace HTB := And.intro (HTB.1.below kb) HTB.2
            replace q_gb := q_gb.keep kb
            have HWB := And.intro hnb (And.intro (Nat.le_trans hH.size hlo) (And.intro (fun (x : Addr) (hx : fa = some x) => Nat.lt_of_lt_of_le (tape_lt HTB0 hx) hlo) (Nat.lt_of_lt_of_le HTB0.is.lt hlo)))
            clear hnb hlo HTB0
            have hN := hH.trans (kb.mono hH.size)
            clear hH kb
            refine hKK.out _ _ hN (fun hH => ?_)
            clear hKK KK hN
            try simp only [Act.put, List.setIfInBounds_toArray, List.set_cons_zero, List.set_cons_succ]
            refine wpAnyH_ready (rs := [9, 12]) (by kernel_rfl) (by simp) ?_
            refine AllReadyH.cons (o := { dst := some 20, op := Op.convert 30 9 (Operand.tmp 19), type := 9, pos := "law.go:24", after := #[⟨8, .data⟩, ⟨12, .gcOnly .lateStores⟩], guard := none }) rfl (fun KK hKK => ?_) (AllReadyH.cons (o := { dst := some 2, op := Op.assign (Operand.tmp 16), type := 27, pos := "law.go:24", after := #[⟨5, .data⟩, ⟨5, .chain⟩, ⟨0, .phase⟩, ⟨1, .phase⟩, ⟨2, .phase⟩, ⟨3, .phase⟩, ⟨4, .phase⟩, ⟨5, .phase⟩, ⟨6, .textOnly .lateStores⟩, ⟨7, .textOnly .lateStores⟩, ⟨8, .textOnly .lateStores⟩, ⟨9, .textOnly .lateStores⟩, ⟨10, .textOnly .lateStores⟩, ⟨11, .textOnly .lateStores⟩], guard := none }) rfl (fun KK hKK => ?_) AllReadyH.nil)
            · have e1 : (convert 30 9 (.slice (some ⟨gb, 0, none⟩) 1 1)).run Tryd.prog x2_1_3 = .ok (.string (str ([n]))) x2_1_3 := conv_string x2_1_3 (some ⟨gb, 0, none⟩) ([n]) 1 (lit_one q_gb)
              go_simp
              refine hKK.out _ _ hH (fun hH => ?_)
              clear hKK KK e1
              try simp only [Act.put, List.setIfInBounds_toArray, List.set_cons_zero, List.set_cons_succ]
              refine tk (i := 10) (oi := { dst := some 21, op := Op.build 52 #[(0, Operand.tmp 17), (1, Operand.tmp 20)], type := 52, pos := "law.go:24", after := #[⟨6, .data⟩, ⟨9, .data⟩, ⟨12, .gcOnly .lateStores⟩], guard := none }) (v := .agg (refCells (ringN n) [n] 0 [] (.slice none 0 0)).toArray) rfl (fun wx hS => ?_) hH ?_
              · exact run_buildO _ 52 _ rfl _ _ (buildRw (ringN n) [n] (ringN_length n) wx) rfl
              refine wpAnyH_ready (rs := [11, 12]) (by kernel_rfl) (by simp) ?_
              refine AllReadyH.cons (o := { dst := some 22, op := Op.box 52 (Operand.tmp 21), type := 36, pos := "law.go:24", after := #[⟨10, .data⟩, ⟨12, .gcOnly .lateStores⟩], guard := none }) rfl (fun KK hKK => ?_) (AllReadyH.cons (o := { dst := some 2, op := Op.assign (Operand.tmp 16), type := 27, pos := "law.go:24", after := #[⟨5, .data⟩, ⟨5, .chain⟩, ⟨0, .phase⟩, ⟨1, .phase⟩, ⟨2, .phase⟩, ⟨3, .phase⟩, ⟨4, .phase⟩, ⟨5, .phase⟩, ⟨6, .textOnly .lateStores⟩, ⟨7, .textOnly .lateStores⟩, ⟨8, .textOnly .lateStores⟩, ⟨9, .textOnly .lateStores⟩, ⟨10, .textOnly .lateStores⟩, ⟨11, .textOnly .lateStores⟩], guard := none }) rfl (fun KK hKK => ?_) AllReadyH.nil)
              · have kb := alloc_below x2_1_3 (.cells (refCells (ringN n) [n] 0 [] (.slice none 0 0)).toArray 52 (0, 0))
                replace q_ga := q_ga.keep kb
                replace HTB := And.intro (HTB.1.below kb) HTB.2
                replace HWB := And.intro (HWB.1.below kb HWB.1.lt) HWB.2
                replace q_gb := q_gb.keep kb
                have q_rp := And.intro (blockIs.new x2_1_3 (refCells (ringN n) [n] 0 [] (.slice none 0 0)) 52) hH.size
                have hN := hH.trans (kb.mono hH.size)
                clear hH kb
                go_simp
                refine hKK.out _ _ hN (fun hH => ?_)
                clear hKK KK hN
                try simp only [Act.put, List.setIfInBounds_toArray, List.set_cons_zero, List.set_cons_succ]
                generalize x2_1_3.alloc (.cells (refCells (ringN n) [n] 0 [] (.slice none 0 0)).toArray 52 (0, 0)) = x2_1_5 at *
                generalize x2_1_3.heap.size = rp at q_rp ⊢
                refine wpAnyH_ready (rs := [12]) (by kernel_rfl) (by simp) ?_
                refine AllReadyH.cons (o := { dst := some 2, op := Op.assign (Operand.tmp 16), type := 27, pos := "law.go:24", after := #[⟨5, .data⟩, ⟨5, .chain⟩, ⟨0, .phase⟩, ⟨1, .phase⟩, ⟨2, .phase⟩, ⟨3, .phase⟩, ⟨4, .phase⟩, ⟨5, .phase⟩, ⟨6, .textOnly .lateStores⟩, ⟨7, .textOnly .lateStores⟩, ⟨8, .textOnly .lateStores⟩, ⟨9, .textOnly .lateStores⟩, ⟨10, .textOnly .lateStores⟩, ⟨11, .textOnly .lateStores⟩], guard := none }) rfl (fun KK hKK => ?_) AllReadyH.nil
                go_simp
                refine hKK.out _ _ hH (fun hH => ?_)
                clear hKK KK
                try simp only [Act.put, List.setIfInBounds_toArray, List.set_cons_zero, List.set_cons_succ]
                refine wpAnyH_listed (L2 := #[true, true, true, true, true, true, true, true, true, true, true, true, true, false]) (by kernel_rfl) ?_
                exact REST ga tb fa fc wb gb rp x2_1_5 ⟨hH, True.intro, q_ga, HTB, HWB, q_gb, q_rp⟩
              · go_simp
                refine hKK.out _ _ hH (fun hH => ?_)
                clear hKK KK
                try simp only [Act.put, List.setIfInBounds_toArray, List.set_cons_zero, List.set_cons_succ]
                refine wpAnyH_ready (rs := [11]) (by kernel_rfl) (by simp) ?_
                refine AllReadyH.cons (o := { dst := some 22, op := Op.box 52 (Operand.tmp 21), type := 36, pos := "law.go:24", after := #[⟨10, .data⟩, ⟨12, .gcOnly .lateStores⟩], guard := none }) rfl (fun KK hKK => ?_) AllReadyH.nil
                have kb := alloc_below x2_1_3 (.cells (refCells (ringN n) [n] 0 [] (.slice none 0 0)).toArray 52 (0, 0))
                replace q_ga := q_ga.keep kb
                replace HTB := And.intro (HTB.1.below kb) HTB.2
                replace HWB := And.intro (HWB.1.below kb HWB.1.lt) HWB.2
                replace q_gb := q_gb.keep kb
                have q_rp := And.intro (blockIs.new x2_1_3 (refCells (ringN n) [n] 0 [] (.slice none 0 0)) 52) hH.size
                have hN := hH.trans (kb.mono hH.size)
                clear hH kb
                go_simp
                refine hKK.out _ _ hN (fun hH => ?_)
                clear hKK KK hN
                try simp only [Act.put, List.setIfInBounds_toArray, List.set_cons_zero, List.set_cons_succ]
                generalize x2_1_3.alloc (.cells (refCells (ringN n) [n] 0 [] (.slice none 0 0)).toArray 52 (0, 0)) = x2_1_6 at *
                generalize x2_1_3.heap.size = rp at q_rp ⊢
                refine wpAnyH_listed (L2 := #[true, true, true, true, true, true, true, true, true, true, true, true, true, false]) (by kernel_rfl) ?_
                exact REST ga tb fa fc wb gb rp x2_1_6 ⟨hH, True.intro, q_ga, HTB, HWB, q_gb, q_rp⟩
            · go_simp
              refine hKK.out _ _ hH (fun hH => ?_)
              clear hKK KK
              try simp only [Act.put, List.setIfInBounds_toArray, List.set_cons_zero, List.set_cons_succ]
              refine wpAnyH_ready (rs := [9]) (by kernel_rfl) (by simp) ?_
              refine AllReadyH.cons (o := { dst := some 20, op := Op.convert 30 9 (Operand.tmp 19), type := 9, pos := "law.go:24", after := #[⟨8, .data⟩, ⟨12, .gcOnly .lateStores⟩], guard := none }) rfl (fun KK hKK => ?_) AllReadyH.nil
              have e1 : (convert 30 9 (.slice (some ⟨gb, 0, none⟩) 1 1)).run Tryd.prog x2_1_3 = .ok (.string (str ([n]))) x2_1_3 := conv_string x2_1_3 (some ⟨gb, 0, none⟩) ([n]) 1 (lit_one q_gb)
              go_simp
              refine hKK.out _ _ hH (fun hH => ?_)
              clear hKK KK e1
              try simp only [Act.put, List.setIfInBounds_toArray, List.set_cons_zero, List.set_cons_succ]
              refine tk (i := 10) (oi := { dst := some 21, op := Op.build 52 #[(0, Operand.tmp 17), (1, Operand.tmp 20)], type := 52, pos := "law.go:24", after := #[⟨6, .data⟩, ⟨9, .data⟩, ⟨12, .gcOnly .lateStores⟩], guard := none }) (v := .agg (refCells (ringN n) [n] 0 [] (.slice none 0 0)).toArray) rfl (fun wx hS => ?_) hH ?_
              · exact run_buildO _ 52 _ rfl _ _ (buildRw (ringN n) [n] (ringN_length n) wx) rfl
              refine wpAnyH_ready (rs := [11]) (by kernel_rfl) (by simp) ?_
              refine AllReadyH.cons (o := { dst := some 22, op := Op.box 52 (Operand.tmp 21), type := 36, pos := "law.go:24", after := #[⟨10, .data⟩, ⟨12, .gcOnly .lateStores⟩], guard := none }) rfl (fun KK hKK => ?_) AllReadyH.nil
              have kb := alloc_below x2_1_3 (.cells (refCells (ringN n) [n] 0 [] (.slice none 0 0)).toArray 52 (0, 0))
              replace q_ga := q_ga.keep kb
              replace HTB := And.intro (HTB.1.below kb) HTB.2
              replace HWB := And.intro (HWB.1.below kb HWB.1.lt) HWB.2
              replace q_gb := q_gb.keep kb
              have q_rp := And.intro (blockIs.new x2_1_3 (refCells (ringN n) [n] 0 [] (.slice none 0 0)) 52) hH.size
              have hN := hH.trans (kb.mono hH.size)
              clear hH kb
              go_simp
              refine hKK.out _ _ hN (fun hH => ?_)
              clear hKK KK hN
              try simp only [Act.put, List.setIfInBounds_toArray, List.set_cons_zero, List.set_cons_succ]
              generalize x2_1_3.alloc (.cells (refCells (ringN n) [n] 0 [] (.slice none 0 0)).toArray 52 (0, 0)) = x2_1_6 at *
              generalize x2_1_3.heap.size = rp at q_rp ⊢
              refine wpAnyH_listed (L2 := #[true, true, true, true, true, true, true, true, true, true, true, true, true, false]) (by kernel_rfl) ?_
              exact REST ga tb fa fc wb gb rp x2_1_6 ⟨hH, True.intro, q_ga, HTB, HWB, q_gb, q_rp⟩
          · have e1 : (convert 30 9 (.slice (some ⟨gb, 0, none⟩) 1 1)).run Tryd.prog x2_1_2 = .ok (.string (str ([n]))) x2_1_2 := conv_string x2_1_2 (some ⟨gb, 0, none⟩) ([n]) 1 (lit_one q_gb)
            go_simp
            refine hKK.out _ _ hH (fun hH => ?_)
            clear hKK KK e1
            try simp only [Act.put, List.setIfInBounds_toArray, List.set_cons_zero, List.set_cons_succ]
            refine tk (i := 10) (oi := { dst := some 21, op := Op.build 52 #[(0, Operand.tmp 17), (1, Operand.tmp 20)], type := 52, pos := "law.go:24", after := #[⟨6, .data⟩, ⟨9, .data⟩, ⟨12, .gcOnly .lateStores⟩], guard := none }) (v := .agg (refCells (ringN n) [n] 0 [] (.slice none 0 0)).toArray) rfl (fun wx hS => ?_) hH ?_
            · exact run_buildO _ 52 _ rfl _ _ (buildRw (ringN n) [n] (ringN_length n) wx) rfl
            refine wpAnyH_ready (rs := [5, 11]) (by kernel_rfl) (by simp) ?_
            refine AllReadyH.cons (o := { dst := some 16, op := Op.call { callee := Callee.value (Operand.func 32), args := #[Operand.tmp 15], argTypes := #[77] }, type := 27, pos := "law.go:24", after := #[⟨4, .data⟩, ⟨3, .chain⟩], guard := none }) rfl (fun KK hKK => ?_) (AllReadyH.cons (o := { dst := some 22, op := Op.box 52 (Operand.tmp 21), type := 36, pos := "law.go:24", after := #[⟨10, .data⟩, ⟨12, .gcOnly .lateStores⟩], guard := none }) rfl (fun KK hKK => ?_) AllReadyH.nil)
            · go_simp
              have HTB0 := HTB.1
              with_reducible refine (new_any (penCells (ringN n) tb) (penCells_length _ _ (ringN_length n)) x2_1_2).mono ?_
              rintro e x2_1_4 ⟨wb, rfl, hlo, hnb, kb⟩
              replace q_ga := q_ga.keep kb
              replace HTB := And.intro (HTB.1.below kb) HTB.2
              replace q_gb := q_gb.keep kb
              have HWB := And.intro hnb (And.intro (Nat.le_trans hH.size hlo) (And.intro (fun (x : Addr) (hx : fa = some x) => Nat.lt_of_lt_of_le (tape_lt HTB0 hx) hlo) (Nat.lt_of_lt_of_le HTB0.is.lt hlo)))
              clear hnb hlo HTB0
              have hN := hH.trans (kb.mono hH.size)
              clear hH kb
              refine hKK.out _ _ hN (fun hH => ?_)
              clear hKK KK hN
              try simp only [Act.put, List.setIfInBounds_toArray, List.set_cons_zero, List.set_cons_succ]
              refine wpAnyH_ready (rs := [11, 12]) (by kernel_rfl) (by simp) ?_
              refine AllReadyH.cons (o := { dst := some 22, op := Op.box 52 (Operand.tmp 21), type := 36, pos := "law.go:24", after := #[⟨10, .data⟩, ⟨12, .gcOnly .lateStores⟩], guard := none }) rfl (fun KK hKK => ?_) (AllReadyH.cons (o := { dst := some 2, op := Op.assign (Operand.tmp 16), type := 27, pos := "law.go:24", after := #[⟨5, .data⟩, ⟨5, .chain⟩, ⟨0, .phase⟩, ⟨1, .phase⟩, ⟨2, .phase⟩, ⟨3, .phase⟩, ⟨4, .phase⟩, ⟨5, .phase⟩, ⟨6, .textOnly .lateStores⟩, ⟨7, .textOnly .lateStores⟩, ⟨8, .textOnly .lateStores⟩, ⟨9, .textOnly .lateStores⟩, ⟨10, .textOnly .lateStores⟩, ⟨11, .textOnly .lateStores⟩], guard := none }) rfl (fun KK hKK => ?_) AllReadyH.nil)
              · have kb := alloc_below x2_1_4 (.cells (refCells (ringN n) [n] 0 [] (.slice none 0 0)).toArray 52 (0, 0))
                replace q_ga := q_ga.keep kb
                replace HTB := And.intro (HTB.1.below kb) HTB.2
                replace HWB := And.intro (HWB.1.below kb HWB.1.lt) HWB.2
                replace q_gb := q_gb.keep kb
                have q_rp := And.intro (blockIs.new x2_1_4 (refCells (ringN n) [n] 0 [] (.slice none 0 0)) 52) hH.size
                have hN := hH.trans (kb.mono hH.size)
                clear hH kb
                go_simp
                refine hKK.out _ _ hN (fun hH => ?_)
                clear hKK KK hN
                try simp only [Act.put, List.setIfInBounds_toArray, List.set_cons_zero, List.set_cons_succ]
                generalize x2_1_4.alloc (.cells (refCells (ringN n) [n] 0 [] (.slice none 0 0)).toArray 52 (0, 0)) = x2_1_5 at *
                generalize x2_1_4.heap.size = rp at q_rp ⊢
                refine wpAnyH_ready (rs := [12]) (by kernel_rfl) (by simp) ?_
                refine AllReadyH.cons (o := { dst := some 2, op := Op.assign (Operand.tmp 16), type := 27, pos := "law.go:24", after := #[⟨5, .data⟩, ⟨5, .chain⟩, ⟨0, .phase⟩, ⟨1, .phase⟩, ⟨2, .phase⟩, ⟨3, .phase⟩, ⟨4, .phase⟩, ⟨5, .phase⟩, ⟨6, .textOnly .lateStores⟩, ⟨7, .textOnly .lateStores⟩, ⟨8, .textOnly .lateStores⟩, ⟨9, .textOnly .lateStores⟩, ⟨10, .textOnly .lateStores⟩, ⟨11, .textOnly .lateStores⟩], guard := none }) rfl (fun KK hKK => ?_) AllReadyH.nil
                go_simp
                refine hKK.out _ _ hH (fun hH => ?_)
                clear hKK KK
                try simp only [Act.put, List.setIfInBounds_toArray, List.set_cons_zero, List.set_cons_succ]
                refine wpAnyH_listed (L2 := #[true, true, true, true, true, true, true, true, true, true, true, true, true, false]) (by kernel_rfl) ?_
                exact REST ga tb fa fc wb gb rp x2_1_5 ⟨hH, True.intro, q_ga, HTB, HWB, q_gb, q_rp⟩
              · go_simp
                refine hKK.out _ _ hH (fun hH => ?_)
                clear hKK KK
                try simp only [Act.put, List.setIfInBounds_toArray, List.set_cons_zero, List.set_cons_succ]
                refine wpAnyH_ready (rs := [11]) (by kernel_rfl) (by simp) ?_
                refine AllReadyH.cons (o := { dst := some 22, op := Op.box 52 (Operand.tmp 21), type := 36, pos := "law.go:24", after := #[⟨10, .data⟩, ⟨12, .gcOnly .lateStores⟩], guard := none }) rfl (fun KK hKK => ?_) AllReadyH.nil
                have kb := alloc_below x2_1_4 (.cells (refCells (ringN n) [n] 0 [] (.slice none 0 0)).toArray 52 (0, 0))
                replace q_ga := q_ga.keep kb
                replace HTB := And.intro (HTB.1.below kb) HTB.2
                replace HWB := And.intro (HWB.1.below kb HWB.1.lt) HWB.2
                replace q_gb := q_gb.keep kb
                have q_rp := And.intro (blockIs.new x2_1_4 (refCells (ringN n) [n] 0 [] (.slice none 0 0)) 52) hH.size
                have hN := hH.trans (kb.mono hH.size)
                clear hH kb
                go_simp
                refine hKK.out _ _ hN (fun hH => ?_)
                clear hKK KK hN
                try simp only [Act.put, List.setIfInBounds_toArray, List.set_cons_zero, List.set_cons_succ]
                generalize x2_1_4.alloc (.cells (refCells (ringN n) [n] 0 [] (.slice none 0 0)).toArray 52 (0, 0)) = x2_1_6 at *
                generalize x2_1_4.heap.size = rp at q_rp ⊢
                refine wpAnyH_listed (L2 := #[true, true, true, true, true, true, true, true, true, true, true, true, true, false]) (by kernel_rfl) ?_
                exact REST ga tb fa fc wb gb rp x2_1_6 ⟨hH, True.intro, q_ga, HTB, HWB, q_gb, q_rp⟩
            · have kb := alloc_below x2_1_2 (.cells (refCells (ringN n) [n] 0 [] (.slice none 0 0)).toArray 52 (0, 0))
              replace q_ga := q_ga.keep kb
              replace HTB := And.intro (HTB.1.below kb) HTB.2
              replace q_gb := q_gb.keep kb
              have q_rp := And.intro (blockIs.new x2_1_2 (refCells (ringN n) [n] 0 [] (.slice none 0 0)) 52) hH.size
              have hN := hH.trans (kb.mono hH.size)
              clear hH kb
              go_simp
              refine hKK.out _ _ hN (fun hH => ?_)
              clear hKK KK hN
              try simp only [Act.put, List.setIfInBounds_toArray, List.set_cons_zero, List.set_cons_succ]
              generalize x2_1_2.alloc (.cells (refCells (ringN n) [n] 0 [] (.slice none 0 0)).toArray 52 (0, 0)) = x2_1_4 at *
              generalize x2_1_2.heap.size = rp at q_rp ⊢
              refine wpAnyH_ready (rs := [5]) (by kernel_rfl) (by simp) ?_
              refine AllReadyH.cons (o := { dst := some 16, op := Op.call { callee := Callee.value (Operand.func 32), args := #[Operand.tmp 15], argTypes := #[77] }, type := 27, pos := "law.go:24", after := #[⟨4, .data⟩, ⟨3, .chain⟩], guard := none }) rfl (fun KK hKK => ?_) AllReadyH.nil
              go_simp
              have HTB0 := HTB.1
              with_reducible refine (new_any (penCells (ringN n) tb) (penCells_length _ _ (ringN_length n)) x2_1_4).mono ?_
              rintro e x2_1_5 ⟨wb, rfl, hlo, hnb, kb⟩
              replace q_ga := q_ga.keep kb
              replace HTB := And.intro (HTB.1.below kb) HTB.2
              replace q_gb := q_gb.keep kb
              replace q_rp := And.intro (q_rp.1.below kb q_rp.1.lt) q_rp.2
              have HWB := And.intro hnb (And.intro (Nat.le_trans hH.size hlo) (And.intro (fun (x : Addr) (hx : fa = some x) => Nat.lt_of_lt_of_le (tape_lt HTB0 hx) hlo) (Nat.lt_of_lt_of_le HTB0.is.lt hlo)))
              clear hnb hlo HTB0
              have hN := hH.trans (kb.mono hH.size)
              clear hH kb
              refine hKK.out _ _ hN (fun hH => ?_)
              clear hKK KK hN
              try simp only [Act.put, List.setIfInBounds_toArray, List.set_cons_zero, List.set_cons_succ]
              refine wpAnyH_ready (rs := [12]) (by kernel_rfl) (by simp) ?_
              refine AllReadyH.cons (o := { dst := some 2, op := Op.assign (Operand.tmp 16), type := 27, pos := "law.go:24", after := #[⟨5, .data⟩, ⟨5, .chain⟩, ⟨0, .phase⟩, ⟨1, .phase⟩, ⟨2, .phase⟩, ⟨3, .phase⟩, ⟨4, .phase⟩, ⟨5, .phase⟩, ⟨6, .textOnly .lateStores⟩, ⟨7, .textOnly .lateStores⟩, ⟨8, .textOnly .lateStores⟩, ⟨9, .textOnly .lateStores⟩, ⟨10, .textOnly .lateStores⟩, ⟨11, .textOnly .lateStores⟩], guard := none }) rfl (fun KK hKK => ?_) AllReadyH.nil
              go_simp
              refine hKK.out _ _ hH (fun hH => ?_)
              clear hKK KK
              try simp only [Act.put, List.setIfInBounds_toArray, List.set_cons_zero, List.set_cons_succ]
              refine wpAnyH_listed (L2 := #[true, true, true, true, true, true, true, true, true, true, true, true, true, false]) (by kernel_rfl) ?_
              exact REST ga tb fa fc wb gb rp x2_1_5 ⟨hH, True.intro, q_ga, HTB, HWB, q_gb, q_rp⟩
        · have e1 : (convert 30 9 (.slice (some ⟨gb, 0, none⟩) 1 1)).run Tryd.prog x2_1_1 = .ok (.string (str ([n]))) x2_1_1 := conv_string x2_1_1 (some ⟨gb, 0, none⟩) ([n]) 1 (lit_one q_gb)
          go_simp
          refine hKK.out _ _ hH (fun hH => ?_)
          clear hKK KK e1
          try simp only [Act.put, List.setIfInBounds_toArray, List.set_cons_zero, List.set_cons_succ]
          refine tk (i := 10) (oi := { dst := some 21, op := Op.build 52 #[(0, Operand.tmp 17), (1, Operand.tmp 20)], type := 52, pos := "law.go:24", after := #[⟨6, .data⟩, ⟨9, .data⟩, ⟨12, .gcOnly .lateStores⟩], guard := none }) (v := .agg (refCells (ringN n) [n] 0 [] (.slice none 0 0)).toArray) rfl (fun wx hS => ?_) hH ?_
          · exact run_buildO _ 52 _ rfl _ _ (buildRw (ringN n) [n] (ringN_length n) wx) rfl
          refine wpAnyH_ready (rs := [3, 11]) (by kernel_rfl) (by simp) ?_
          refine AllReadyH.cons (o := { dst := some 14, op := Op.call { callee := Callee.value (Operand.func 33), args := #[Operand.tmp 13], argTypes := #[30] }, type := 75, pos := "law.go:24", after := #[⟨2, .data⟩], guard := none }) rfl (fun KK hKK => ?_) (AllReadyH.cons (o := { dst := some 22, op := Op.box 52 (Operand.tmp 21), type := 36, pos := "law.go:24", after := #[⟨10, .data⟩, ⟨12, .gcOnly .lateStores⟩], guard := none }) rfl (fun KK hKK => ?_) AllReadyH.nil)
          · go_simp
            with_reducible refine (wind_one ga n x2_1_1 q_ga).mono ?_
            rintro e x2_1_3 ⟨tb, fa, fc, rfl, hlo, htp, hfa, kb⟩
            replace q_ga := q_ga.keep kb
            replace q_gb := q_gb.keep kb
            have HTB := And.intro htp (And.intro (Nat.le_trans hH.size hlo) fun (x : Addr) (hx : fa = some x) => Nat.le_trans hH.size (hfa x hx))
            clear htp hlo hfa
            have hN := hH.trans (kb.mono hH.size)
            clear hH kb
            refine hKK.out _ _ hN (fun hH => ?_)
            clear hKK KK hN
            try simp only [Act.put, List.setIfInBounds_toArray, List.set_cons_zero, List.set_cons_succ]
            refine tk (i := 4) (oi := { dst := some 15, op := Op.build 77 #[(0, Operand.tmp 11), (1, Operand.tmp 14)], type := 77, pos := "law.go:24", after := #[⟨0, .data⟩, ⟨3, .data⟩], guard := none }) (v := .agg (penCells (ringN n) tb).toArray) rfl (fun wx hS => ?_) hH ?_
            · exact run_buildO _ 77 _ rfl _ _ (buildPen (ringN n) tb (ringN_length n) wx) rfl
            refine wpAnyH_ready (rs := [5, 11]) (by kernel_rfl) (by simp) ?_
            refine AllReadyH.cons (o := { dst := some 16, op := Op.call { callee := Callee.value (Operand.func 32), args := #[Operand.tmp 15], argTypes := #[77] }, type := 27, pos := "law.go:24", after := #[⟨4, .data⟩, ⟨3, .chain⟩], guard := none }) rfl (fun KK hKK => ?_) (AllReadyH.cons (o := { dst := some 22, op := Op.box 52 (Operand.tmp 21), type := 36, pos := "law.go:24", after := #[⟨10, .data⟩, ⟨12, .gcOnly .lateStores⟩], guard := none }) rfl (fun KK hKK => ?_) AllReadyH.nil)
            · go_simp
              have HTB0 := HTB.1
              with_reducible refine (new_any (penCells (ringN n) tb) (penCells_length _ _ (ringN_length n)) x2_1_3).mono ?_
              rintro e x2_1_4 ⟨wb, rfl, hlo, hnb, kb⟩
              replace q_ga := q_ga.keep kb
              replace HTB := And.intro (HTB.1.below kb) HTB.2
              replace q_gb := q_gb.keep kb
              have HWB := And.intro hnb (And.intro (Nat.le_trans hH.size hlo) (And.intro (fun (x : Addr) (hx : fa = some x) => Nat.lt_of_lt_of_le (tape_lt HTB0 hx) hlo) (Nat.lt_of_lt_of_le HTB0.is.lt hlo)))
              clear hnb hlo HTB0
              have hN := hH.trans (kb.mono hH.size)
              clear hH kb
              refine hKK.out _ _ hN (fun hH => ?_)
              clear hKK KK hN
              try simp only [Act.put, List.setIfInBounds_toArray, List.set_cons_zero, List.set_cons_succ]
              refine wpAnyH_ready (rs := [11, 12]) (by kernel_rfl) (by simp) ?_
              refine AllReadyH.cons (o := { dst := some 22, op := Op.box 52 (Operand.tmp 21), type := 36, pos := "law.go:24", after := #[⟨10, .data⟩, ⟨12, .gcOnly .lateStores⟩], guard := none }) rfl (fun KK hKK => ?_) (AllReadyH.cons (o := { dst := some 2, op := Op.assign (Operand.tmp 16), type := 27, pos := "law.go:24", after := #[⟨5, .data⟩, ⟨5, .chain⟩, ⟨0, .phase⟩, ⟨1, .phase⟩, ⟨2, .phase⟩, ⟨3, .phase⟩, ⟨4, .phase⟩, ⟨5, .phase⟩, ⟨6, .textOnly .lateStores⟩, ⟨7, .textOnly .lateStores⟩, ⟨8, .textOnly .lateStores⟩, ⟨9, .textOnly .lateStores⟩, ⟨10, .textOnly .lateStores⟩, ⟨11, .textOnly .lateStores⟩], guard := none }) rfl (fun KK hKK => ?_) AllReadyH.nil)
              · have kb := alloc_below x2_1_4 (.cells (refCells (ringN n) [n] 0 [] (.slice none 0 0)).toArray 52 (0, 0))
                replace q_ga := q_ga.keep kb
                replace HTB := And.intro (HTB.1.below kb) HTB.2
                replace HWB := And.intro (HWB.1.below kb HWB.1.lt) HWB.2
                replace q_gb := q_gb.keep kb
                have q_rp := And.intro (blockIs.new x2_1_4 (refCells (ringN n) [n] 0 [] (.slice none 0 0)) 52) hH.size
                have hN := hH.trans (kb.mono hH.size)
                clear hH kb
                go_simp
                refine hKK.out _ _ hN (fun hH => ?_)
                clear hKK KK hN
                try simp only [Act.put, List.setIfInBounds_toArray, List.set_cons_zero, List.set_cons_succ]
                generalize x2_1_4.alloc (.cells (refCells (ringN n) [n] 0 [] (.slice none 0 0)).toArray 52 (0, 0)) = x2_1_5 at *
                generalize x2_1_4.heap.size = rp at q_rp ⊢
                refine wpAnyH_ready (rs := [12]) (by kernel_rfl) (by simp) ?_
                refine AllReadyH.cons (o := { dst := some 2, op := Op.assign (Operand.tmp 16), type := 27, pos := "law.go:24", after := #[⟨5, .data⟩, ⟨5, .chain⟩, ⟨0, .phase⟩, ⟨1, .phase⟩, ⟨2, .phase⟩, ⟨3, .phase⟩, ⟨4, .phase⟩, ⟨5, .phase⟩, ⟨6, .textOnly .lateStores⟩, ⟨7, .textOnly .lateStores⟩, ⟨8, .textOnly .lateStores⟩, ⟨9, .textOnly .lateStores⟩, ⟨10, .textOnly .lateStores⟩, ⟨11, .textOnly .lateStores⟩], guard := none }) rfl (fun KK hKK => ?_) AllReadyH.nil
                go_simp
                refine hKK.out _ _ hH (fun hH => ?_)
                clear hKK KK
                try simp only [Act.put, List.setIfInBounds_toArray, List.set_cons_zero, List.set_cons_succ]
                refine wpAnyH_listed (L2 := #[true, true, true, true, true, true, true, true, true, true, true, true, true, false]) (by kernel_rfl) ?_
                exact REST ga tb fa fc wb gb rp x2_1_5 ⟨hH, True.intro, q_ga, HTB, HWB, q_gb, q_rp⟩
              · go_simp
                refine hKK.out _ _ hH (fun hH => ?_)
                clear hKK KK
                try simp only [Act.put, List.setIfInBounds_toArray, List.set_cons_zero, List.set_cons_succ]
                refine wpAnyH_ready (rs := [11]) (by kernel_rfl) (by simp) ?_
                refine AllReadyH.cons (o := { dst := some 22, op := Op.box 52 (Operand.tmp 21), type := 36, pos := "law.go:24", after := #[⟨10, .data⟩, ⟨12, .gcOnly .lateStores⟩], guard := none }) rfl (fun KK hKK => ?_) AllReadyH.nil
                have kb := alloc_below x2_1_4 (.cells (refCells (ringN n) [n] 0 [] (.slice none 0 0)).toArray 52 (0, 0))
                replace q_ga := q_ga.keep kb
                replace HTB := And.intro (HTB.1.below kb) HTB.2
                replace HWB := And.intro (HWB.1.below kb HWB.1.lt) HWB.2
                replace q_gb := q_gb.keep kb
                have q_rp := And.intro (blockIs.new x2_1_4 (refCells (ringN n) [n] 0 [] (.slice none 0 0)) 52) hH.size
                have hN := hH.trans (kb.mono hH.size)
                clear hH kb
                go_simp
                refine hKK.out _ _ hN (fun hH => ?_)
                clear hKK KK hN
                try simp only [Act.put, List.setIfInBounds_toArray, List.set_cons_zero, List.set_cons_succ]
                generalize x2_1_4.alloc (.cells (refCells (ringN n) [n] 0 [] (.slice none 0 0)).toArray 52 (0, 0)) = x2_1_6 at *
                generalize x2_1_4.heap.size = rp at q_rp ⊢
                refine wpAnyH_listed (L2 := #[true, true, true, true, true, true, true, true, true, true, true, true, true, false]) (by kernel_rfl) ?_
                exact REST ga tb fa fc wb gb rp x2_1_6 ⟨hH, True.intro, q_ga, HTB, HWB, q_gb, q_rp⟩
            · have kb := alloc_below x2_1_3 (.cells (refCells (ringN n) [n] 0 [] (.slice none 0 0)).toArray 52 (0, 0))
              replace q_ga := q_ga.keep kb
              replace HTB := And.intro (HTB.1.below kb) HTB.2
              replace q_gb := q_gb.keep kb
              have q_rp := And.intro (blockIs.new x2_1_3 (refCells (ringN n) [n] 0 [] (.slice none 0 0)) 52) hH.size
              have hN := hH.trans (kb.mono hH.size)
              clear hH kb
              go_simp
              refine hKK.out _ _ hN (fun hH => ?_)
              clear hKK KK hN
              try simp only [Act.put, List.setIfInBounds_toArray, List.set_cons_zero, List.set_cons_succ]
              generalize x2_1_3.alloc (.cells (refCells (ringN n) [n] 0 [] (.slice none 0 0)).toArray 52 (0, 0)) = x2_1_4 at *
              generalize x2_1_3.heap.size = rp at q_rp ⊢
              refine wpAnyH_ready (rs := [5]) (by kernel_rfl) (by simp) ?_
              refine AllReadyH.cons (o := { dst := some 16, op := Op.call { callee := Callee.value (Operand.func 32), args := #[Operand.tmp 15], argTypes := #[77] }, type := 27, pos := "law.go:24", after := #[⟨4, .data⟩, ⟨3, .chain⟩], guard := none }) rfl (fun KK hKK => ?_) AllReadyH.nil
              go_simp
              have HTB0 := HTB.1
              with_reducible refine (new_any (penCells (ringN n) tb) (penCells_length _ _ (ringN_length n)) x2_1_4).mono ?_
              rintro e x2_1_5 ⟨wb, rfl, hlo, hnb, kb⟩
              replace q_ga := q_ga.keep kb
              replace HTB := And.intro (HTB.1.below kb) HTB.2
              replace q_gb := q_gb.keep kb
              replace q_rp := And.intro (q_rp.1.below kb q_rp.1.lt) q_rp.2
              have HWB := And.intro hnb (And.intro (Nat.le_trans hH.size hlo) (And.intro (fun (x : Addr) (hx : fa = some x) => Nat.lt_of_lt_of_le (tape_lt HTB0 hx) hlo) (Nat.lt_of_lt_of_le HTB0.is.lt hlo)))
              clear hnb hlo HTB0
              have hN := hH.trans (kb.mono hH.size)
              clear hH kb
              refine hKK.out _ _ hN (fun hH => ?_)
              clear hKK KK hN
              try simp only [Act.put, List.setIfInBounds_toArray, List.set_cons_zero, List.set_cons_succ]
              refine wpAnyH_ready (rs := [12]) (by kernel_rfl) (by simp) ?_
              refine AllReadyH.cons (o := { dst := some 2, op := Op.assign (Operand.tmp 16), type := 27, pos := "law.go:24", after := #[⟨5, .data⟩, ⟨5, .chain⟩, ⟨0, .phase⟩, ⟨1, .phase⟩, ⟨2, .phase⟩, ⟨3, .phase⟩, ⟨4, .phase⟩, ⟨5, .phase⟩, ⟨6, .textOnly .lateStores⟩, ⟨7, .textOnly .lateStores⟩, ⟨8, .textOnly .lateStores⟩, ⟨9, .textOnly .lateStores⟩, ⟨10, .textOnly .lateStores⟩, ⟨11, .textOnly .lateStores⟩], guard := none }) rfl (fun KK hKK => ?_) AllReadyH.nil
              go_simp
              refine hKK.out _ _ hH (fun hH => ?_)
              clear hKK KK
              try simp only [Act.put, List.setIfInBounds_toArray, List.set_cons_zero, List.set_cons_succ]
              refine wpAnyH_listed (L2 := #[true, true, true, true, true, true, true, true, true, true, true, true, true, false]) (by kernel_rfl) ?_
              exact REST ga tb fa fc wb gb rp x2_1_5 ⟨hH, True.intro, q_ga, HTB, HWB, q_gb, q_rp⟩
          · have kb := alloc_below x2_1_1 (.cells (refCells (ringN n) [n] 0 [] (.slice none 0 0)).toArray 52 (0, 0))
            replace q_ga := q_ga.keep kb
            replace q_gb := q_gb.keep kb
            have q_rp := And.intro (blockIs.new x2_1_1 (refCells (ringN n) [n] 0 [] (.slice none 0 0)) 52) hH.size
            have hN := hH.trans (kb.mono hH.size)
            clear hH kb
            go_simp
            refine hKK.out _ _ hN (fun hH => ?_)
            clear hKK KK hN
            try simp only [Act.put, List.setIfInBounds_toArray, List.set_cons_zero, List.set_cons_succ]
            generalize x2_1_1.alloc (.cells (refCells (ringN n) [n] 0 [] (.slice none 0 0)).toArray 52 (0, 0)) = x2_1_3 at *
            generalize x2_1_1.heap.size = rp at q_rp ⊢
            refine wpAnyH_ready (rs := [3]) (by kernel_rfl) (by simp) ?_
            refine AllReadyH.cons (o := { dst := some 14, op := Op.call { callee := Callee.value (Operand.func 33), args := #[Operand.tmp 13], argTypes := #[30] }, type := 75, pos := "law.go:24", after := #[⟨2, .data⟩], guard := none }) rfl (fun KK hKK => ?_) AllReadyH.nil
            go_simp
            with_reducible refine (wind_one ga n x2_1_3 q_ga).mono ?_
            rintro e x2_1_4 ⟨tb, fa, fc, rfl, hlo, htp, hfa, kb⟩
            replace q_ga := q_ga.keep kb
            replace q_gb := q_gb.keep kb
            replace q_rp := And.intro (q_rp.1.below kb q_rp.1.lt) q_rp.2
            have HTB := And.intro htp (And.intro (Nat.le_trans hH.size hlo) fun (x : Addr) (hx : fa = some x) => Nat.le_trans hH.size (hfa x hx))
            clear htp hlo hfa
            have hN := hH.trans (kb.mono hH.size)
            clear hH kb
            refine hKK.out _ _ hN (fun hH => ?_)
            clear hKK KK hN
            try simp only [Act.put, List.setIfInBounds_toArray, List.set_cons_zero, List.set_cons_succ]
            refine tk (i := 4) (oi := { dst := some 15, op := Op.build 77 #[(0, Operand.tmp 11), (1, Operand.tmp 14)], type := 77, pos := "law.go:24", after := #[⟨0, .data⟩, ⟨3, .data⟩], guard := none }) (v := .agg (penCells (ringN n) tb).toArray) rfl (fun wx hS => ?_) hH ?_
            · exact run_buildO _ 77 _ rfl _ _ (buildPen (ringN n) tb (ringN_length n) wx) rfl
            refine wpAnyH_ready (rs := [5]) (by kernel_rfl) (by simp) ?_
            refine AllReadyH.cons (o := { dst := some 16, op := Op.call { callee := Callee.value (Operand.func 32), args := #[Operand.tmp 15], argTypes := #[77] }, type := 27, pos := "law.go:24", after := #[⟨4, .data⟩, ⟨3, .chain⟩], guard := none }) rfl (fun KK hKK => ?_) AllReadyH.nil
            go_simp
            have HTB0 := HTB.1
            with_reducible refine (new_any (penCells (ringN n) tb) (penCells_length _ _ (ringN_length n)) x2_1_4).mono ?_
            rintro e x2_1_5 ⟨wb, rfl, hlo, hnb, kb⟩
            replace q_ga := q_ga.keep kb
            replace HTB := And.intro (HTB.1.below kb) HTB.2
            replace q_gb := q_gb.keep kb
            replace q_rp := And.intro (q_rp.1.below kb q_rp.1.lt) q_rp.2
            have HWB := And.intro hnb (And.intro (Nat.le_trans hH.size hlo) (And.intro (fun (x : Addr) (hx : fa = some x) => Nat.lt_of_lt_of_le (tape_lt HTB0 hx) hlo) (Nat.lt_of_lt_of_le HTB0.is.lt hlo)))
            clear hnb hlo HTB0
            have hN := hH.trans (kb.mono hH.size)
            clear hH kb
            refine hKK.out _ _ hN (fun hH => ?_)
            clear hKK KK hN
            try simp only [Act.put, List.setIfInBounds_toArray, List.set_cons_zero, List.set_cons_succ]
            refine wpAnyH_ready (rs := [12]) (by kernel_rfl) (by simp) ?_
            refine AllReadyH.cons (o := { dst := some 2, op := Op.assign (Operand.tmp 16), type := 27, pos := "law.go:24", after := #[⟨5, .data⟩, ⟨5, .chain⟩, ⟨0, .phase⟩, ⟨1, .phase⟩, ⟨2, .phase⟩, ⟨3, .phase⟩, ⟨4, .phase⟩, ⟨5, .phase⟩, ⟨6, .textOnly .lateStores⟩, ⟨7, .textOnly .lateStores⟩, ⟨8, .textOnly .lateStores⟩, ⟨9, .textOnly .lateStores⟩, ⟨10, .textOnly .lateStores⟩, ⟨11, .textOnly .lateStores⟩], guard := none }) rfl (fun KK hKK => ?_) AllReadyH.nil
            go_simp
            refine hKK.out _ _ hH (fun hH => ?_)
            clear hKK KK
            try simp only [Act.put, List.setIfInBounds_toArray, List.set_cons_zero, List.set_cons_succ]
            refine wpAnyH_listed (L2 := #[true, true, true, true, true, true, true, true, true, true, true, true, true, false]) (by kernel_rfl) ?_
            exact REST ga tb fa fc wb gb rp x2_1_5 ⟨hH, True.intro, q_ga, HTB, HWB, q_gb, q_rp⟩
      · have e1 : (convert 30 9 (.slice (some ⟨gb, 0, none⟩) 1 1)).run Tryd.prog x2_1_0 = .ok (.string (str ([n]))) x2_1_0 := conv_string x2_1_0 (some ⟨gb, 0, none⟩) ([n]) 1 (lit_one q_gb)
        go_simp
        refine hKK.out _ _ hH (fun hH => ?_)
        clear hKK KK e1
        try simp only [Act.put, List.setIfInBounds_toArray, List.set_cons_zero, List.set_cons_succ]
        refine tk (i := 10) (oi := { dst := some 21, op := Op.build 52 #[(0, Operand.tmp 17), (1, Operand.tmp 20)], type := 52, pos := "law.go:24", after := #[⟨6, .data⟩, ⟨9, .data⟩, ⟨12, .gcOnly .lateStores⟩], guard := none }) (v := .agg (refCells (ringN n) [n] 0 [] (.slice none 0 0)).toArray) rfl (fun wx hS => ?_) hH ?_
        · exact run_buildO _ 52 _ rfl _ _ (buildRw (ringN n) [n] (ringN_length n) wx) rfl
        refine wpAnyH_ready (rs := [2, 11]) (by kernel_rfl) (by simp) ?_
        refine AllReadyH.cons (o := { dst := some 13, op := Op.buildSlice 30 1 #[(0, Operand.tmp 12)], type := 30, pos := "law.go:24", after := #[⟨1, .data⟩], guard := none }) rfl (fun KK hKK => ?_) (AllReadyH.cons (o := { dst := some 22, op := Op.box 52 (Operand.tmp 21), type := 36, pos := "law.go:24", after := #[⟨10, .data⟩, ⟨12, .gcOnly .lateStores⟩], guard := none }) rfl (fun KK hKK => ?_) AllReadyH.nil)
        · have kb := alloc_below x2_1_0 (.cells #[.int .u8 (V n)] 5 (0, 0))
          replace q_gb := q_gb.keep kb
          have q_ga := cellsAt.new x2_1_0 #[.int .u8 (V n)] x2_1_0.heap.size 5 [.int .u8 (V n)] rfl rfl
          have hN := hH.trans (kb.mono hH.size)
          clear hH kb
          go_simp
          refine hKK.out _ _ hN (fun hH => ?_)
          clear hKK KK hN
          try simp only [Act.put, List.setIfInBounds_toArray, List.set_cons_zero, List.set_cons_succ]
          generalize x2_1_0.alloc (.cells #[.int .u8 (V n)] 5 (0, 0)) = x2_1_2 at *
          generalize x2_1_0.heap.size = ga at q_ga ⊢
          refine wpAnyH_ready (rs := [3, 11]) (by kernel_rfl) (by simp) ?_
          refine AllReadyH.cons (o := { dst := some 14, op := Op.call { callee := Callee.value (Operand.func 33), args := #[Operand.tmp 13], argTypes := #[30] }, type := 75, pos := "law.go:24", after := #[⟨2, .data⟩], guard := none }) rfl (fun KK hKK => ?_) (AllReadyH.cons (o := { dst := some 22, op := Op.box 52 (Operand.tmp 21), type := 36, pos := "law.go:24", after := #[⟨10, .data⟩, ⟨12, .gcOnly .lateStores⟩], guard := none }) rfl (fun KK hKK => ?_) AllReadyH.nil)
          · go_simp
            with_reducible refine (wind_one ga n x2_1_2 q_ga).mono ?_
            rintro e x2_1_3 ⟨tb, fa, fc, rfl, hlo, htp, hfa, kb⟩
            replace q_ga := q_ga.keep kb
            replace q_gb := q_gb.keep kb
            have HTB := And.intro htp (And.intro (Nat.le_trans hH.size hlo) fun (x : Addr) (hx : fa = some x) => Nat.le_trans hH.size (hfa x hx))
            clear htp hlo hfa
            have hN := hH.trans (kb.mono hH.size)
            clear hH kb
            refine hKK.out _ _ hN (fun hH => ?_)
            clear hKK KK hN
            try simp only [Act.put, List.setIfInBounds_toArray, List.set_cons_zero, List.set_cons_succ]
            refine tk (i := 4) (oi := { dst := some 15, op := Op.build 77 #[(0, Operand.tmp 11), (1, Operand.tmp 14)], type := 77, pos := "law.go:24", after := #[⟨0, .data⟩, ⟨3, .data⟩], guard := none }) (v := .agg (penCells (ringN n) tb).toArray) rfl (fun wx hS => ?_) hH ?_
            · exact run_buildO _ 77 _ rfl _ _ (buildPen (ringN n) tb (ringN_length n) wx) rfl
            refine wpAnyH_ready (rs := [5, 11]) (by kernel_rfl) (by simp) ?_
            refine AllReadyH.cons (o := { dst := some 16, op := Op.call { callee := Callee.value (Operand.func 32), args := #[Operand.tmp 15], argTypes := #[77] }, type := 27, pos := "law.go:24", after := #[⟨4, .data⟩, ⟨3, .chain⟩], guard := none }) rfl (fun KK hKK => ?_) (AllReadyH.cons (o := { dst := some 22, op := Op.box 52 (Operand.tmp 21), type := 36, pos := "law.go:24", after := #[⟨10, .data⟩, ⟨12, .gcOnly .lateStores⟩], guard := none }) rfl (fun KK hKK => ?_) AllReadyH.nil)
            · go_simp
              have HTB0 := HTB.1
              with_reducible refine (new_any (penCells (ringN n) tb) (penCells_length _ _ (ringN_length n)) x2_1_3).mono ?_
              rintro e x2_1_4 ⟨wb, rfl, hlo, hnb, kb⟩
              replace q_ga := q_ga.keep kb
              replace HTB := And.intro (HTB.1.below kb) HTB.2
              replace q_gb := q_gb.keep kb
              have HWB := And.intro hnb (And.intro (Nat.le_trans hH.size hlo) (And.intro (fun (x : Addr) (hx : fa = some x) => Nat.lt_of_lt_of_le (tape_lt HTB0 hx) hlo) (Nat.lt_of_lt_of_le HTB0.is.lt hlo)))
              clear hnb hlo HTB0
              have hN := hH.trans (kb.mono hH.size)
              clear hH kb
              refine hKK.out _ _ hN (fun hH => ?_)
              clear hKK KK hN
              try simp only [Act.put, List.setIfInBounds_toArray, List.set_cons_zero, List.set_cons_succ]
              refine wpAnyH_ready (rs := [11, 12]) (by kernel_rfl) (by simp) ?_
              refine AllReadyH.cons (o := { dst := some 22, op := Op.box 52 (Operand.tmp 21), type := 36, pos := "law.go:24", after := #[⟨10, .data⟩, ⟨12, .gcOnly .lateStores⟩], guard := none }) rfl (fun KK hKK => ?_) (AllReadyH.cons (o := { dst := some 2, op := Op.assign (Operand.tmp 16), type := 27, pos := "law.go:24", after := #[⟨5, .data⟩, ⟨5, .chain⟩, ⟨0, .phase⟩, ⟨1, .phase⟩, ⟨2, .phase⟩, ⟨3, .phase⟩, ⟨4, .phase⟩, ⟨5, .phase⟩, ⟨6, .textOnly .lateStores⟩, ⟨7, .textOnly .lateStores⟩, ⟨8, .textOnly .lateStores⟩, ⟨9, .textOnly .lateStores⟩, ⟨10, .textOnly .lateStores⟩, ⟨11, .textOnly .lateStores⟩], guard := none }) rfl (fun KK hKK => ?_) AllReadyH.nil)
              · have kb := alloc_below x2_1_4 (.cells (refCells (ringN n) [n] 0 [] (.slice none 0 0)).toArray 52 (0, 0))
                replace q_ga := q_ga.keep kb
                replace HTB := And.intro (HTB.1.below kb) HTB.2
                replace HWB := And.intro (HWB.1.below kb HWB.1.lt) HWB.2
                replace q_gb := q_gb.keep kb
                have q_rp := And.intro (blockIs.new x2_1_4 (refCells (ringN n) [n] 0 [] (.slice none 0 0)) 52) hH.size
                have hN := hH.trans (kb.mono hH.size)
                clear hH kb
                go_simp
                refine hKK.out _ _ hN (fun hH => ?_)
                clear hKK KK hN
                try simp only [Act.put, List.setIfInBounds_toArray, List.set_cons_zero, List.set_cons_succ]
                generalize x2_1_4.alloc (.cells (refCells (ringN n) [n] 0 [] (.slice none 0 0)).toArray 52 (0, 0)) = x2_1_5 at *
                generalize x2_1_4.heap.size = rp at q_rp ⊢
                refine wpAnyH_ready (rs := [12]) (by kernel_rfl) (by simp) ?_
                refine AllReadyH.cons (o := { dst := some 2, op := Op.assign (Operand.tmp 16), type := 27, pos := "law.go:24", after := #[⟨5, .data⟩, ⟨5, .chain⟩, ⟨0, .phase⟩, ⟨1, .phase⟩, ⟨2, .phase⟩, ⟨3, .phase⟩, ⟨4, .phase⟩, ⟨5, .phase⟩, ⟨6, .textOnly .lateStores⟩, ⟨7, .textOnly .lateStores⟩, ⟨8, .textOnly .lateStores⟩, ⟨9, .textOnly .lateStores⟩, ⟨10, .textOnly .lateStores⟩, ⟨11, .textOnly .lateStores⟩], guard := none }) rfl (fun KK hKK => ?_) AllReadyH.nil
                go_simp
                refine hKK.out _ _ hH (fun hH => ?_)
                clear hKK KK
                try simp only [Act.put, List.setIfInBounds_toArray, List.set_cons_zero, List.set_cons_succ]
                refine wpAnyH_listed (L2 := #[true, true, true, true, true, true, true, true, true, true, true, true, true, false]) (by kernel_rfl) ?_
                exact REST ga tb fa fc wb gb rp x2_1_5 ⟨hH, True.intro, q_ga, HTB, HWB, q_gb, q_rp⟩
              · go_simp
                refine hKK.out _ _ hH (fun hH => ?_)
                clear hKK KK
                try simp only [Act.put, List.setIfInBounds_toArray, List.set_cons_zero, List.set_cons_succ]
                refine wpAnyH_ready (rs := [11]) (by kernel_rfl) (by simp) ?_
                refine AllReadyH.cons (o := { dst := some 22, op := Op.box 52 (Operand.tmp 21), type := 36, pos := "law.go:24", after := #[⟨10, .data⟩, ⟨12, .gcOnly .lateStores⟩], guard := none }) rfl (fun KK hKK => ?_) AllReadyH.nil
                have kb := alloc_below x2_1_4 (.cells (refCells (ringN n) [n] 0 [] (.slice none 0 0)).toArray 52 (0, 0))
                replace q_ga := q_ga.keep kb
                replace HTB := And.intro (HTB.1.below kb) HTB.2
                replace HWB := And.intro (HWB.1.below kb HWB.1.lt) HWB.2
                replace q_gb := q_gb.keep kb
                have q_rp := And.intro (blockIs.new x2_1_4 (refCells (ringN n) [n] 0 [] (.slice none 0 0)) 52) hH.size
                have hN := hH.trans (kb.mono hH.size)
                clear hH kb
                go_simp
                refine hKK.out _ _ hN (fun hH => ?_)
                clear hKK KK hN
                try simp only [Act.put, List.setIfInBounds_toArray, List.set_cons_zero, List.set_cons_succ]
                generalize x2_1_4.alloc (.cells (refCells (ringN n) [n] 0 [] (.slice none 0 0)).toArray 52 (0, 0)) = x2_1_6 at *
                generalize x2_1_4.heap.size = rp at q_rp ⊢
                refine wpAnyH_listed (L2 := #[true, true, true, true, true, true, true, true, true, true, true, true, true, false]) (by kernel_rfl) ?_
                exact REST ga tb fa fc wb gb rp x2_1_6 ⟨hH, True.intro, q_ga, HTB, HWB, q_gb, q_rp⟩
            · have kb := alloc_below x2_1_3 (.cells (refCells (ringN n) [n] 0 [] (.slice none 0 0)).toArray 52 (0, 0))
              replace q_ga := q_ga.keep kb
              replace HTB := And.intro (HTB.1.below kb) HTB.2
              replace q_gb := q_gb.keep kb
              have q_rp := And.intro (blockIs.new x2_1_3 (refCells (ringN n) [n] 0 [] (.slice none 0 0)) 52) hH.size
              have hN := hH.trans (kb.mono hH.size)
              clear hH kb
              go_simp
              refine hKK.out _ _ hN (fun hH => ?_)
              clear hKK KK hN
              try simp only [Act.put, List.setIfInBounds_toArray, List.set_cons_zero, List.set_cons_succ]
              generalize x2_1_3.alloc (.cells (refCells (ringN n) [n] 0 [] (.slice none 0 0)).toArray 52 (0, 0)) = x2_1_4 at *
              generalize x2_1_3.heap.size = rp at q_rp ⊢
              refine wpAnyH_ready (rs := [5]) (by kernel_rfl) (by simp) ?_
              refine AllReadyH.cons (o := { dst := some 16, op := Op.call { callee := Callee.value (Operand.func 32), args := #[Operand.tmp 15], argTypes := #[77] }, type := 27, pos := "law.go:24", after := #[⟨4, .data⟩, ⟨3, .chain⟩], guard := none }) rfl (fun KK hKK => ?_) AllReadyH.nil
              go_simp
              have HTB0 := HTB.1
              with_reducible refine (new_any (penCells (ringN n) tb) (penCells_length _ _ (ringN_length n)) x2_1_4).mono ?_
              rintro e x2_1_5 ⟨wb, rfl, hlo, hnb, kb⟩
              replace q_ga := q_ga.keep kb
              replace HTB := And.intro (HTB.1.below kb) HTB.2
              replace q_gb := q_gb.keep kb
              replace q_rp := And.intro (q_rp.1.below kb q_rp.1.lt) q_rp.2
              have HWB := And.intro hnb (And.intro (Nat.le_trans hH.size hlo) (And.intro (fun (x : Addr) (hx : fa = some x) => Nat.lt_of_lt_of_le (tape_lt HTB0 hx) hlo) (Nat.lt_of_lt_of_le HTB0.is.lt hlo)))
              clear hnb hlo HTB0
              have hN := hH.trans (kb.mono hH.size)
              clear hH kb
              refine hKK.out _ _ hN (fun hH => ?_)
              clear hKK KK hN
              try simp only [Act.put, List.setIfInBounds_toArray, List.set_cons_zero, List.set_cons_succ]
              refine wpAnyH_ready (rs := [12]) (by kernel_rfl) (by simp) ?_
              refine AllReadyH.cons (o := { dst := some 2, op := Op.assign (Operand.tmp 16), type := 27, pos := "law.go:24", after := #[⟨5, .data⟩, ⟨5, .chain⟩, ⟨0, .phase⟩, ⟨1, .phase⟩, ⟨2, .phase⟩, ⟨3, .phase⟩, ⟨4, .phase⟩, ⟨5, .phase⟩, ⟨6, .textOnly .lateStores⟩, ⟨7, .textOnly .lateStores⟩, ⟨8, .textOnly .lateStores⟩, ⟨9, .textOnly .lateStores⟩, ⟨10, .textOnly .lateStores⟩, ⟨11, .textOnly .lateStores⟩], guard := none }) rfl (fun KK hKK => ?_) AllReadyH.nil
              go_simp
              refine hKK.out _ _ hH (fun hH => ?_)
              clear hKK KK
              try simp only [Act.put, List.setIfInBounds_toArray, List.set_cons_zero, List.set_cons_succ]
              refine wpAnyH_listed (L2 := #[true, true, true, true, true, true, true, true, true, true, true, true, true, false]) (by kernel_rfl) ?_
              exact REST ga tb fa fc wb gb rp x2_1_5 ⟨hH, True.intro, q_ga, HTB, HWB, q_gb, q_rp⟩
          · have kb := alloc_below x2_1_2 (.cells (refCells (ringN n) [n] 0 [] (.slice none 0 0)).toArray 52 (0, 0))
            replace q_ga := q_ga.keep kb
            replace q_gb := q_gb.keep kb
            have q_rp := And.intro (blockIs.new x2_1_2 (refCells (ringN n) [n] 0 [] (.slice none 0 0)) 52) hH.size
            have hN := hH.trans (kb.mono hH.size)
            clear hH kb
            go_simp
            refine hKK.out _ _ hN (fun hH => ?_)
            clear hKK KK hN
            try simp only [Act.put, List.setIfInBounds_toArray, List.set_cons_zero, List.set_cons_succ]
            generalize x2_1_2.alloc (.cells (refCells (ringN n) [n] 0 [] (.slice none 0 0)).toArray 52 (0, 0)) = x2_1_3 at *
            generalize x2_1_2.heap.size = rp at q_rp ⊢
            refine wpAnyH_ready (rs := [3]) (by kernel_rfl) (by simp) ?_
            refine AllReadyH.cons (o := { dst := some 14, op := Op.call { callee := Callee.value (Operand.func 33), args := #[Operand.tmp 13], argTypes := #[30] }, type := 75, pos := "law.go:24", after := #[⟨2, .data⟩], guard := none }) rfl (fun KK hKK => ?_) AllReadyH.nil
            go_simp
            with_reducible refine (wind_one ga n x2_1_3 q_ga).mono ?_
            rintro e x2_1_4 ⟨tb, fa, fc, rfl, hlo, htp, hfa, kb⟩
            replace q_ga := q_ga.keep kb
            replace q_gb := q_gb.keep kb
            replace q_rp := And.intro (q_rp.1.below kb q_rp.1.lt) q_rp.2
            have HTB := And.intro htp (And.intro (Nat.le_trans hH.size hlo) fun (x : Addr) (hx : fa = some x) => Nat.le_trans hH.size (hfa x hx))
            clear htp hlo hfa
            have hN := hH.trans (kb.mono hH.size)
            clear hH kb
            refine hKK.out _ _ hN (fun hH => ?_)
            clear hKK KK hN
            try simp only [Act.put, List.setIfInBounds_toArray, List.set_cons_zero, List.set_cons_succ]
            refine tk (i := 4) (oi := { dst := some 15, op := Op.build 77 #[(0, Operand.tmp 11), (1, Operand.tmp 14)], type := 77, pos := "law.go:24", after := #[⟨0, .data⟩, ⟨3, .data⟩], guard := none }) (v := .agg (penCells (ringN n) tb).toArray) rfl (fun wx hS => ?_) hH ?_
            · exact run_buildO _ 77 _ rfl _ _ (buildPen (ringN n) tb (ringN_length n) wx) rfl
            refine wpAnyH_ready (rs := [5]) (by kernel_rfl) (by simp) ?_
            refine AllReadyH.cons (o := { dst := some 16, op := Op.call { callee := Callee.value (Operand.func 32), args := #[Operand.tmp 15], argTypes := #[77] }, type := 27, pos := "law.go:24", after := #[⟨4, .data⟩, ⟨3, .chain⟩], guard := none }) rfl (fun KK hKK => ?_) AllReadyH.nil
            go_simp
            have HTB0 := HTB.1
            with_reducible refine (new_any (penCells (ringN n) tb) (penCells_length _ _ (ringN_length n)) x2_1_4).mono ?_
            rintro e x2_1_5 ⟨wb, rfl, hlo, hnb, kb⟩
            replace q_ga := q_ga.keep kb
            replace HTB := And.intro (HTB.1.below kb) HTB.2
            replace q_gb := q_gb.keep kb
            replace q_rp := And.intro (q_rp.1.below kb q_rp.1.lt) q_rp.2
            have HWB := And.intro hnb (And.intro (Nat.le_trans hH.size hlo) (And.intro (fun (x : Addr) (hx : fa = some x) => Nat.lt_of_lt_of_le (tape_lt HTB0 hx) hlo) (Nat.lt_of_lt_of_le HTB0.is.lt hlo)))
            clear hnb hlo HTB0
            have hN := hH.trans (kb.mono hH.size)
            clear hH kb
            refine hKK.out _ _ hN (fun hH => ?_)
            clear hKK KK hN
            try simp only [Act.put, List.setIfInBounds_toArray, List.set_cons_zero, List.set_cons_succ]
            refine wpAnyH_ready (rs := [12]) (by kernel_rfl) (by simp) ?_
            refine AllReadyH.cons (o := { dst := some 2, op := Op.assign (Operand.tmp 16), type := 27, pos := "law.go:24", after := #[⟨5, .data⟩, ⟨5, .chain⟩, ⟨0, .phase⟩, ⟨1, .phase⟩, ⟨2, .phase⟩, ⟨3, .phase⟩, ⟨4, .phase⟩, ⟨5, .phase⟩, ⟨6, .textOnly .lateStores⟩, ⟨7, .textOnly .lateStores⟩, ⟨8, .textOnly .lateStores⟩, ⟨9, .textOnly .lateStores⟩, ⟨10, .textOnly .lateStores⟩, ⟨11, .textOnly .lateStores⟩], guard := none }) rfl (fun KK hKK => ?_) AllReadyH.nil
            go_simp
            refine hKK.out _ _ hH (fun hH => ?_)
            clear hKK KK
            try simp only [Act.put, List.setIfInBounds_toArray, List.set_cons_zero, List.set_cons_succ]
            refine wpAnyH_listed (L2 := #[true, true, true, true, true, true, true, true, true, true, true, true, true, false]) (by kernel_rfl) ?_
            exact REST ga tb fa fc wb gb rp x2_1_5 ⟨hH, True.intro, q_ga, HTB, HWB, q_gb, q_rp⟩
        · have kb := alloc_below x2_1_0 (.cells (refCells (ringN n) [n] 0 [] (.slice none 0 0)).toArray 52 (0, 0))
          replace q_gb := q_gb.keep kb
          have q_rp := And.intro (blockIs.new x2_1_0 (refCells (ringN n) [n] 0 [] (.slice none 0 0)) 52) hH.size
          have hN := hH.trans (kb.mono hH.size)
          clear hH kb
          go_simp
          refine hKK.out _ _ hN (fun hH => ?_)
          clear hKK KK hN
          try simp only [Act.put, List.setIfInBounds_toArray, List.set_cons_zero, List.set_cons_succ]
          generalize x2_1_0.alloc (.cells (refCells (ringN n) [n] 0 [] (.slice none 0 0)).toArray 52 (0, 0)) = x2_1_2 at *
          generalize x2_1_0.heap.size = rp at q_rp ⊢
          refine wpAnyH_ready (rs := [2]) (by kernel_rfl) (by simp) ?_
          refine AllReadyH.cons (o := { dst := some 13, op := Op.buildSlice 30 1 #[(0, Operand.tmp 12)], type := 30, pos := "law.go:24", after := #[⟨1, .data⟩], guard := none }) rfl (fun KK hKK => ?_) AllReadyH.nil
          have kb := alloc_below x2_1_2 (.cells #[.int .u8 (V n)] 5 (0, 0))
          replace q_gb := q_gb.keep kb
          replace q_rp := And.intro (q_rp.1.below kb q_rp.1.lt) q_rp.2
          have q_ga := cellsAt.new x2_1_2 #[.int .u8 (V n)] x2_1_2.heap.size 5 [.int .u8 (V n)] rfl rfl
          have hN := hH.trans (kb.mono hH.size)
          clear hH kb
          go_simp
          refine hKK.out _ _ hN (fun hH => ?_)
          clear hKK KK hN
          try simp only [Act.put, List.setIfInBounds_toArray, List.set_cons_zero, List.set_cons_succ]
          generalize x2_1_2.alloc (.cells #[.int .u8 (V n)] 5 (0, 0)) = x2_1_3 at *
          generalize x2_1_2.heap.size = ga at q_ga ⊢
          refine wpAnyH_ready (rs := [3]) (by kernel_rfl) (by simp) ?_
          refine AllReadyH.cons (o := { dst := some 14, op := Op.call { callee := Callee.value (Operand.func 33), args := #[Operand.tmp 13], argTypes := #[30] }, type := 75, pos := "law.go:24", after := #[⟨2, .data⟩], guard := none }) rfl (fun KK hKK => ?_) AllReadyH.nil
          go_simp
          with_reducible refine (wind_one ga n x2_1_3 q_ga).mono ?_
          rintro e x2_1_4 ⟨tb, fa, fc, rfl, hlo, htp, hfa, kb⟩
          replace q_ga := q_ga.keep kb
          replace q_gb := q_gb.keep kb
          replace q_rp := And.intro (q_rp.1.below kb q_rp.1.lt) q_rp.2
          have HTB := And.intro htp (And.intro (Nat.le_trans hH.size hlo) fun (x : Addr) (hx : fa = some x) => Nat.le_trans hH.size (hfa x hx))
          clear htp hlo hfa
          have hN := hH.trans (kb.mono hH.size)
          clear hH kb
          refine hKK.out _ _ hN (fun hH => ?_)
          clear hKK KK hN
          try simp only [Act.put, List.setIfInBounds_toArray, List.set_cons_zero, List.set_cons_succ]
          refine tk (i := 4) (oi := { dst := some 15, op := Op.build 77 #[(0, Operand.tmp 11), (1, Operand.tmp 14)], type := 77, pos := "law.go:24", after := #[⟨0, .data⟩, ⟨3, .data⟩], guard := none }) (v := .agg (penCells (ringN n) tb).toArray) rfl (fun wx hS => ?_) hH ?_
          · exact run_buildO _ 77 _ rfl _ _ (buildPen (ringN n) tb (ringN_length n) wx) rfl
          refine wpAnyH_ready (rs := [5]) (by kernel_rfl) (by simp) ?_
          refine AllReadyH.cons (o := { dst := some 16, op := Op.call { callee := Callee.value (Operand.func 32), args := #[Operand.tmp 15], argTypes := #[77] }, type := 27, pos := "law.go:24", after := #[⟨4, .data⟩, ⟨3, .chain⟩], guard := none }) rfl (fun KK hKK => ?_) AllReadyH.nil
          go_simp
          have HTB0 := HTB.1
          with_reducible refine (new_any (penCells (ringN n) tb) (penCells_length _ _ (ringN_length n)) x2_1_4).mono ?_
          rintro e x2_1_5 ⟨wb, rfl, hlo, hnb, kb⟩
          replace q_ga := q_ga.keep kb
          replace HTB := And.intro (HTB.1.below kb) HTB.2
          replace q_gb := q_gb.keep kb
          replace q_rp := And.intro (q_rp.1.below kb q_rp.1.lt) q_rp.2
          have HWB := And.intro hnb (And.intro (Nat.le_trans hH.size hlo) (And.intro (fun (x : Addr) (hx : fa = some x) => Nat.lt_of_lt_of_le (tape_lt HTB0 hx) hlo) (Nat.lt_of_lt_of_le HTB0.is.lt hlo)))
          clear hnb hlo HTB0
          have hN := hH.trans (kb.mono hH.size)
          clear hH kb
          refine hKK.out _ _ hN (fun hH => ?_)
          clear hKK KK hN
          try simp only [Act.put, List.setIfInBounds_toArray, List.set_cons_zero, List.set_cons_succ]
          refine wpAnyH_ready (rs := [12]) (by kernel_rfl) (by simp) ?_
          refine AllReadyH.cons (o := { dst := some 2, op := Op.assign (Operand.tmp 16), type := 27, pos := "law.go:24", after := #[⟨5, .data⟩, ⟨5, .chain⟩, ⟨0, .phase⟩, ⟨1, .phase⟩, ⟨2, .phase⟩, ⟨3, .phase⟩, ⟨4, .phase⟩, ⟨5, .phase⟩, ⟨6, .textOnly .lateStores⟩, ⟨7, .textOnly .lateStores⟩, ⟨8, .textOnly .lateStores⟩, ⟨9, .textOnly .lateStores⟩, ⟨10, .textOnly .lateStores⟩, ⟨11, .textOnly .lateStores⟩], guard := none }) rfl (fun KK hKK => ?_) AllReadyH.nil
          go_simp
          refine hKK.out _ _ hH (fun hH => ?_)
          clear hKK KK
          try simp only [Act.put, List.setIfInBounds_toArray, List.set_cons_zero, List.set_cons_succ]
          refine wpAnyH_listed (L2 := #[true, true, true, true, true, true, true, true, true, true, true, true, true, false]) (by kernel_rfl) ?_
          exact REST ga tb fa fc wb gb rp x2_1_5 ⟨hH, True.intro, q_ga, HTB, HWB, q_gb, q_rp⟩
  case rest2_1_ =>
    rintro ga tb fa fc wb gb rp z1 ⟨hH, -, q_ga, HTB, HWB, q_gb, q_rp⟩
    refine wpAnyH_ready (rs := [13]) (by kernel_rfl) (by simp) ?_
    refine AllReadyH.cons (o := { dst := some 3, op := Op.assign (Operand.tmp 22), type := 36, pos := "law.go:24", after := #[⟨11, .data⟩, ⟨12, .chain⟩, ⟨0, .phase⟩, ⟨1, .phase⟩, ⟨2, .phase⟩, ⟨3, .phase⟩, ⟨4, .phase⟩, ⟨5, .phase⟩, ⟨6, .phase⟩, ⟨7, .phase⟩, ⟨8, .phase⟩, ⟨9, .phase⟩, ⟨10, .phase⟩, ⟨11, .phase⟩, ⟨12, .phase⟩], guard := none }) rfl (fun KK hKK => ?_) AllReadyH.nil
    go_simp
    refine hKK.out _ _ hH (fun hH => ?_)
    clear hKK KK
    try simp only [Act.put, List.setIfInBounds_toArray, List.set_cons_zero, List.set_cons_succ]
    refine wpAnyH_done (by kernel_rfl) ?_ _
    refine NoPanic.normal ?_
    obtain ⟨c1, c2, c3⟩ := HTB
    obtain ⟨d1, d2, d3, d4⟩ := HWB
    have B4 := B3.out.trans (hH.mono B3.out.size)
    have g1 := T3.out.2.2.1
    have g2 := T3.out.2.2.2
    go_wp2_with fail
    refine bodyPost_ret (v := .tuple #[.pointer (some ⟨wb, 0, none⟩), .pointer (some ⟨rp, 0, none⟩)]) (results_tmp2 (t := 2) (u := 3) rfl _ _ _) rfl ?_
    have q1 := d1.lt
    have q2 := c1.is.lt
    have q3 := hH.size
    have q4 := B3.out.size
    refine ⟨wb, tb, fa, fc, rp, rfl, ⟨d1, c1, World.ownsRow_nil _ _ _ _, World.ownsRow_nil _ _ _ _, Or.inl ⟨rfl, rfl⟩, fun x hx => ⟨Nat.lt_trans (d3 x hx) q1, Nat.ne_of_lt (d3 x hx)⟩, q1, q2, ⟨by omega, by omega, by omega, by omega, by omega, by omega⟩, Nat.le_refl _⟩, by omega, by omega, by have := q_rp.2; omega, fun x hx => Nat.le_trans q4 (c3 x hx), q_rp.1, B4⟩
end Go.Proofs.YtfhlcondnaahiaaDoor
