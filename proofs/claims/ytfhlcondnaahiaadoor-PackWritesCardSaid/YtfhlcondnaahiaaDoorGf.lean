/- The document's own block: words() and fold. -/
import Derived.Test.YtfhlcondnaahiaaDoorGc
import Derived.Deep.RegionHeld3
import Derived.Deep.RegionLaw
import Derived.StillTailTactics
import Derived.BigRegion
import Derived.Test.YtfhlcondnaahiaaDoorGd
section
namespace Go.Proofs.YtfhlcondnaahiaaDoor
open Go.RowKit Sha

theorem below_drewN' {B : Nat} {a w : World} (h : Below B a w) (n : Nat) : Below B a (w.drewN n) := ⟨h.os, h.tape, h.output, h.size, h.block⟩
def mix2 (r R : Reg) (k : Nat) : Nat → W := fun j => if j < k then R.list.getD j 0 + r.list.getD j 0 else R.list.getD j 0
theorem add_get (r R : Reg) (j : Nat) (h : j < 8) : U (R.list.getD j 0 + r.list.getD j 0) = U ((r.add R).list.getD j 0) := by
  rw [BitVec.add_comm]
  match j, h with
  | 0, _ => rfl
  | 1, _ => rfl
  | 2, _ => rfl
  | 3, _ => rfl
  | 4, _ => rfl
  | 5, _ => rfl
  | 6, _ => rfl
  | 7, _ => rfl
set_option maxRecDepth 100000 in
theorem words_any (w : World) :
    Calls Tryd.prog 95 #[] w fun e w' => e = .returned (.slice (some ⟨w.heap.size, 0, none⟩) 64 64) ∧ blockIs w' w.heap.size (cells32 (fill32 consts) 64) 131 ∧ Below w.heap.size w w' ∧ w'.heap.size = w.heap.size + 1 := by
  go_enter Tryd.func95, Tryd.ntmps95
  go_wp2
  go_ret
  exact ⟨rfl, blockIs.new w (cells32 (fill32 consts) 64) 131, (Below.refl _ w).alloc (Nat.le_refl _) _, by simp⟩

set_option maxRecDepth 100000 in
theorem word_add (a b c d : UInt8) : ofB a <<< 24 + ofB b <<< 16 + ofB c <<< 8 + ofB d = word a b c d := by
  apply BitVec.eq_of_toNat_eq
  have ha := a.toNat_lt
  have hb := b.toNat_lt
  have hc := c.toNat_lt
  have hd := d.toNat_lt
  unfold word ofB
  rw [BitVec.toNat_add, BitVec.toNat_add, BitVec.toNat_add, BitVec.toNat_or, BitVec.toNat_or, BitVec.toNat_or, BitVec.toNat_shiftLeft, BitVec.toNat_shiftLeft, BitVec.toNat_shiftLeft, BitVec.toNat_ofNat, BitVec.toNat_ofNat, BitVec.toNat_ofNat, BitVec.toNat_ofNat]
  generalize a.toNat = A at *
  generalize b.toNat = B at *
  generalize c.toNat = C at *
  generalize d.toNat = D at *
  have m1 : (A % 2 ^ 32) <<< 24 % 2 ^ 32 = A <<< 24 := by rw [Nat.shiftLeft_eq, Nat.shiftLeft_eq]; omega
  have m2 : (B % 2 ^ 32) <<< 16 % 2 ^ 32 = B <<< 16 := by rw [Nat.shiftLeft_eq, Nat.shiftLeft_eq]; omega
  have m3 : (C % 2 ^ 32) <<< 8 % 2 ^ 32 = C <<< 8 := by rw [Nat.shiftLeft_eq, Nat.shiftLeft_eq]; omega
  have m4 : D % 2 ^ 32 = D := by omega
  have e3 := Nat.shiftLeft_add_eq_or_of_lt (i := 8) (b := D) (by omega) C
  have e2 := Nat.shiftLeft_add_eq_or_of_lt (i := 16) (b := C <<< 8 + D) (by rw [Nat.shiftLeft_eq]; omega) B
  have e1 := Nat.shiftLeft_add_eq_or_of_lt (i := 24) (b := B <<< 16 + (C <<< 8 + D)) (by rw [Nat.shiftLeft_eq, Nat.shiftLeft_eq]; omega) A
  rw [m1, m2, m3, m4, Nat.or_assoc, Nat.or_assoc, ← e3, ← e2, ← e1]
  have b1 : A <<< 24 = A * 16777216 := Nat.shiftLeft_eq _ _
  have b2 : B <<< 16 = B * 65536 := Nat.shiftLeft_eq _ _
  have b3 : C <<< 8 = C * 256 := Nat.shiftLeft_eq _ _
  rw [b1, b2, b3]
  omega
theorem info43 : (Tryd.prog.info? 131).map (fun i => (i.zero, i.size, i.bytes)) = some (some (.int .u32 0), 1, 4) := by kernel_rfl
theorem regs_get' (r : Reg) (k : Nat) (h : k < 8) : (regCells r)[k]? = some (.int .u32 (U (r.list.getD k 0))) := by
  have := regs_get r k h
  simpa [regCells, Reg.list] using this
theorem mk64 (w : World) : (Instr.makeSlice 151 (.int .i64 64) (.int .i64 64)).run Tryd.prog w = .ok (.slice (some ⟨w.heap.size, 0, none⟩) 64 64) (w.alloc (.cells (cells32 (fill32 []) 64).toArray 131 (0, 0))) := by kernel_rfl

attribute [local go_sem] V_wrap32 V_mod32 U_wrap U_shl8 U_shl16 U_shl24 U_shlw8 U_shlw16 U_shlw24 U_or U_xor U_and U_not U_not2 U_add U_addw U_shr3 U_shr10

set_option maxRecDepth 100000 in
set_option maxHeartbeats 2000000 in
theorem fold_any (rb bb bo n c rc : Nat) (_ : TypeId) (r : Reg) (l : List UInt8) (w : World) (hn : 64 ≤ n) (hc : n ≤ 9223372036854775807)
    (hb : ∀ j, j < 64 → w.cell? ⟨bb, bo + j, none⟩ = some (.int .u8 (V (l.getD j 0)))) (hr : ∀ j x, r.list[j]? = some x → w.cell? ⟨rb, 0 + j, none⟩ = some (.int .u32 (U x))) :
    Calls Tryd.prog 80 #[.slice (some ⟨rb, 0, none⟩) 8 rc, .slice (some ⟨bb, bo, none⟩) n c] w fun e w' => ∃ g gc, e = .returned (.slice (some ⟨g, 0, none⟩) 8 gc) ∧ w.heap.size ≤ g ∧ (∀ j x, (block r l).list[j]? = some x → w'.cell? ⟨g, j, none⟩ = some (.int .u32 (U x))) ∧ Below w.heap.size w w' := by
  have HB := Lib.hid hb
  have HR := Lib.hid hr
  have hbb : bb < w.heap.size := block_lt_of_cell (hb 0 (by omega))
  clear hb hr
  have hmk := mk64
  go_enter Tryd.func80, Tryd.ntmps80
  go_wp2_with fail
  refine (words_any _).mono ?_
  rintro e w1 ⟨rfl, k1, k2, k3⟩
  have K1 := Lib.hid k1
  have K2 := Lib.hid k2
  have K3 := Lib.hid k3
  clear k1 k2 k3
  go_wp2_with fail
  have G1 : Hid (blockIs (w1.alloc (.cells (cells32 (fill32 []) 64).toArray 131 (0, 0))) w1.heap.size (cells32 (fill32 (Sha.words l 0)) 64) 131) := Lib.hid (blockIs.new w1 _ _)
  have G2 : Hid (blockIs (w1.alloc (.cells (cells32 (fill32 []) 64).toArray 131 (0, 0))) w.heap.size (cells32 (fill32 consts) 64) 131) := Lib.hid (K1.out.alloc _)
  have G3 : Hid (Below w.heap.size w (w1.alloc (.cells (cells32 (fill32 []) 64).toArray 131 (0, 0)))) := Lib.hid (K2.out.alloc K2.out.size _)
  have G4 : Hid (w.heap.size < w1.heap.size) := Lib.hid (by rw [K3.out]; omega)
  generalize w1.alloc (.cells (cells32 (fill32 []) 64).toArray 131 (0, 0)) = w2 at *
  clear hmk K1 K2 K3
  go_loopw [7] (fun i wr => ∃ k : Nat, k ≤ 64 ∧ i = .int .i64 k ∧ blockIs wr w1.heap.size (cells32 (fill32 (Sha.words l k)) 64) 131 ∧ But w1.heap.size w2 wr) (fun i _ => 64 - (intOf i).toNat)
  case atStart => exact ⟨0, by omega, rfl, G1.out, But.refl _ _⟩
  case round =>
    obtain ⟨k, hk, rfl, h1, h2⟩ := hrel
    have hB : Below w.heap.size w wr := G3.out.trans (h2.below (by have := G4.out; omega) (by have := G3.out.size; omega))
    by_cases hlt : k < 16
    · have c0 : wr.cell? ⟨bb, bo + 4 * k, none⟩ = some (.int .u8 (V (l.getD (4 * k) 0))) := by rw [hB.cell hbb]; exact HB.out (4 * k) (by omega)
      have c1 : wr.cell? ⟨bb, bo + (4 * k + 1), none⟩ = some (.int .u8 (V (l.getD (4 * k + 1) 0))) := by rw [hB.cell hbb]; exact HB.out (4 * k + 1) (by omega)
      have c2 : wr.cell? ⟨bb, bo + (4 * k + 2), none⟩ = some (.int .u8 (V (l.getD (4 * k + 2) 0))) := by rw [hB.cell hbb]; exact HB.out (4 * k + 2) (by omega)
      have c3 : wr.cell? ⟨bb, bo + (4 * k + 3), none⟩ = some (.int .u8 (V (l.getD (4 * k + 3) 0))) := by rw [hB.cell hbb]; exact HB.out (4 * k + 3) (by omega)
      have c4 : wr.frozen? ⟨w1.heap.size, k, none⟩ = false := h1.free k
      obtain ⟨z, c5⟩ : ∃ z, wr.cell? ⟨w1.heap.size, k, none⟩ = some z := ⟨_, h1.at k (by rw [cells32_length]; omega)⟩
      have H1 := Lib.hid h1
      have H2 := Lib.hid h2
      clear h1 h2 hB
      have i0 : IntKind.i64.wrap (4 * (k : Int)) = 4 * (k : Int) := IntWalk.i64_in _ (by omega)
      have i1 : IntKind.i64.wrap (4 * (k : Int) + 1) = 4 * (k : Int) + 1 := IntWalk.i64_in _ (by omega)
      have i2 : IntKind.i64.wrap (4 * (k : Int) + 2) = 4 * (k : Int) + 2 := IntWalk.i64_in _ (by omega)
      have i3 : IntKind.i64.wrap (4 * (k : Int) + 3) = 4 * (k : Int) + 3 := IntWalk.i64_in _ (by omega)
      have n0 : (4 * (k : Int)).toNat = 4 * k := by omega
      have n1 : (4 * (k : Int) + 1).toNat = 4 * k + 1 := by omega
      have n2 : (4 * (k : Int) + 2).toNat = 4 * k + 2 := by omega
      have n3 : (4 * (k : Int) + 3).toNat = 4 * k + 3 := by omega
      have p0 : 0 ≤ 4 * (k : Int) := by omega
      have p1 : 0 ≤ 4 * (k : Int) + 1 := by omega
      have p2 : 0 ≤ 4 * (k : Int) + 2 := by omega
      have p3 : 0 ≤ 4 * (k : Int) + 3 := by omega
      have q0 : 4 * (k : Int) < n := by omega
      have q1 : 4 * (k : Int) + 1 < n := by omega
      have q2 : 4 * (k : Int) + 2 < n := by omega
      have q3 : 4 * (k : Int) + 3 < n := by omega
      have p4 : 0 ≤ (k : Int) := by omega
      have q4 : (k : Int) < 64 := by omega
      have q5 : (k : Int) < 16 := by omega
      go_wp2_with fail
      go_still_tail 36, (by kernel_rfl)
      change wpList _ _ _ _ _ wr.drew
      go_wp2_with fail
      clear i0 i1 i2 i3 n0 n1 n2 n3
      have hw := words_length l k
      go_roundw
      case rel =>
        refine ⟨k + 1, by omega, by go_num, ?_, (H2.out.setCell _ _ (Or.inl rfl)).drewN 1⟩
        have e := cells32_fill_set (Sha.words l k) 64 (by omega) (wordAt l k)
        rw [hw] at e
        have hs := H1.out.set k (.int .u32 (U (wordAt l k)))
        rw [e, ← words_lo l k hlt] at hs
        rw [word_add]
        exact hs
      case measure => simp [intOf]; omega
    · by_cases hlt2 : k < 64
      · have hw := words_length l k
        have c15 : wr.cell? ⟨w1.heap.size, k - 15, none⟩ = some (.int .u32 (U (fill32 (Sha.words l k) (k - 15)))) := by rw [h1.cell]; exact cells32_get _ _ _ (by omega)
        have c2 : wr.cell? ⟨w1.heap.size, k - 2, none⟩ = some (.int .u32 (U (fill32 (Sha.words l k) (k - 2)))) := by rw [h1.cell]; exact cells32_get _ _ _ (by omega)
        have c16 : wr.cell? ⟨w1.heap.size, k - 16, none⟩ = some (.int .u32 (U (fill32 (Sha.words l k) (k - 16)))) := by rw [h1.cell]; exact cells32_get _ _ _ (by omega)
        have c7 : wr.cell? ⟨w1.heap.size, k - 7, none⟩ = some (.int .u32 (U (fill32 (Sha.words l k) (k - 7)))) := by rw [h1.cell]; exact cells32_get _ _ _ (by omega)
        have c4 : wr.frozen? ⟨w1.heap.size, k, none⟩ = false := h1.free k
        obtain ⟨z, c5⟩ : ∃ z, wr.cell? ⟨w1.heap.size, k, none⟩ = some z := ⟨_, h1.at k (by rw [cells32_length]; omega)⟩
        have HW := Lib.hid hw
        have H1 := Lib.hid h1
        have H2 := Lib.hid h2
        clear hw h1 h2 hB
        have i15 : IntKind.i64.wrap ((k : Int) - 15) = (k : Int) - 15 := IntWalk.i64_in _ (by omega)
        have i2 : IntKind.i64.wrap ((k : Int) - 2) = (k : Int) - 2 := IntWalk.i64_in _ (by omega)
        have i16 : IntKind.i64.wrap ((k : Int) - 16) = (k : Int) - 16 := IntWalk.i64_in _ (by omega)
        have i7 : IntKind.i64.wrap ((k : Int) - 7) = (k : Int) - 7 := IntWalk.i64_in _ (by omega)
        have n15 : ((k : Int) - 15).toNat = k - 15 := by omega
        have n2 : ((k : Int) - 2).toNat = k - 2 := by omega
        have n16 : ((k : Int) - 16).toNat = k - 16 := by omega
        have n7 : ((k : Int) - 7).toNat = k - 7 := by omega
        have p15 : 0 ≤ (k : Int) - 15 := by omega
        have p2 : 0 ≤ (k : Int) - 2 := by omega
        have p16 : 0 ≤ (k : Int) - 16 := by omega
        have p7 : 0 ≤ (k : Int) - 7 := by omega
        have q15 : (k : Int) - 15 < 64 := by omega
        have q2 : (k : Int) - 2 < 64 := by omega
        have q16 : (k : Int) - 16 < 64 := by omega
        have q7 : (k : Int) - 7 < 64 := by omega
        have p : 0 ≤ (k : Int) := by omega
        have q : (k : Int) < 64 := by omega
        have q6 : ¬ (k : Int) < 16 := by omega
        have r16 : (16 : Int) ≤ k := by omega
        have r15 : (15 : Int) ≤ k := by omega
        have r2 : (2 : Int) ≤ k := by omega
        have r7 : (7 : Int) ≤ k := by omega
        have s16 : (k : Int) < 80 := by omega
        have s15 : (k : Int) < 79 := by omega
        have s2 : (k : Int) < 66 := by omega
        have s7 : (k : Int) < 71 := by omega
        go_wp2_with fail
        go_quiet (first | (go_at_call 96; exact Calls.quiet_of (turn_any _ _ _ (by unfold Turn; decide))))
        replace c2 : (wr.drewN nq).cell? ⟨w1.heap.size, k - 2, none⟩ = _ := c2
        replace c16 : (wr.drewN nq).cell? ⟨w1.heap.size, k - 16, none⟩ = _ := c16
        replace c7 : (wr.drewN nq).cell? ⟨w1.heap.size, k - 7, none⟩ = _ := c7
        replace c4 : (wr.drewN nq).frozen? ⟨w1.heap.size, k, none⟩ = _ := c4
        replace c5 : (wr.drewN nq).cell? ⟨w1.heap.size, k, none⟩ = _ := c5
        replace H1 : Hid (blockIs (wr.drewN nq) _ _ _) := H1
        replace H2 : Hid (But _ w2 (wr.drewN nq)) := Lib.hid (H2.out.drewN nq)
        clear c15
        generalize wr.drewN nq = wq at *
        go_wp2_with fail
        go_quiet (first | (go_at_call 96; exact Calls.quiet_of (turn_any _ _ _ (by unfold Turn; decide))))
        replace c16 : (wq.drewN nq).cell? ⟨w1.heap.size, k - 16, none⟩ = _ := c16
        replace c7 : (wq.drewN nq).cell? ⟨w1.heap.size, k - 7, none⟩ = _ := c7
        replace c4 : (wq.drewN nq).frozen? ⟨w1.heap.size, k, none⟩ = _ := c4
        replace c5 : (wq.drewN nq).cell? ⟨w1.heap.size, k, none⟩ = _ := c5
        replace H1 : Hid (blockIs (wq.drewN nq) _ _ _) := H1
        replace H2 : Hid (But _ w2 (wq.drewN nq)) := Lib.hid (H2.out.drewN nq)
        clear c2
        generalize wq.drewN nq = wp at *
        go_wp2_with fail
        go_still_tail 18, (by kernel_rfl)
        change wpList _ _ _ _ _ wp.drew
        go_wp2_with fail
        clear i15 i2 i16 i7 n15 n2 n16 n7
        go_roundw
        case rel =>
          refine ⟨k + 1, by omega, by go_num, ?_, (H2.out.setCell _ _ (Or.inl rfl)).drewN 1⟩
          have e := words_hi l k hlt
          have hs := H1.out.set k (.int .u32 (U (nextW (Sha.words l k))))
          have ef := cells32_fill_set (Sha.words l k) 64 (by rw [HW.out]; omega) (nextW (Sha.words l k))
          rw [HW.out] at ef
          rw [ef, ← e] at hs
          have en : nextW (Sha.words l k) = fill32 (Sha.words l k) (k - 16) + sg0 (fill32 (Sha.words l k) (k - 15)) + fill32 (Sha.words l k) (k - 7) + sg1 (fill32 (Sha.words l k) (k - 2)) := by
            unfold nextW fill32; rw [HW.out]
          rw [en] at hs
          exact hs
        case measure => simp [intOf]; omega
      · obtain rfl : k = 64 := by omega
        rw [show ((64 : Nat) : Int) = 64 from rfl]
        have H1 := Lib.hid h1
        have H2 := Lib.hid h2
        have HBW := Lib.hid hB
        clear h1 h2 hB hlt hlt2 hk
        have own0 : (wr.alloc (.cells #[] 131 (0, 0))).ownsRow wr.heap.size 131 1 (.slice (some ⟨wr.heap.size, 0, none⟩) 0 0) 0 [] :=
          ⟨rfl, Or.inr ⟨wr.heap.size, 0, #[], rfl, Nat.le_refl _, heap_alloc_new wr _, Nat.le_refl _, Nat.zero_le _, rfl, rfl⟩⟩
        have hrl : rb < w.heap.size := block_lt_of_cell (HR.out 0 r.a rfl)
        have hnews : ∀ j u, (regCells r)[j]? = some u → (wr.alloc (.cells #[] 131 (0, 0))).cell? ((⟨rb, 0, none⟩ : Addr).add j) = some u := by
          intro j u hj
          have hBa := HBW.out.alloc HBW.out.size (.cells #[] 131 (0, 0))
          rw [Addr.add_lit, hBa.cell hrl]
          unfold regCells at hj
          rw [List.getElem?_map] at hj
          obtain ⟨x, hx, rfl⟩ := Option.map_eq_some_iff.1 hj
          exact HR.out j x hx
        have hone : ∀ u ∈ regCells r, u.oneCell' = true := by
          intro u hu
          obtain ⟨_, _, rfl⟩ := List.mem_map.1 hu
          rfl
        obtain ⟨i0, hi, hz0, hz1, hz2⟩ := info_parts info43
        have OWN := Lib.hid own0
        have NEWS := Lib.hid hnews
        have ONE := Lib.hid hone
        clear own0 hnews hone
        go_wp2_with (refine wpList_append_own _ rfl _ _ 151 rfl wr.heap.size 131 i0 (.int .u32 0) 1 4 Tryd.underlying151 hi hz0 hz1 hz2 rfl (by decide) _ 0 [] rfl OWN.out ⟨rb, 0, none⟩ 8 rc (regCells r) rfl rfl NEWS.out ONE.out (by unfold maxLen; omega) (by omega) (by simp) ?_)
        intro v3 w3 o1 o2 _
        obtain ⟨_, o1⟩ := o1
        rcases o1 with ⟨_, h0⟩ | ⟨g, gc, cur, rfl, hge, hheap, hgc, hgm, hcs, htk⟩
        · simp at h0
        have g1 : Hid (∀ j, j < 8 → w3.cell? ⟨g, j, none⟩ = some (.int .u32 (U (r.list.getD j 0)))) := Lib.hid (by
          intro j hj
          rw [cell_of_row w3 g j cur 131 (0, 0) hheap]
          have : (cur.toList.take (8 * 1))[j]? = (regCells r)[j]? := by simpa using congrArg (fun l => l[j]?) htk
          rw [List.getElem?_take, if_pos (by omega)] at this
          rw [← Array.getElem?_toList, this]
          exact regs_get' r j hj)
        have g2 : Hid (∀ j, w3.frozen? ⟨g, j, none⟩ = false) := Lib.hid fun j => frozen_of_row w3 g j cur 131 hheap
        have g3 : Hid (Below w.heap.size w w3) := Lib.hid ((HBW.out.alloc HBW.out.size _).trans ⟨o2.os, o2.tape, o2.output, o2.size, fun k hk => o2.block k (by have := HBW.out.size; simp; omega) (by have := HBW.out.size; simp [Value.ownBlock]; omega)⟩)
        have g4 : Hid (blockIs w3 w1.heap.size (cells32 (fill32 (Sha.words l 64)) 64) 131) := Lib.hid (by
          have := H1.out.alloc (.cells #[] 131 (0, 0))
          unfold blockIs at this ⊢
          rw [o2.block _ (blockIs.lt this) (by have := H1.out.lt; simp [Value.ownBlock]; omega)]
          exact this)
        have g5 : Hid (blockIs w3 w.heap.size (cells32 (fill32 consts) 64) 131) := Lib.hid (by
          have := (H2.out.is G2.out (by have := G4.out; omega)).alloc (.cells #[] 131 (0, 0))
          unfold blockIs at this ⊢
          rw [o2.block _ (blockIs.lt this) (by have := H1.out.lt; have := G4.out; simp [Value.ownBlock]; omega)]
          exact this)
        have g6 : Hid (w1.heap.size < g) := Lib.hid (by have := H1.out.lt; omega)
        clear o2 hheap htk hcs hge hgm H1 H2 HBW OWN NEWS ONE G1 G2 G3 hi hz0 hz1 hz2
        go_wp2_with fail
        go_loopw [11, 10] (fun i v wr => ∃ (k g gc : Nat), k ≤ 64 ∧ i = .int .i64 k ∧ v = .slice (some ⟨g, 0, none⟩) 8 gc ∧ 8 ≤ gc ∧ w1.heap.size < g ∧ (∀ j, j < 8 → wr.cell? ⟨g, j, none⟩ = some (.int .u32 (U ((rounds (Sha.words l 64) k r).list.getD j 0)))) ∧ (∀ j, wr.frozen? ⟨g, j, none⟩ = false) ∧ Below w.heap.size w wr ∧ blockIs wr w1.heap.size (cells32 (fill32 (Sha.words l 64)) 64) 131 ∧ blockIs wr w.heap.size (cells32 (fill32 consts) 64) 131) (fun i _ _ => 64 - (intOf i).toNat)
        case atStart => exact ⟨0, g, gc, by omega, rfl, rfl, hgc, g6.out, g1.out, g2.out, g3.out, g4.out, g5.out⟩
        case round =>
          clear g1 g2 g3 g4 g5 g6 hgc
          obtain ⟨k, g, gc, hk, rfl, rfl, hgc, h6, h1, h2, h3, h4, h5⟩ := hrel
          by_cases hlt : k < 64
          · generalize hRR : rounds (Sha.words l 64) k r = R at *
            have d0 : wr.cell? ⟨g, 0, none⟩ = some (.int .u32 (U R.a)) := h1 0 (by omega)
            have d1 : wr.cell? ⟨g, 1, none⟩ = some (.int .u32 (U R.b)) := h1 1 (by omega)
            have d2 : wr.cell? ⟨g, 2, none⟩ = some (.int .u32 (U R.c)) := h1 2 (by omega)
            have d3 : wr.cell? ⟨g, 3, none⟩ = some (.int .u32 (U R.d)) := h1 3 (by omega)
            have d4 : wr.cell? ⟨g, 4, none⟩ = some (.int .u32 (U R.e)) := h1 4 (by omega)
            have d5 : wr.cell? ⟨g, 5, none⟩ = some (.int .u32 (U R.f)) := h1 5 (by omega)
            have d6 : wr.cell? ⟨g, 6, none⟩ = some (.int .u32 (U R.g)) := h1 6 (by omega)
            have d7 : wr.cell? ⟨g, 7, none⟩ = some (.int .u32 (U R.h)) := h1 7 (by omega)
            have e1 : wr.cell? ⟨w.heap.size, k, none⟩ = some (.int .u32 (U (consts.getD k 0))) := by rw [h5.cell]; exact cells32_get _ _ _ hlt
            have e2 : wr.cell? ⟨w1.heap.size, k, none⟩ = some (.int .u32 (U (fill32 (Sha.words l 64) k))) := by rw [h4.cell]; exact cells32_get _ _ _ hlt
            have RR := Lib.hid hRR
            have H3 := Lib.hid h3
            have H4 := Lib.hid h4
            have H5 := Lib.hid h5
            have H6 := Lib.hid h6
            clear hRR h1 h2 h3 h4 h5 h6
            have p : 0 ≤ (k : Int) := by omega
            have q : (k : Int) < 64 := by omega
            generalize hkc : consts.getD k 0 = kc at *
            generalize hwc : fill32 (Sha.words l 64) k = wc at *
            have est : rounds (Sha.words l 64) (k + 1) r = ⟨R.h + Sg1 R.e + ch R.e R.f R.g + kc + wc + Sg0 R.a + maj R.a R.b R.c, R.a, R.b, R.c, R.d + (R.h + Sg1 R.e + ch R.e R.f R.g + kc + wc), R.e, R.f, R.g⟩ := by
              have e0 : rounds (Sha.words l 64) (k + 1) r = Sha.step R kc wc := by
                rw [← hkc, ← hwc]
                show Sha.step (rounds (Sha.words l 64) k r) _ _ = _
                rw [RR.out]
                rfl
              rw [e0]
              unfold Sha.step t1 t2
              rw [BitVec.add_comm wc, BitVec.add_assoc _ (Sg0 R.a)]
            have EST := Lib.hid est
            clear est hkc hwc
            go_wp2_with fail
            go_quiet (first | (go_at_call 96; exact Calls.quiet_of (turn_any _ _ _ (by unfold Turn; decide))))
            replace d0 : (wr.drewN nq).cell? _ = _ := d0
            replace d1 : (wr.drewN nq).cell? _ = _ := d1
            replace d2 : (wr.drewN nq).cell? _ = _ := d2
            replace d3 : (wr.drewN nq).cell? _ = _ := d3
            replace d4 : (wr.drewN nq).cell? _ = _ := d4
            replace d5 : (wr.drewN nq).cell? _ = _ := d5
            replace d6 : (wr.drewN nq).cell? _ = _ := d6
            replace d7 : (wr.drewN nq).cell? _ = _ := d7
            replace e1 : (wr.drewN nq).cell? _ = _ := e1
            replace e2 : (wr.drewN nq).cell? _ = _ := e2
            replace H3 : Hid (Below _ w (wr.drewN nq)) := Lib.hid (below_drewN' H3.out nq)
            replace H4 : Hid (blockIs (wr.drewN nq) _ _ _) := H4
            replace H5 : Hid (blockIs (wr.drewN nq) _ _ _) := H5
            generalize wr.drewN nq = wa at *
            go_wp2_with fail
            go_quiet (first | (go_at_call 96; exact Calls.quiet_of (turn_any _ _ _ (by unfold Turn; decide))))
            replace d0 : (wa.drewN nq).cell? _ = _ := d0
            replace d1 : (wa.drewN nq).cell? _ = _ := d1
            replace d2 : (wa.drewN nq).cell? _ = _ := d2
            replace d3 : (wa.drewN nq).cell? _ = _ := d3
            replace d4 : (wa.drewN nq).cell? _ = _ := d4
            replace d5 : (wa.drewN nq).cell? _ = _ := d5
            replace d6 : (wa.drewN nq).cell? _ = _ := d6
            replace d7 : (wa.drewN nq).cell? _ = _ := d7
            replace e1 : (wa.drewN nq).cell? _ = _ := e1
            replace e2 : (wa.drewN nq).cell? _ = _ := e2
            replace H3 : Hid (Below _ w (wa.drewN nq)) := Lib.hid (below_drewN' H3.out nq)
            replace H4 : Hid (blockIs (wa.drewN nq) _ _ _) := H4
            replace H5 : Hid (blockIs (wa.drewN nq) _ _ _) := H5
            generalize wa.drewN nq = wb at *
            go_wp2_with fail
            go_quiet (fail)
            replace d0 : (wb.drewN nq).cell? _ = _ := d0
            replace d1 : (wb.drewN nq).cell? _ = _ := d1
            replace d2 : (wb.drewN nq).cell? _ = _ := d2
            replace d3 : (wb.drewN nq).cell? _ = _ := d3
            replace d4 : (wb.drewN nq).cell? _ = _ := d4
            replace d5 : (wb.drewN nq).cell? _ = _ := d5
            replace d6 : (wb.drewN nq).cell? _ = _ := d6
            replace d7 : (wb.drewN nq).cell? _ = _ := d7
            replace e1 : (wb.drewN nq).cell? _ = _ := e1
            replace e2 : (wb.drewN nq).cell? _ = _ := e2
            replace H3 : Hid (Below _ w (wb.drewN nq)) := Lib.hid (below_drewN' H3.out nq)
            replace H4 : Hid (blockIs (wb.drewN nq) _ _ _) := H4
            replace H5 : Hid (blockIs (wb.drewN nq) _ _ _) := H5
            generalize wb.drewN nq = wc2 at *
            go_wp2_with fail
            go_quiet (fail)
            replace d0 : (wc2.drewN nq).cell? _ = _ := d0
            replace d1 : (wc2.drewN nq).cell? _ = _ := d1
            replace d2 : (wc2.drewN nq).cell? _ = _ := d2
            replace d3 : (wc2.drewN nq).cell? _ = _ := d3
            replace d4 : (wc2.drewN nq).cell? _ = _ := d4
            replace d5 : (wc2.drewN nq).cell? _ = _ := d5
            replace d6 : (wc2.drewN nq).cell? _ = _ := d6
            replace d7 : (wc2.drewN nq).cell? _ = _ := d7
            replace e1 : (wc2.drewN nq).cell? _ = _ := e1
            replace e2 : (wc2.drewN nq).cell? _ = _ := e2
            replace H3 : Hid (Below _ w (wc2.drewN nq)) := Lib.hid (below_drewN' H3.out nq)
            replace H4 : Hid (blockIs (wc2.drewN nq) _ _ _) := H4
            replace H5 : Hid (blockIs (wc2.drewN nq) _ _ _) := H5
            generalize wc2.drewN nq = wd at *
            go_wp2_with fail
            go_quiet (fail)
            replace d0 : (wd.drewN nq).cell? _ = _ := d0
            replace d1 : (wd.drewN nq).cell? _ = _ := d1
            replace d2 : (wd.drewN nq).cell? _ = _ := d2
            replace d3 : (wd.drewN nq).cell? _ = _ := d3
            replace d4 : (wd.drewN nq).cell? _ = _ := d4
            replace d5 : (wd.drewN nq).cell? _ = _ := d5
            replace d6 : (wd.drewN nq).cell? _ = _ := d6
            replace d7 : (wd.drewN nq).cell? _ = _ := d7
            replace e1 : (wd.drewN nq).cell? _ = _ := e1
            replace e2 : (wd.drewN nq).cell? _ = _ := e2
            replace H3 : Hid (Below _ w (wd.drewN nq)) := Lib.hid (below_drewN' H3.out nq)
            replace H4 : Hid (blockIs (wd.drewN nq) _ _ _) := H4
            replace H5 : Hid (blockIs (wd.drewN nq) _ _ _) := H5
            generalize wd.drewN nq = we at *
            go_wp2_with fail
            go_still_tail 28, (by kernel_rfl)
            change wpList _ _ _ _ _ we.drew
            go_wp2_with fail
            go_roundw
            case rel =>
              refine ⟨k + 1, we.heap.size, 8, by omega, by go_num, rfl, by omega, by have := H6.out; have := H4.out.lt; have := H5.out.lt; have hx := H3.out.size; have := block_lt_of_cell d0; simp at this; omega, ?_, fun j => frozen_of_row (we.alloc _) _ j _ 131 (heap_alloc_new we _), (H3.out.alloc H3.out.size _).drew, H4.out.alloc _, H5.out.alloc _⟩
              intro j hj
              rw [EST.out]
              exact (cell_of_row (we.alloc _) _ j _ 131 (0, 0) (heap_alloc_new we _)).trans (regs_get ⟨_, _, _, _, _, _, _, _⟩ j hj)
            case measure => simp [intOf]; omega
          · obtain rfl : k = 64 := by omega
            rw [show ((64 : Nat) : Int) = 64 from rfl]
            generalize hRR : rounds (Sha.words l 64) 64 r = R at *
            have RR := Lib.hid hRR
            have h0 : rb < w.heap.size := hrl
            have hrc : ∀ j, j < 8 → wr.cell? ⟨rb, j, none⟩ = some (.int .u32 (U (r.list.getD j 0))) := by
              intro j hj
              have := HR.out j (r.list.getD j 0) (by
                have : j < r.list.length := hj
                simp [this])
              rw [Nat.zero_add] at this
              exact (h3.cell (p := ⟨rb, j, none⟩) h0).trans this
            have HRC := Lib.hid hrc
            have M1 : Hid (∀ j, j < 8 → wr.cell? ⟨g, j, none⟩ = some (.int .u32 (U (mix2 r R 0 j)))) := Lib.hid fun j hj => by
              rw [h1 j hj]
              unfold mix2
              rw [if_neg (by omega)]
            have M2 := Lib.hid h2
            have M3 := Lib.hid h3
            have hgl : g < wr.heap.size := block_lt_of_cell (h1 0 (by omega))
            have H6 := Lib.hid h6
            have HGC := Lib.hid hgc
            have HG4 := Lib.hid (h4.lt)
            have HG5 := Lib.hid (h5.lt)
            clear hRR h1 h2 h3 h4 h5 h6 hrc hgc hlt hk
            go_wp2_with fail
            go_loopw [17] (fun i w6 => ∃ k : Nat, k ≤ 8 ∧ i = .int .i64 k ∧ (∀ j, j < 8 → w6.cell? ⟨g, j, none⟩ = some (.int .u32 (U (mix2 r R k j)))) ∧ (∀ j, w6.frozen? ⟨g, j, none⟩ = false) ∧ But g wr w6) (fun i _ => 8 - (intOf i).toNat)
            case atStart => exact ⟨0, by omega, rfl, M1.out, M2.out, But.refl _ _⟩
            case round =>
              obtain ⟨k, hk, rfl, h1, h2, h3⟩ := hrel
              by_cases hlt : k < 8
              · have c1 : wr.cell? ⟨g, k, none⟩ = some (.int .u32 (U (R.list.getD k 0))) := by
                  rw [h1 k hlt]
                  unfold mix2
                  rw [if_neg (by omega)]
                have c2 : wr.frozen? ⟨g, k, none⟩ = false := h2 k
                have c3 : wr.cell? ⟨rb, k, none⟩ = some (.int .u32 (U (r.list.getD k 0))) := h3.cell (HRC.out k hlt) (by have := H6.out; have := G4.out; show rb ≠ g; omega)
                have hnew : ∀ j, j < 8 → (wr.setCell ⟨g, k, none⟩ (.int .u32 (U (R.list.getD k 0 + r.list.getD k 0)))).cell? ⟨g, j, none⟩ = some (.int .u32 (U (mix2 r R (k + 1) j))) := by
                  intro j hj
                  by_cases e : j = k
                  · subst e
                    rw [World.cell?_setCell_same' wr _ _ (by rw [c1]; rfl)]
                    unfold mix2
                    rw [if_pos (by omega)]
                  · rw [World.cell?_setCell_other (h := fun h => e (by cases h; rfl)), h1 j hj]
                    unfold mix2
                    by_cases hjk : j < k
                    · rw [if_pos hjk, if_pos (by omega)]
                    · rw [if_neg hjk, if_neg (by omega)]
                have hfr : ∀ j, (wr.setCell ⟨g, k, none⟩ (.int .u32 (U (R.list.getD k 0 + r.list.getD k 0)))).frozen? ⟨g, j, none⟩ = false := fun j => by rw [World.frozen?_setCell]; exact h2 j
                have HNEW := Lib.hid hnew
                have HFR := Lib.hid hfr
                have H3 := Lib.hid h3
                clear h1 h2 h3 hnew hfr
                have p : 0 ≤ (k : Int) := by omega
                have q : (k : Int) < 8 := by omega
                have q2 : (k : Int) < 64 := by omega
                go_wp2_with fail
                go_still_tail 12, (by kernel_rfl)
                change wpList _ _ _ _ _ wr.drew
                go_wp2_with fail
                go_roundw
                case rel => exact ⟨k + 1, by omega, by go_num, HNEW.out, HFR.out, (H3.out.setCell _ _ (Or.inl rfl)).drewN 1⟩
                case measure => simp [intOf]; omega
              · obtain rfl : k = 8 := by omega
                rw [show ((8 : Nat) : Int) = 8 from rfl]
                have H1 := Lib.hid h1
                have H3 := Lib.hid h3
                clear h1 h2 h3
                go_wp2_with fail
                go_ret
                refine ⟨g, gc, rfl, by have := H6.out; have := G4.out; omega, ?_, M3.out.trans (H3.out.below (by have := H6.out; have := G4.out; omega) M3.out.size)⟩
                intro j x hx
                have hj : j < 8 := (List.getElem?_eq_some_iff.1 hx).1
                rw [H1.out j hj]
                unfold block sched at hx
                rw [RR.out] at hx
                unfold mix2
                rw [if_pos hj]
                have : (r.add R).list.getD j 0 = x := by simp [hx]
                rw [← this]
                congr 2
                exact add_get r R j hj
end Go.Proofs.YtfhlcondnaahiaaDoor
end
section
/- The document's own Of: SHA-256 of a text, as a text. -/
namespace Go.Proofs.YtfhlcondnaahiaaDoor
open Go.RowKit Sha

theorem str_size (l : List UInt8) : (str l).size = l.length := by simp [str, ByteArray.size]
theorem lit_in (w : World) (l : List UInt8) (cs : Array Value) (hcs : cs = (byteCells l).toArray) : bytesIn (w.alloc (.cells cs 5 (0, 0))) (some ⟨w.heap.size, 0, none⟩) l := by
  subst hcs
  refine Or.inr ⟨_, _, rfl, fun j hj => ?_⟩
  rw [Nat.zero_add, (blockIs.new w (byteCells l) 5).cell]
  exact byteCells_get _ _ hj
theorem alloc_below (w : World) (o : Obj) : Below w.heap.size w (w.alloc o) := (Below.refl _ _).alloc (Nat.le_refl _) _

def padTo (L : List UInt8) (n : Nat) : List UInt8 := L ++ (tail L.length).take n
theorem padTo_one (L : List UInt8) (j : Nat) (h : j < noughts L.length) : padTo L (1 + j) ++ [0] = padTo L (1 + (j + 1)) := by
  unfold padTo tail
  rw [Nat.add_comm 1 j, Nat.add_comm 1 (j + 1), List.take_succ_cons, List.take_succ_cons, List.take_append_of_le_length (by simp; omega), List.take_append_of_le_length (by simp; omega), List.take_replicate, List.take_replicate,
    Nat.min_eq_left (by omega), Nat.min_eq_left (by omega), List.replicate_succ', List.append_assoc]
  simp
theorem padTo_len (L : List UInt8) (n : Nat) (h : n ≤ noughts L.length + 9) : (padTo L n).length = L.length + n := by
  unfold padTo
  rw [List.length_append, List.length_take, tail_length]
  omega
theorem padTo_eight (L : List UInt8) (k : Nat) (h : k < 8) : padTo L (1 + noughts L.length + k) ++ [(eight (8 * L.length % 2 ^ 64)).getD k 0] = padTo L (1 + noughts L.length + (k + 1)) := by
  unfold padTo
  rw [List.append_assoc]
  congr 1
  have hl := tail_length L.length
  rw [show 1 + noughts L.length + (k + 1) = (1 + noughts L.length + k) + 1 by omega, List.take_succ_eq_append_getElem (by omega)]
  congr 1
  unfold tail
  simp only [List.cons.injEq, and_true]
  have e : (0x80 :: (List.replicate (noughts L.length) 0 ++ eight (8 * L.length % 2 ^ 64)))[1 + noughts L.length + k]? = (eight (8 * L.length % 2 ^ 64))[k]? := by
    rw [show 1 + noughts L.length + k = (noughts L.length + k) + 1 by omega, List.getElem?_cons_succ, List.getElem?_append_right (by simp)]
    simp
  rw [List.getD_eq_getElem?_getD, ← e]
  rw [List.getElem?_eq_getElem]
  rfl
theorem padTo_all (L : List UInt8) : padTo L (1 + noughts L.length + 8) = pad L := by
  unfold padTo pad
  rw [List.take_of_length_le (by rw [tail_length]; omega)]
theorem pad_mod (L : List UInt8) : (pad L).length % 64 = 0 := by
  rw [← padTo_all, padTo_len _ _ (by omega)]
  unfold noughts
  omega

theorem out_take (R : Reg) (k : Nat) (h : k < 8) : (out R).take (4 * k) ++ [toB (R.list.getD k 0 >>> 24), toB (R.list.getD k 0 >>> 16), toB (R.list.getD k 0 >>> 8), toB (R.list.getD k 0)] = (out R).take (4 * (k + 1)) := by
  match k, h with
  | 0, _ => rfl
  | 1, _ => rfl
  | 2, _ => rfl
  | 3, _ => rfl
  | 4, _ => rfl
  | 5, _ => rfl
  | 6, _ => rfl
  | 7, _ => rfl
theorem bytesIn_rest {w : World} {bb bo : Nat} {l : List UInt8} (h : ∀ j, j < l.length → w.cell? ⟨bb, bo + j, none⟩ = some (.int .u8 (V (l.getD j 0)))) (c k : Nat) (hk : k ≤ l.length) (hc : l.length ≤ c) :
    bytesIn w (if c = k then some ⟨bb, bo, none⟩ else some ⟨bb, bo + k, none⟩) (l.drop k) := by
  rcases bytesAt_rest (b := bb + 1) (by omega) h c k hk hc with h | ⟨x, y, h1, _, h3⟩
  · exact Or.inl h
  · exact Or.inr ⟨x, y, h1, h3⟩
theorem blocks_step (R : Reg) (d : List UInt8) (h : d.length % 64 = 0) (h0 : 0 < d.length) : Sha.blocks (d.length / 64) R d = Sha.blocks ((d.drop 64).length / 64) (block R d) (d.drop 64) := by
  rw [List.length_drop, show d.length / 64 = (d.length - 64) / 64 + 1 by omega]
  rfl
theorem drew_alloc_below (w : World) (o : Obj) : Below w.heap.size w (w.drew.alloc o) := (below_drewN' (Below.refl _ w) 1).alloc (Nat.le_refl _) _
theorem step_appendM_if {w : World} {ops : Array Oper} {o : Oper} {a : Act} {K : Act → World → Prop} {Q : Exit → Act → World → Prop} {E : Prop} (hgd : o.guard = none) (s x : Operand)
    (ho : o.op = .call { callee := .builtin .append, args := #[s, x], argTypes := #[30, 30] })
    (base : Nat) (v : Value) (xs : List UInt8) (hs : a.eval s = v) (hown : rowM w base v xs) (A : Option Addr) (n c : Nat) (l : List UInt8) (hnl : n = l.length) (hx : a.eval x = .slice A n c)
    (hz : 0 < l.length) (hb : bytesIn w A l) (hn : xs.length + l.length ≤ 1000000) (hbase : base ≤ w.heap.size)
    (h : ∀ v' w', rowM w' base v' (xs ++ l) → w.grownBy w' v.ownBlock → K (a.put o.dst v') w') : if Region.wanted o (yielded ops a.tmps) = true then Oper.wp Tryd.prog o a w K Q else E := by
  have hw : Region.wanted o (yielded ops a.tmps) = true := by simp [Region.wanted, hgd]
  rw [if_pos hw]
  exact step_appendM s x ho base v xs hs hown A n c l hnl hx hz hb hn hbase h
theorem rowM.empty (w : World) (base : Nat) : rowM w base (.slice none 0 0) [] := ⟨rfl, .inl ⟨rfl, rfl⟩⟩
attribute [local go_sem] U_wrap8 V_toB U_shr8 U_shr16 U_shr24

set_option maxRecDepth 100000 in
set_option maxHeartbeats 4000000 in
theorem rof_any (L : List UInt8) (w : World) (hL : L.length ≤ 100000) :
    Calls Tryd.prog 57 #[.string (str L)] w fun e w' => e = .returned (.string (str (sha L))) ∧ Below w.heap.size w w' := by
  obtain ⟨X, cap, hconv, hrow, hbel⟩ : ∃ X cap, (convert 9 30 (.string (str L))).run Tryd.prog w = .ok (.slice (some ⟨w.heap.size, 0, none⟩) L.length cap) X ∧ rowM X w.heap.size (.slice (some ⟨w.heap.size, 0, none⟩) L.length cap) L ∧ Below w.heap.size w X :=
    ⟨_, _, conv_bytes w L, rowM.conv w w.heap.size L (Nat.le_refl _) (by omega), conv_below w L⟩
  have R0 := Lib.hid (hrow.below (alloc_below X (.cells #[.int .u8 128] 5 (0, 0))) (Nat.le_refl _))
  have B0 := Lib.hid (hbel.alloc hbel.size (.cells #[.int .u8 128] 5 (0, 0)))
  have I0 := Lib.hid (lit_in X [128] #[.int .u8 128] rfl)
  have HSZ := Lib.hid (str_size L)
  clear hrow hbel
  go_enter Tryd.func57, Tryd.ntmps57
  go_wp2_with (refine append_M rfl _ _ rfl w.heap.size _ L rfl R0.out _ 1 1 [128] rfl rfl (by decide) I0.out (by simp; omega) B0.out.size ?_)
  intro v1 w1 h1 h2
  have h2 := R0.out.grown h2 B0.out.size
  rw [show L ++ [128] = padTo L (1 + 0) by simp [padTo, tail]] at h1
  have R1 := Lib.hid h1
  have B1 := Lib.hid (B0.out.trans h2)
  clear h1 h2 R0 B0 I0 hconv
  go_wp2_with fail
  go_loopw [3] (fun v wr => ∃ j : Nat, j ≤ noughts L.length ∧ Hid (rowM wr w.heap.size v (padTo L (1 + j))) ∧ Hid (Below w.heap.size w wr)) (fun v _ => L.length + 100 - lenOf v)
  case atStart => exact ⟨0, by omega, R1, B1⟩
  case round =>
    clear R1 B1
    obtain ⟨j, hj, R1, B1⟩ := hrel
    have hN : noughts L.length < 64 := by unfold noughts; omega
    have hlen := padTo_len L (1 + j) (by omega)
    obtain ⟨a, c, rfl, hlc, hcm, -, -, -⟩ := R1.out.bytes
    have HLEN := Lib.hid hlen
    generalize hM : padTo L (1 + j) = M at *
    have HM := Lib.hid hM
    clear hM hlen
    by_cases hlt : j < noughts L.length
    · have e1 : ¬ (M.length : Int) % 64 = 56 := by have := HLEN.out; unfold noughts at hlt; omega
      have e2 : ((M.length : Int) % 64 != 56) = true := by simpa using e1
      have R2 := Lib.hid (R1.out.below (alloc_below wr (.cells #[.int .u8 0] 5 (0, 0))) (Nat.le_refl _))
      have B2 := Lib.hid (B1.out.alloc B1.out.size (.cells #[.int .u8 0] 5 (0, 0)))
      have I2 := Lib.hid (lit_in wr [0] #[.int .u8 0] rfl)
      go_wp2_with (refine append_M rfl _ _ rfl w.heap.size _ M rfl R2.out _ 1 1 [0] rfl rfl (by decide) I2.out (by have := HLEN.out; simp; omega) B2.out.size ?_)
      intro v3 w3 h1 h2
      have h2 := R2.out.grown h2 B2.out.size
      rw [← HM.out, padTo_one L j hlt] at h1
      have R3 := Lib.hid h1
      have B3 := Lib.hid (B2.out.trans h2)
      clear h1 h2 e1 e2
      obtain ⟨a3, c3, hv3, -⟩ := R3.out.bytes
      subst hv3
      go_wp2_with fail
      go_roundw
      case rel => exact ⟨j + 1, by omega, R3, B3⟩
      case measure => have h1 := padTo_len L (1 + (j + 1)) (by omega); have h2 := HLEN.out; simp [lenOf]; omega
    · obtain rfl : j = noughts L.length := by omega
      have e1 : (M.length : Int) % 64 = 56 := by have := HLEN.out; unfold noughts at *; omega
      have e2 : ((M.length : Int) % 64 != 56) = false := by simpa using e1
      have hsz := HSZ.out
      have u1 : IntKind.u64.wrap (L.length : Int) = (L.length : Int) := by rw [IntKind.wrap_u64]; omega
      have u2 : IntKind.u64.wrap ((L.length : Int) * 8) = (L.length : Int) * 8 := by rw [IntKind.wrap_u64]; omega
      have n0 : 0 ≤ (L.length : Int) * 8 := by omega
      go_wp2_with fail
      clear u1 u2 n0 e1 e2 hsz
      go_loopw [3, 5] (fun v i wr => ∃ k : Nat, k ≤ 8 ∧ Hid (i = .int .i64 (56 - 8 * (k : Int))) ∧ Hid (rowM wr w.heap.size v (padTo L (1 + noughts L.length + k))) ∧ Hid (Below w.heap.size w wr)) (fun v _ _ => L.length + 100 - lenOf v)
      case atStart => exact ⟨0, by omega, Lib.hid rfl, by rw [Nat.add_zero, HM.out]; exact R1, B1⟩
      case round =>
        clear R1 B1 HM HLEN hlc hcm
        obtain ⟨k, hk, hi, R1, B1⟩ := hrel
        have hlen := padTo_len L (1 + noughts L.length + k) (by omega)
        obtain ⟨a, c, rfl, hlc, hcm, -, -, -⟩ := R1.out.bytes
        have HLEN := Lib.hid hlen
        generalize hM : padTo L (1 + noughts L.length + k) = M at *
        have HM := Lib.hid hM
        clear hM hlen
        by_cases hlt : k < 8
        · obtain ⟨s, hs⟩ : ∃ s, s = 56 - 8 * k := ⟨_, rfl⟩
          have hi := hi.out
          rw [show (56 - 8 * (k : Int)) = (s : Int) by omega] at hi
          subst hi
          have hv := eight_val L.length k hlt (by omega)
          rw [← hs] at hv
          have hps := padTo_eight L k hlt
          have HPS := Lib.hid hps
          generalize (eight (8 * L.length % 2 ^ 64)).getD k 0 = b at *
          have HS := Lib.hid hs
          have hs2 : (s : Int) ≤ 56 := by omega
          clear hs hps
          have R2 := Lib.hid (R1.out.below (alloc_below wr (.cells #[.int .u8 (V b)] 5 (0, 0))) (Nat.le_refl _))
          have B2 := Lib.hid (B1.out.alloc B1.out.size (.cells #[.int .u8 (V b)] 5 (0, 0)))
          have I2 := Lib.hid (lit_in wr [b] #[.int .u8 (V b)] rfl)
          go_wp2_with (refine append_M rfl _ _ rfl w.heap.size _ M rfl R2.out _ 1 1 [b] rfl rfl (by simp) I2.out (by have := HLEN.out; simp; omega) B2.out.size ?_)
          intro v3 w3 h1 h2
          have h2 := R2.out.grown h2 B2.out.size
          rw [← HM.out, HPS.out] at h1
          have R3 := Lib.hid h1
          have B3 := Lib.hid (B2.out.trans h2)
          clear h1 h2 hv HPS
          obtain ⟨a3, c3, hv3, -⟩ := R3.out.bytes
          subst hv3
          go_wp2_with fail
          go_roundw
          case rel => exact ⟨k + 1, by omega, Lib.hid (by have := HS.out; congr 1; omega), R3, B3⟩
          case measure => have h1 := padTo_len L (1 + noughts L.length + (k + 1)) (by omega); have h2 := HLEN.out; simp [lenOf]; omega
        · obtain rfl : k = 8 := by omega
          have hi := hi.out
          rw [show (56 - 8 * ((8 : Nat) : Int)) = -8 by omega] at hi
          subst hi
          rw [show 1 + noughts L.length + 8 = 1 + noughts L.length + 8 from rfl, padTo_all] at HM
          have hmod := pad_mod L
          rw [HM.out] at hmod
          have HMOD := Lib.hid hmod
          clear hmod HLEN
          go_wp2_with fail
          have hreg : ∀ j x, init.list[j]? = some x → (wr.alloc (.cells (regCells init).toArray 131 (0, 0))).cell? ⟨wr.heap.size, j, none⟩ = some (.int .u32 (U x)) := fun j x hx => by
            have hj : j < 8 := (List.getElem?_eq_some_iff.1 hx).1
            rw [(blockIs.new wr (regCells init) 131).cell, regs_get' _ _ hj]
            simp [hx]
          have HR := Lib.hid hreg
          have BQ := Lib.hid (B1.out.alloc B1.out.size (.cells (regCells init).toArray 131 (0, 0)))
          have R4 := Lib.hid (R1.out.below (alloc_below wr (.cells (regCells init).toArray 131 (0, 0))) (Nat.le_refl _))
          clear hreg R1 B1
          rw [show wr.alloc (.cells #[.int .u32 1779033703, .int .u32 3144134277, .int .u32 1013904242, .int .u32 2773480762, .int .u32 1359893119, .int .u32 2600822924, .int .u32 528734635, .int .u32 1541459225] 131 (0, 0)) = wr.alloc (.cells (regCells init).toArray 131 (0, 0)) from rfl]
          generalize wr.alloc (.cells (regCells init).toArray 131 (0, 0)) = wq at *
          generalize wr.heap.size = rb0 at *
          obtain ⟨a9, c9, h9, h91, h92, h93, -, -⟩ := R4.out.bytes
          obtain ⟨rfl, -, rfl⟩ : a = a9 ∧ True ∧ c = c9 := by cases h9; exact ⟨rfl, trivial, rfl⟩
          have IN := Lib.hid h93
          clear h9 h93 R4 h91 h92
          unfold maxLen at hcm
          go_loopw [3, 6] (fun v r wr => ∃ (d : List UInt8) (a : Option Addr) (c : Nat) (R : Reg) (rb rc : Nat), v = .slice a d.length c ∧ d.length ≤ c ∧ c ≤ 9223372036854775807 ∧ Hid (d.length % 64 = 0) ∧ Hid (bytesIn wr a d) ∧ r = .slice (some ⟨rb, 0, none⟩) 8 rc ∧ Hid (∀ j x, R.list[j]? = some x → wr.cell? ⟨rb, j, none⟩ = some (.int .u32 (U x))) ∧ Hid (Sha.blocks (d.length / 64) R d = Sha.blocks (M.length / 64) init M) ∧ Hid (Below w.heap.size w wr)) (fun v _ _ => lenOf v)
          case atStart => exact ⟨M, a, c, init, rb0, 8, rfl, hlc, hcm, HMOD, IN, rfl, HR, Lib.hid rfl, BQ⟩
          case round =>
            clear HMOD IN HR BQ hlc hcm
            obtain ⟨d, a, c, R, rb, rc, rfl, hlc, hcm, HMOD, IN, rfl, HR, HBL, BQ⟩ := hrel
            by_cases hd : 0 < d.length
            · have h64 : 64 ≤ d.length := by have := HMOD.out; omega
              obtain ⟨bb, bo, rfl, hb⟩ : ∃ bb bo, a = some ⟨bb, bo, none⟩ ∧ ∀ j, j < d.length → wr.cell? ⟨bb, bo + j, none⟩ = some (.int .u8 (V (d.getD j 0))) := by
                rcases IN.out with h | h
                · rw [h] at hd; simp at hd
                · exact h
              have HB := Lib.hid hb
              have d1 : (64 : Int) ≤ c := by omega
              have d2 : (64 : Int) ≤ d.length := by omega
              clear hb
              go_wp2_with fail
              with_reducible refine (fold_any rb bb bo 64 c rc 131 R d wr (by omega) (by omega) (fun j hj => HB.out j (by omega)) (fun j x hx => by rw [Nat.zero_add]; exact HR.out j x hx)).mono ?_
              rintro e w5 ⟨g, gc, rfl, k1, k2, k3⟩
              have K1 := Lib.hid k1
              have K2 := Lib.hid k2
              have K3 := Lib.hid k3
              clear k1 k2 k3
              go_wp2_with fail
              go_roundw
              case rel =>
                have hin := bytesIn_rest HB.out c 64 h64 hlc
                have hl : (d.drop 64).length = d.length - 64 := List.length_drop
                refine ⟨d.drop 64, _, c - 64, block R d, g, gc, ?_, by rw [hl]; omega, by omega, Lib.hid (by rw [hl]; have := HMOD.out; omega), Lib.hid (hin.below K3.out), rfl, K2, Lib.hid (by rw [← blocks_step R d HMOD.out hd]; exact HBL.out), Lib.hid (BQ.out.trans (K3.out.mono BQ.out.size))⟩
                rw [hl]
              case measure => simp [lenOf]; omega
            · have hd0 : d = [] := List.eq_nil_of_length_eq_zero (by omega)
              have hbl : R = Sha.blocks (M.length / 64) init M := by
                have := HBL.out
                rw [hd0] at this
                exact this
              clear hd0
              rw [← HM.out] at hbl
              have HOUT : Hid (sha L = out R) := Lib.hid (by unfold sha; rw [← hbl])
              clear hbl HBL IN HMOD
              generalize wr = wz at *
              have RE := Lib.hid (rowM.empty wz wz.heap.size)
              have BS := Lib.hid (Below.refl wz.heap.size wz)
              go_wp2_with fail
              go_loopw [7, 8] (fun v i wr => ∃ k : Nat, k ≤ 8 ∧ i = .int .i64 (k : Int) ∧ Hid (rowM wr wz.heap.size v ((out R).take (4 * k))) ∧ Hid (Below wz.heap.size wz wr)) (fun _ i _ => 8 - (intOf i).toNat)
              case atStart => exact ⟨0, by omega, rfl, RE, BS⟩
              case round =>
                clear RE BS
                obtain ⟨k, hk, rfl, RE, BS⟩ := hrel
                by_cases hlt : k < 8
                · have hreg : wr.cell? ⟨rb, k, none⟩ = some (.int .u32 (U (R.list.getD k 0))) := by
                    have h8 : R.list[k]? = some (R.list.getD k 0) := by
                      rw [List.getD_eq_getElem?_getD, List.getElem?_eq_getElem (show k < R.list.length from hlt)]
                      rfl
                    have := HR.out k _ h8
                    exact (BS.out.cell (p := ⟨rb, k, none⟩) (block_lt_of_cell this)).trans this
                  have RLT0 : rb < wz.heap.size := by
                    have h8 : R.list[k]? = some (R.list.getD k 0) := by
                      rw [List.getD_eq_getElem?_getD, List.getElem?_eq_getElem (show k < R.list.length from hlt)]
                      rfl
                    exact block_lt_of_cell (HR.out k _ h8)
                  have hot := out_take R k hlt
                  have HOT := Lib.hid hot
                  clear hot
                  have p : 0 ≤ (k : Int) := by omega
                  have q4 : (k : Int) < 8 := by omega
                  have hlen : ((out R).take (4 * k)).length = 4 * k := by rw [List.length_take, out_length]; omega
                  have HLEN := Lib.hid hlen
                  clear hlen
                  generalize (out R).take (4 * k) = M4 at *
                  generalize R.list.getD k 0 = x at *
                  have R2 := Lib.hid (RE.out.below (drew_alloc_below wr (.cells #[.int .u8 (V (toB (x >>> 24))), .int .u8 (V (toB (x >>> 16))), .int .u8 (V (toB (x >>> 8))), .int .u8 (V (toB x))] 5 (0, 0))) (Nat.le_refl _))
                  have B2 : Hid (Below wz.heap.size wz (wr.drew.alloc (.cells #[.int .u8 (V (toB (x >>> 24))), .int .u8 (V (toB (x >>> 16))), .int .u8 (V (toB (x >>> 8))), .int .u8 (V (toB x))] 5 (0, 0)))) := Lib.hid ((below_drewN' BS.out 1).alloc BS.out.size _)
                  have I2 := Lib.hid (lit_in wr.drew [toB (x >>> 24), toB (x >>> 16), toB (x >>> 8), toB x] #[.int .u8 (V (toB (x >>> 24))), .int .u8 (V (toB (x >>> 16))), .int .u8 (V (toB (x >>> 8))), .int .u8 (V (toB x))] rfl)
                  have hregA : (wr.drew.alloc (.cells #[.int .u8 (V (toB (x >>> 24))), .int .u8 (V (toB (x >>> 16))), .int .u8 (V (toB (x >>> 8))), .int .u8 (V (toB x))] 5 (0, 0))).cell? ⟨rb, k, none⟩ = some (.int .u32 (U x)) := ((drew_alloc_below wr _).cell (p := ⟨rb, k, none⟩) (block_lt_of_cell hreg)).trans hreg
                  have HRA := Lib.hid hregA
                  have RLT := Lib.hid RLT0
                  clear hregA
                  go_wp2_with fail
                  go_region_held3 (fun w' => w'.cell? ⟨rb, k, none⟩ = some (.int .u32 (U x)))
                    (first | exact hreg | exact HRA.out | exact HR3.out)
                    (first | (refine step_appendM_if rfl _ _ rfl wz.heap.size _ M4 rfl R2.out _ 4 4 [toB (x >>> 24), toB (x >>> 16), toB (x >>> 8), toB x] rfl rfl (by simp) I2.out (by rw [HLEN.out]; simp; omega) B2.out.size ?_
                              intro v3 w3 h1 h2
                              have h2 := R2.out.grown h2 B2.out.size
                              rw [HOT.out] at h1
                              have R3 := Lib.hid h1
                              have B3 := Lib.hid (B2.out.trans h2)
                              have HR3 : Hid (w3.cell? ⟨rb, k, none⟩ = some (.int .u32 (U x))) := Lib.hid ((h2.cell (p := ⟨rb, k, none⟩) RLT.out).trans HRA.out)
                              clear h1 h2))
                  go_wp2_with fail
                  go_roundw
                  case rel => exact ⟨k + 1, by omega, by go_num, R3, B3⟩
                  case measure => simp [intOf]; omega
                · obtain rfl : k = 8 := by omega
                  rw [show ((8 : Nat) : Int) = 8 from rfl]
                  have RE := RE.out
                  rw [show 4 * 8 = (out R).length from rfl, List.take_length, ← HOUT.out] at RE
                  obtain ⟨a3, c3, rfl, -, -, hin, -, -⟩ := RE.bytes
                  have hcs := conv_string wr a3 (sha L) c3 hin
                  have BF := Lib.hid (BQ.out.trans (BS.out.mono BQ.out.size))
                  clear RE hin
                  go_wp2_with fail
                  go_ret
                  exact ⟨rfl, BF.out⟩
end Go.Proofs.YtfhlcondnaahiaaDoor
end
