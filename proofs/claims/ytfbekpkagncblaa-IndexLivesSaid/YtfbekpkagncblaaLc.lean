/- A file without packs, cloned; lists of texts, compared. -/
import Derived.Test.YtfbekpkagncblaaLt
import Derived.Lib.SmallJoins
import Derived.Deep.RegionHeld3
namespace Go.Proofs.Ytfbekpkagncblaa
open Go.RowKit

theorem zero_file (w : World) : (zeroValue 27).run Try.prog w = .ok (.agg #[.slice none 0 0, .slice none 0 0]) w := by kernel_rfl
theorem texts_block {w w' : World} {v : Value} {L : List (List UInt8)} (h : textsIn w v L) (hb : Below w.heap.size w w') : textsIn w' v L := h.below hb (Nat.le_refl _)
set_option maxRecDepth 100000 in
set_option maxHeartbeats 2000000 in
theorem file_any (pv : Value) (P : List (List UInt8)) (w : World) (h : textsIn w pv P) (hb : P.length ≤ 10000000) :
    Calls Try.prog 7 #[.agg #[.slice none 0 0, pv]] w fun e w' => (∃ v, e = .returned (.agg #[.slice none 0 0, v]) ∧ w'.ownsRow w.heap.size 9 1 v P.length (txs P)) ∧ Below w.heap.size w w' := by
  obtain ⟨a, c, rfl, h1, h2, h3, h5⟩ := h
  have HI : Hid (textsIn w (.slice a P.length c) P) := Lib.hid ⟨a, c, rfl, h1, h2, h3, h5⟩
  have HBD := Lib.hid hb
  have hz := zero_file
  have hz2 : ∀ w, (Instr.build 27 #[(1, Value.slice none 0 0)]).run Try.prog w = .ok (.agg #[.slice none 0 0, .slice none 0 0]) w := fun w => by kernel_rfl
  have B0 : Hid (Below w.heap.size w ((w.alloc (.cells #[.slice none 0 0, .slice a P.length c] 27)).alloc (.cells #[.slice none 0 0, .slice none 0 0] 27))) := Lib.hid ((alloc_below w _).trans ((alloc_below _ _).mono (alloc_below w _).size))
  have K1 : Hid (blockIs ((w.alloc (.cells #[.slice none 0 0, .slice a P.length c] 27)).alloc (.cells #[.slice none 0 0, .slice none 0 0] 27)) w.heap.size [.slice none 0 0, .slice a P.length c] 27) := Lib.hid ((blockIs.new w [.slice none 0 0, .slice a P.length c] 27).alloc _)
  have K2 : Hid (blockIs ((w.alloc (.cells #[.slice none 0 0, .slice a P.length c] 27)).alloc (.cells #[.slice none 0 0, .slice none 0 0] 27)) (w.heap.size + 1) [.slice none 0 0, .slice none 0 0] 27) := Lib.hid (by
    have := blockIs.new (w.alloc (.cells #[.slice none 0 0, .slice a P.length c] 27)) [.slice none 0 0, .slice none 0 0] 27
    rw [World.size_alloc] at this
    exact this)
  have PC := clone_txs (.slice a P.length c) P ((w.alloc (.cells #[.slice none 0 0, .slice a P.length c] 27)).alloc (.cells #[.slice none 0 0, .slice none 0 0] 27)) (HI.out.below B0.out (Nat.le_refl _)) HBD.out
  clear h1 h2 h3 h5 hb hz2
  go_enter Try.func7, Try.ntmps7
  go_wp2_with fail
  with_reducible refine PC.mono ?_
  clear PC
  generalize (w.alloc (.cells #[.slice none 0 0, .slice a P.length c] 27)).alloc (.cells #[.slice none 0 0, .slice none 0 0] 27) = w0 at *
  rintro e w1 ⟨⟨v, rfl, hrow⟩, b1⟩
  obtain ⟨va, vc, rfl, -⟩ := own_texts hrow
  have ROW := Lib.hid hrow
  have B1 := Lib.hid (B0.out.trans (b1.mono B0.out.size))
  have K11 := Lib.hid (K1.out.below b1 K1.out.lt)
  have K21 := Lib.hid (K2.out.below b1 K2.out.lt)
  have HG : Hid (w.heap.size + 1 < w0.heap.size) := Lib.hid K2.out.lt
  clear hrow b1 K1 K2 B0
  have B2 : Hid (Below w.heap.size w (w1.alloc (.cells #[.slice none 0 0, .slice va P.length vc] 27))) := Lib.hid (B1.out.alloc B1.out.size _)
  have K12 : Hid (blockIs (w1.alloc (.cells #[.slice none 0 0, .slice va P.length vc] 27)) w.heap.size [.slice none 0 0, .slice a P.length c] 27) := Lib.hid (K11.out.alloc _)
  have K22 : Hid (blockIs (w1.alloc (.cells #[.slice none 0 0, .slice va P.length vc] 27)) (w.heap.size + 1) [.slice none 0 0, .slice none 0 0] 27) := Lib.hid (K21.out.alloc _)
  have K3 : Hid (blockIs (w1.alloc (.cells #[.slice none 0 0, .slice va P.length vc] 27)) w1.heap.size [.slice none 0 0, .slice va P.length vc] 27) := Lib.hid (blockIs.new w1 _ _)
  have ROW2 : Hid ((w1.alloc (.cells #[.slice none 0 0, .slice va P.length vc] 27)).ownsRow w0.heap.size 9 1 (.slice va P.length vc) P.length (txs P)) := Lib.hid (ROW.out.alloc _)
  have HG1 : Hid (w.heap.size + 1 < w1.heap.size) := Lib.hid K21.out.lt
  have c10 : (w1.alloc (.cells #[.slice none 0 0, .slice va P.length vc] 27)).cell? ⟨w.heap.size, 0, none⟩ = some (.slice none 0 0) := by rw [K12.out.cell]; rfl
  clear K11 K21 ROW B1
  go_wp2_with fail
  clear c10
  generalize w1.alloc (.cells #[.slice none 0 0, .slice va P.length vc] 27) = w2 at *
  generalize w1.heap.size = g at *
  go_loopw [13] (fun i wr => i = .int .i64 0 ∧ w2 = wr) (fun i _ => 0)
  case atStart => exact ⟨rfl, rfl⟩
  case round =>
    obtain ⟨rfl, rfl⟩ := hrel
    have c30 : w2.cell? ⟨g, 0, none⟩ = some (.slice none 0 0) := by rw [K3.out.cell]; rfl
    have c31 : w2.cell? ⟨g, 1, none⟩ = some (.slice va P.length vc) := by rw [K3.out.cell]; rfl
    have c20 : w2.cell? ⟨w.heap.size + 1, 0, none⟩ = some (.slice none 0 0) := by rw [K22.out.cell]; rfl
    have c21 : w2.cell? ⟨w.heap.size + 1, 1, none⟩ = some (.slice none 0 0) := by rw [K22.out.cell]; rfl
    have f20 := K22.out.free 0
    have f21 := K22.out.free 1
    have K4 : Hid (blockIs ((w2.setCell ⟨w.heap.size + 1, 0, none⟩ (.slice none 0 0)).setCell ⟨w.heap.size + 1, 1, none⟩ (.slice va P.length vc)) (w.heap.size + 1) [.slice none 0 0, .slice va P.length vc] 27) := Lib.hid ((K22.out.set 0 (.slice none 0 0)).set 1 (.slice va P.length vc))
    have R4 : Hid (((w2.setCell ⟨w.heap.size + 1, 0, none⟩ (.slice none 0 0)).setCell ⟨w.heap.size + 1, 1, none⟩ (.slice va P.length vc)).ownsRow w0.heap.size 9 1 (.slice va P.length vc) P.length (txs P)) := Lib.hid (ownsRow_setCell_below (ownsRow_setCell_below ROW2.out HG.out _) HG.out _)
    have B4 : Hid (Below w.heap.size w ((w2.setCell ⟨w.heap.size + 1, 0, none⟩ (.slice none 0 0)).setCell ⟨w.heap.size + 1, 1, none⟩ (.slice va P.length vc))) := Lib.hid ((B2.out.setCell (Nat.le_succ _) _).setCell (Nat.le_succ _) _)
    have hgw : w.heap.size ≤ w0.heap.size := by have := HG.out; omega
    have HGW := Lib.hid hgw
    clear hgw
    go_wp2_with fail
    refine bodyPost_ret (results_cell_row rfl _ _ (w.heap.size + 1) 27 #[.slice none 0 0, .slice va P.length vc] (0, 0) _ rfl K4.out Try.underlying27 rfl (by kernel_rfl)) rfl ?_
    exact ⟨⟨_, rfl, Go.Joins.ownsRow_le R4.out HGW.out⟩, B4.out⟩
set_option maxRecDepth 100000 in
set_option maxHeartbeats 2000000 in
theorem texts_same (v1 v2 : Value) (L : List (List UInt8)) (w : World) (h1 : textsIn w v1 L) (h2 : textsIn w v2 L) :
    Calls Try.prog 6 #[v1, v2] w fun e w' => e = .returned (.bool true) ∧ Below w.heap.size w w' := by
  obtain ⟨a, c, rfl, p1, p2, p3, p5⟩ := h1
  obtain ⟨b, d, rfl, q1, q2, q3, q5⟩ := h2
  have HP := Lib.hid p5
  have HQ := Lib.hid q5
  clear p5 q5
  go_enter Try.func6, Try.ntmps6
  go_wp2_with fail
  go_loopw [5] (fun i wr => ∃ j : Nat, j ≤ L.length ∧ i = .int .i64 j ∧ Hid (Below w.heap.size w wr)) (fun i _ => L.length - (intOf i).toNat)
  case atStart => exact ⟨0, Nat.zero_le _, rfl, Lib.hid (Below.refl _ _)⟩
  case round =>
    obtain ⟨j, hj, rfl, HB⟩ := hrel
    have p0 : 0 ≤ (j : Int) := by omega
    by_cases hlt : j < L.length
    · have q0 : (j : Int) < (L.length : Int) := by omega
      obtain ⟨ab, ao, rfl, ac⟩ := (HP.out.below HB.out (Nat.le_refl _)).at j (by rw [txs_length]; exact hlt)
      obtain ⟨bb, bo, rfl, bc⟩ := (HQ.out.below HB.out (Nat.le_refl _)).at j (by rw [txs_length]; exact hlt)
      rw [txs_get L j hlt] at ac bc
      generalize L[j] = s at *
      have hs : ((str s).toList == (str s).toList) = true := by simp
      go_wp2_with fail
      refine wp_region_noPanic ?_
      refine wp_region_held_drew (S := fun x => x.cell? ⟨ab, ao + j, none⟩ = some (.string (str s)) ∧ x.cell? ⟨bb, bo + j, none⟩ = some (.string (str s))) (by kernel_rfl) ⟨ac, bc⟩ (fun hH => ?_)
      have HBD : Hid (Below w.heap.size w wr.drew) := Lib.hid HB.out.drew
      generalize wr.drew = wd at *
      refine wpAnyH_take (i := 0) (oi := { dst := some 17, op := Op.move (Operand.tmp 0), type := 22, pos := "ref.go:247", after := #[], guard := none }) (v := .slice (some ⟨ab, ao, none⟩) L.length c) rfl (by kernel_rfl) (by kernel_rfl) (by kernel_rfl) (fun _ _ _ h => h) (Or.inl ⟨by rfl, fun wx hS => ?_⟩) hH ?_
      · go_simp
      simp only [Act.put, List.setIfInBounds_toArray, List.set_cons_zero, List.set_cons_succ]
      refine wpAnyH_take (i := 1) (oi := { dst := some 18, op := Op.move (Operand.tmp 5), type := 3, pos := "ref.go:247", after := #[], guard := none }) (v := .int .i64 (j : Int)) rfl (by kernel_rfl) (by kernel_rfl) (by kernel_rfl) (fun _ _ _ h => h) (Or.inl ⟨by rfl, fun wx hS => ?_⟩) hH ?_
      · go_simp
      simp only [Act.put, List.setIfInBounds_toArray, List.set_cons_zero, List.set_cons_succ]
      refine wpAnyH_take (i := 2) (oi := { dst := some 19, op := Op.indexAddr 22 (Operand.tmp 17) (Operand.tmp 18), type := 0, pos := "ref.go:247", after := #[{ on := 0, ground := Ground.data }, { on := 1, ground := Ground.data }], guard := none }) (v := .pointer (some ⟨ab, ao + j, none⟩)) rfl (by kernel_rfl) (by kernel_rfl) (by kernel_rfl) (fun _ _ _ h => h) (Or.inl ⟨by rfl, fun wx hS => ?_⟩) hH ?_
      · go_simp
      simp only [Act.put, List.setIfInBounds_toArray, List.set_cons_zero, List.set_cons_succ]
      refine wpAnyH_take (i := 3) (oi := { dst := some 20, op := Op.load 9 (Operand.tmp 19), type := 9, pos := "ref.go:247", after := #[{ on := 2, ground := Ground.data }], guard := none }) (v := .string (str s)) rfl (by kernel_rfl) (by kernel_rfl) (by kernel_rfl) (fun _ _ _ h => h) (Or.inl ⟨by rfl, fun wx hS => ?_⟩) hH ?_
      · obtain ⟨s1, s2⟩ := hS; go_simp
      simp only [Act.put, List.setIfInBounds_toArray, List.set_cons_zero, List.set_cons_succ]
      refine wpAnyH_take (i := 4) (oi := { dst := some 21, op := Op.move (Operand.tmp 1), type := 22, pos := "ref.go:247", after := #[], guard := none }) (v := .slice (some ⟨bb, bo, none⟩) L.length d) rfl (by kernel_rfl) (by kernel_rfl) (by kernel_rfl) (fun _ _ _ h => h) (Or.inl ⟨by rfl, fun wx hS => ?_⟩) hH ?_
      · go_simp
      simp only [Act.put, List.setIfInBounds_toArray, List.set_cons_zero, List.set_cons_succ]
      refine wpAnyH_take (i := 5) (oi := { dst := some 22, op := Op.move (Operand.tmp 5), type := 3, pos := "ref.go:247", after := #[], guard := none }) (v := .int .i64 (j : Int)) rfl (by kernel_rfl) (by kernel_rfl) (by kernel_rfl) (fun _ _ _ h => h) (Or.inl ⟨by rfl, fun wx hS => ?_⟩) hH ?_
      · go_simp
      simp only [Act.put, List.setIfInBounds_toArray, List.set_cons_zero, List.set_cons_succ]
      refine wpAnyH_take (i := 6) (oi := { dst := some 23, op := Op.indexAddr 22 (Operand.tmp 21) (Operand.tmp 22), type := 0, pos := "ref.go:247", after := #[{ on := 4, ground := Ground.data }, { on := 5, ground := Ground.data }], guard := none }) (v := .pointer (some ⟨bb, bo + j, none⟩)) rfl (by kernel_rfl) (by kernel_rfl) (by kernel_rfl) (fun _ _ _ h => h) (Or.inl ⟨by rfl, fun wx hS => ?_⟩) hH ?_
      · go_simp
      simp only [Act.put, List.setIfInBounds_toArray, List.set_cons_zero, List.set_cons_succ]
      refine wpAnyH_take (i := 7) (oi := { dst := some 24, op := Op.load 9 (Operand.tmp 23), type := 9, pos := "ref.go:247", after := #[{ on := 6, ground := Ground.data }], guard := none }) (v := .string (str s)) rfl (by kernel_rfl) (by kernel_rfl) (by kernel_rfl) (fun _ _ _ h => h) (Or.inl ⟨by rfl, fun wx hS => ?_⟩) hH ?_
      · obtain ⟨s1, s2⟩ := hS; go_simp
      simp only [Act.put, List.setIfInBounds_toArray, List.set_cons_zero, List.set_cons_succ]
      refine wpAnyH_take (i := 8) (oi := { dst := some 25, op := Op.binOp BinOp.neq 9 (Operand.tmp 20) (Operand.tmp 24) 9, type := 4, pos := "ref.go:247", after := #[{ on := 3, ground := Ground.data }, { on := 7, ground := Ground.data }], guard := none }) (v := .bool false) rfl (by kernel_rfl) (by kernel_rfl) (by kernel_rfl) (fun _ _ _ h => h) (Or.inl ⟨by rfl, fun wx hS => ?_⟩) hH ?_
      · go_simp
      simp only [Act.put, List.setIfInBounds_toArray, List.set_cons_zero, List.set_cons_succ]
      refine wpAnyH_done (by kernel_rfl) ?_ _
      refine NoPanic.normal ?_
      go_wp2_with fail
      go_roundw
      case rel => exact ⟨j + 1, by omega, by go_num, HBD⟩
      case measure => simp [intOf]; omega
    · obtain rfl : j = L.length := by omega
      have q0 : ¬ ((L.length : Int) < (L.length : Int)) := by omega
      go_wp2_with fail
      go_ret
      exact ⟨rfl, HB.out⟩
end Go.Proofs.Ytfbekpkagncblaa
