/- A knife in memory; the contracts of New and Push. -/
import Derived.Test.YtaohbpmefcdipaaDoorCtEnds
import Derived.Test.YtaohbpmefcdipaaDoorCtClr
namespace Go.Proofs.YtaohbpmefcdipaaDoor.Ct
open Go.RowKit

def knCells (g : Nat) (r : Rl) (pv : Value) : List Value := [.pointer (some ⟨g, 0, none⟩), .int .i64 (r.least : Int), .int .i64 (r.most : Int), .int .i64 (r.bits : Int), .int .u64 (U r.poly), pv]
/-- Block k is a knife by r, whose roll is in blocks g and b, with window L; pv: what it holds of its piece. -/
structure KnifeAt (w : World) (k g b : Nat) (r : Rl) (pv : Value) (L : List UInt8) : Prop where
  ok : r.ok
  kn : blockIs w k (knCells g r pv) 84
  roll : rollIs w g b r.poly L
  kg : k ≠ g
  kb : k ≠ b
theorem kn_cells {w : World} {k g : Nat} {r : Rl} {pv : Value} (h : blockIs w k (knCells g r pv) 84) :
    w.cell? ⟨k, 0, none⟩ = some (.pointer (some ⟨g, 0, none⟩)) ∧ w.cell? ⟨k, 1, none⟩ = some (.int .i64 (r.least : Int)) ∧ w.cell? ⟨k, 2, none⟩ = some (.int .i64 (r.most : Int)) ∧ w.cell? ⟨k, 3, none⟩ = some (.int .i64 (r.bits : Int)) ∧ w.cell? ⟨k, 4, none⟩ = some (.int .u64 (U r.poly)) ∧ w.cell? ⟨k, 5, none⟩ = some pv :=
  ⟨by rw [h.cell]; rfl, by rw [h.cell]; rfl, by rw [h.cell]; rfl, by rw [h.cell]; rfl, by rw [h.cell]; rfl, by rw [h.cell]; rfl⟩
theorem rollIs.below {w w' : World} {g b : Nat} {m : W} {L : List UInt8} (h : rollIs w g b m L) (hb : Below w.heap.size w w') : rollIs w' g b m L := by
  obtain ⟨ld, p, rg, hr⟩ := h
  exact ⟨ld, p, rg, hr.below hb⟩
theorem KnifeAt.below {w w' : World} {k g b : Nat} {r : Rl} {pv : Value} {L : List UInt8} (h : KnifeAt w k g b r pv L) (hb : Below w.heap.size w w') : KnifeAt w' k g b r pv L :=
  ⟨h.ok, h.kn.below hb h.kn.lt, h.roll.below hb, h.kg, h.kb⟩
theorem blockIs.but2 {b g' b' : Nat} {w w' : World} (hb : But2 g' b' w w') {cs : List Value} {t : TypeId} (h : blockIs w b cs t) (h1 : b ≠ g') (h2 : b ≠ b') : blockIs w' b cs t := (hb.block b h.lt h1 h2).trans h
set_option maxRecDepth 100000 in
theorem kpush_any (k g b : Nat) (r : Rl) (pv : Value) (L : List UInt8) (a : Option Addr) (l : List UInt8) (c : Nat) (w : World) (h : KnifeAt w k g b r pv L) (hlc : l.length ≤ c) (hc : l.length ≤ 1000000) (hb : bytesOff w g b a l) :
    Calls Tryd.prog 41 #[.pointer (some ⟨k, 0, none⟩), .slice a l.length c] w fun e w' => e = .returned (.int .u64 (U (ofW r.poly (slides L l)))) ∧ KnifeAt w' k g b r pv (slides L l) ∧ But2 g b w w' := by
  obtain ⟨c0, -⟩ := kn_cells h.kn
  have H := Lib.hid h
  have HB := Lib.hid hb
  clear h hb
  go_enter Tryd.func41, Tryd.ntmps41
  go_wp2_with fail
  refine (push_any g b r.poly L a l c w H.out.roll hlc hc HB.out).mono ?_
  rintro e w1 ⟨rfl, hr, hb⟩
  have R1 := Lib.hid hr
  have B1 := Lib.hid hb
  clear hr hb
  go_wp2_with fail
  go_ret
  exact ⟨rfl, ⟨H.out.ok, blockIs.but2 B1.out H.out.kn H.out.kg H.out.kb, R1.out, H.out.kg, H.out.kb⟩, B1.out⟩
set_option maxHeartbeats 1000000 in
set_option maxRecDepth 100000 in
theorem cutnew_any (r : Rl) (hr : r.ok) (w : World) :
    Calls Tryd.prog 17 #[.agg #[.int .i64 (r.least : Int), .int .i64 (r.most : Int), .int .i64 (r.bits : Int), .int .u64 (U r.poly)]] w fun e w' => ∃ k g b, e = .returned (.tuple #[.pointer (some ⟨k, 0, none⟩), .int .i64 0]) ∧ w.heap.size ≤ k ∧ w.heap.size ≤ g ∧ w.heap.size ≤ b ∧ KnifeAt w' k g b r (.slice none 0 0) (List.replicate 64 0) ∧ Below w.heap.size w w' := by
  have t1 : decide (okRule (r.least : Int) (r.most : Int) (r.bits : Int) r.poly) = true := decide_eq_true (by obtain ⟨h1, h2, h3, h4, h5, h6⟩ := hr; unfold okRule; omega)
  have B0 := blockIs.new w (ruleCells (r.least : Int) (r.most : Int) (r.bits : Int) r.poly) 40
  have HR := Lib.hid hr
  have HM : Hid (8 ≤ dgw r.poly) := Lib.hid (by have := hr.h6; omega)
  clear hr
  go_enter Tryd.func17, Tryd.ntmps17
  go_wp2_with fail
  refine (holds_any _ _ _ _ _).mono ?_
  rintro e w1 ⟨rfl, hb⟩
  have B1 := Lib.hid (B0.below hb (by simp))
  have H1 := Lib.hid (((Below.refl w.heap.size w).alloc (Nat.le_refl _) _).trans (hb.mono (by simp)))
  clear hb B0
  have c0 : w1.cell? ⟨w.heap.size, 0, none⟩ = some (.int .i64 (r.least : Int)) := B1.out.cell 0
  have c1 : w1.cell? ⟨w.heap.size, 1, none⟩ = some (.int .i64 (r.most : Int)) := B1.out.cell 1
  have c2 : w1.cell? ⟨w.heap.size, 2, none⟩ = some (.int .i64 (r.bits : Int)) := B1.out.cell 2
  have c3 : w1.cell? ⟨w.heap.size, 3, none⟩ = some (.int .u64 (U r.poly)) := B1.out.cell 3
  go_wp2_with fail
  refine (new_any r.poly 64 w1 HM.out (by decide) (by decide)).mono ?_
  rintro e w2 ⟨g, b, rfl, hg, hb, hr, hbe⟩
  have B2 := Lib.hid (B1.out.below hbe B1.out.lt)
  have R2 := Lib.hid hr
  have H2 := Lib.hid (H1.out.trans (hbe.mono H1.out.size))
  have G2 : Hid (w.heap.size ≤ g ∧ w.heap.size ≤ b) := Lib.hid ⟨Nat.le_trans H1.out.size hg, Nat.le_trans H1.out.size hb⟩
  clear hg hb hr hbe c0 c1 c2 c3 B1 H1
  have c0 : w2.cell? ⟨w.heap.size, 0, none⟩ = some (.int .i64 (r.least : Int)) := B2.out.cell 0
  have c1 : w2.cell? ⟨w.heap.size, 1, none⟩ = some (.int .i64 (r.most : Int)) := B2.out.cell 1
  have c2 : w2.cell? ⟨w.heap.size, 2, none⟩ = some (.int .i64 (r.bits : Int)) := B2.out.cell 2
  have c3 : w2.cell? ⟨w.heap.size, 3, none⟩ = some (.int .u64 (U r.poly)) := B2.out.cell 3
  go_wp2_with fail
  go_ret2
  have K3 : blockIs (w2.alloc (.cells (knCells g r (.slice none 0 0)).toArray 84)) w2.heap.size (knCells g r (.slice none 0 0)) 84 := blockIs.new _ _ _
  refine ⟨w2.heap.size, g, b, rfl, H2.out.size, G2.out.1, G2.out.2, ⟨HR.out, K3, R2.out.below ((Below.refl _ _).alloc (Nat.le_refl _) _), ?_, ?_⟩, H2.out.alloc H2.out.size _⟩
  · obtain ⟨ld, p, rg, hr⟩ := R2.out
    have := hr.cells.lt
    omega
  · obtain ⟨ld, p, rg, hr⟩ := R2.out
    have := hr.bytes.lt
    omega
end Go.Proofs.YtaohbpmefcdipaaDoor.Ct
