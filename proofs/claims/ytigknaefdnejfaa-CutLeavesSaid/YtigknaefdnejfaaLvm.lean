/- What CutLeaves' loops hold: the pieces may be written, all else stays. -/
import Derived.Test.YtigknaefdnejfaaFm
import Derived.OwnWalk
import Derived.Deep.AppendLies
namespace Go.Proofs.Ytigknaefdnejfaa
open Go.RowKit

theorem make_room (n : Nat) (w : World) (hn : n ≤ 1000000) :
    (Instr.makeSlice 25 (.int .i64 0) (.int .i64 (n : Int))).run Try.prog w = .ok (.slice (some ⟨w.heap.size, 0, none⟩) 0 n) (w.alloc (.cells (zeroB n) 5)) := by
  obtain ⟨i0, hi, hz0, hz1, hz2⟩ := info_parts info_u8
  have := run_make (P := Try.prog) w 25 5 i0 (.int .u8 0) Try.underlying25 hi hz0 .i64 .i64 0 (n : Int) (by omega) (by omega) (by rw [hz2]; omega) (by omega)
  rw [hz1, Int.toNat_natCast, made_bytes] at this
  exact this
theorem room_row (n : Nat) (w : World) (hn : n ≤ 1000000) : rowIs (w.alloc (.cells (zeroB n) 5)) w.heap.size (.slice (some ⟨w.heap.size, 0, none⟩) 0 n) [] := by
  have := World.ownsRow_made (base := w.heap.size) (e := 5) (size := 1) w (zeroB n) n (Nat.le_refl _) (by unfold maxLen; omega) (by simp [zeroB, bvals])
  exact this
theorem rowIs.form {w : World} {base : Nat} {v : Value} {l : List UInt8} (h : rowIs w base v l) (hl : l ≠ []) : ∃ g c, v = .slice (some ⟨g, 0, none⟩) l.length c ∧ base ≤ g ∧ g < w.heap.size ∧ l.length ≤ c ∧ ∀ j, j < l.length → w.cell? ⟨g, j, none⟩ = some (.int .u8 (V (l.getD j 0))) ∧ w.frozen? ⟨g, j, none⟩ = false := by
  have hp : 0 < l.length := List.length_pos_iff.2 hl
  obtain ⟨g, c, rfl, h1, h2⟩ := World.ownsRow.form h hp
  obtain ⟨a', c', e, h3, h4, _⟩ := rowIs.bytes h
  cases e
  refine ⟨g, c, rfl, h1, h2, h3, fun j hj => ⟨?_, World.ownsRow.frozenAt h j⟩⟩
  rcases h4 with h4 | ⟨bb, bo, e, h5⟩
  · exact absurd h4 hl
  · cases e
    have := h5 j hj
    rwa [Nat.zero_add] at this
theorem rowIs.stored {w : World} {base g c n : Nat} {l : List UInt8} (h : rowIs w base (.slice (some ⟨g, 0, none⟩) n c) l) (j : Nat) (x : UInt8) : rowIs (w.setCell ⟨g, j, none⟩ (.int .u8 (V x))) base (.slice (some ⟨g, 0, none⟩) n c) (l.set j x) := by
  obtain ⟨a', c', e, h3, h4, _⟩ := rowIs.bytes h
  cases e
  have := (World.ownsRow.stored h j (.int .u8 (V x))).1
  unfold rowIs
  rw [List.length_set]
  unfold bvals at this ⊢
  rw [List.map_set]
  exact this
/-- A store into a block that isn't the row's. -/
theorem rowV.off {w : World} {base : Nat} {e : TypeId} {v : Value} {xs : List Value} (h : rowV w base e v xs) (a : Addr) (u : Value) (ha : v.ownBlock ≠ some a.block) : rowV (w.setCell a u) base e v xs := by
  rcases h.2 with ⟨rfl, h0⟩ | ⟨g', cap, cur, rfl, hba, hh, hn, hc, hs, ht⟩
  · exact ⟨h.1, Or.inl ⟨rfl, h0⟩⟩
  · refine ⟨h.1, Or.inr ⟨g', cap, cur, rfl, hba, ?_, hn, hc, hs, ht⟩⟩
    rw [heap_setCell_other w a g' u (fun e => ha (by show some g' = _; first | rw [e] | rw [← e]))]
    exact hh
/-- Some bytes lie there. -/
def SomeAt (w : World) (lo hi : Nat) (v : Value) : Prop := ∃ s, s ≠ [] ∧ PieceAt w lo hi v s
theorem SomeAt.stored {w : World} {lo hi q : Nat} {v : Value} (h : SomeAt w lo hi v) (j : Nat) (x : UInt8) : SomeAt (w.setCell ⟨q, j, none⟩ (.int .u8 (V x))) lo hi v := by
  obtain ⟨s, hs, h1, h2⟩ := h
  by_cases e : v.ownBlock = some q
  · obtain ⟨g, c, rfl, -⟩ := h1.form hs
    obtain rfl : g = q := by injection e
    exact ⟨s.set j x, fun e => hs (by rw [← List.length_eq_zero_iff] at e ⊢; simpa using e), h1.stored j x, h2⟩
  · exact ⟨s, hs, rowV.is (h1.v.off _ _ e), h2⟩
/-- A knife, and the pieces that it told: these may be written. -/
structure LvAt (w0 w : World) (W0 : Nat) (k g b : Nat) (r : Rl) (B B' : Nat) (pv inv ov : Value) (P inl : List UInt8) (vs : List Value) (L : List UInt8) (B0 : Nat) : Prop where
  knife : KnifeAt w k g b r pv L
  fit : fitW L P
  piece : rowIs w B' pv P
  lo : B ≤ B'
  inp : PieceAt w B0 B inv inl
  out : rowV w B 25 ov vs
  wr : ∀ v ∈ vs, SomeAt w B B' v
  low : Below W0 w0 w
theorem LvAt.write {w0 w : World} {W0 k g b : Nat} {r : Rl} {B B' : Nat} {pv inv ov : Value} {P inl : List UInt8} {vs : List Value} {L : List UInt8} {B0 : Nat} (h : LvAt w0 w W0 k g b r B B' pv inv ov P inl vs L B0) {v : Value} (hv : SomeAt w B B' v) (q : Nat) (hq : v.ownBlock = some q) (hk : k < B ∧ g < B ∧ b < B) (hW : W0 ≤ B) (j : Nat) (x : UInt8) : LvAt w0 (w.setCell ⟨q, j, none⟩ (.int .u8 (V x))) W0 k g b r B B' pv inv ov P inl vs L B0 := by
  obtain ⟨s, hs, h1, h2⟩ := hv
  have hq1 : B ≤ q := (World.ownsRow.lt h1 q hq).1
  have hq2 : q < B' := h2 q hq
  have hb : Below B w (w.setCell ⟨q, j, none⟩ (.int .u8 (V x))) := (Below.refl B w).setCell hq1 _
  refine ⟨h.knife.belowB hb hk.1 hk.2.1 hk.2.2, h.fit, rowV.is (h.piece.v.set (a := ⟨q, j, none⟩) hq2 _), h.lo, h.inp.belowB hb (Nat.le_refl _) (Nat.le_refl _), h.out.off _ _ (fun e => ?_), fun u hu => (h.wr u hu).stored j x, h.low.setCell (Nat.le_trans hW hq1) _⟩
  rcases h.out.2 with ⟨e1, _⟩ | ⟨g', cap, cur, e1, _, hh, _⟩
  · rw [e1] at e; cases e
  · rw [e1] at e
    obtain rfl : g' = q := by injection e
    rcases h1.2 with ⟨e2, _⟩ | ⟨g2, cap2, cur2, e2, _, hh2, _⟩
    · rw [e2] at hq; cases hq
    · rw [e2] at hq
      obtain rfl : g2 = g' := by injection hq
      rw [hh] at hh2
      injection hh2 with hh2
      injection hh2 with _ h3 _
      exact absurd h3 (by decide)
/-- What was handed in may be written now. -/
structure Lv2At (w0 w : World) (W0 : Nat) (k g b : Nat) (r : Rl) (B B' : Nat) (pv inv : Value) (P inl : List UInt8) (L : List UInt8) (B0 : Nat) : Prop where
  knife : KnifeAt w k g b r pv L
  fit : fitW L P
  piece : rowIs w B' pv P
  lo : B ≤ B'
  inp : PieceAt w B0 B inv inl
  low : Below W0 w0 w
theorem LvAt.two {w0 w : World} {W0 k g b : Nat} {r : Rl} {B B' : Nat} {pv inv ov : Value} {P inl : List UInt8} {vs : List Value} {L : List UInt8} {B0 : Nat} (h : LvAt w0 w W0 k g b r B B' pv inv ov P inl vs L B0) : Lv2At w0 w W0 k g b r B B' pv inv P inl L B0 := ⟨h.knife, h.fit, h.piece, h.lo, h.inp, h.low⟩
theorem Lv2At.write {w0 w : World} {W0 k g b : Nat} {r : Rl} {B B' : Nat} {pv : Value} {P inl : List UInt8} {L : List UInt8} {B0 q c n : Nat} (h : Lv2At w0 w W0 k g b r B B' pv (.slice (some ⟨q, 0, none⟩) n c) P inl L B0) (hk : k < B0 ∧ g < B0 ∧ b < B0) (hW : W0 ≤ B0) (j : Nat) (x : UInt8) : Lv2At w0 (w.setCell ⟨q, j, none⟩ (.int .u8 (V x))) W0 k g b r B B' pv (.slice (some ⟨q, 0, none⟩) n c) P (inl.set j x) L B0 := by
  have hq1 : B0 ≤ q := (World.ownsRow.lt h.inp.1 q rfl).1
  have hq2 : q < B := h.inp.2 q rfl
  have hb : Below B0 w (w.setCell ⟨q, j, none⟩ (.int .u8 (V x))) := (Below.refl B0 w).setCell hq1 _
  exact ⟨h.knife.belowB hb hk.1 hk.2.1 hk.2.2, h.fit, rowV.is (h.piece.v.set (a := ⟨q, j, none⟩) (Nat.lt_of_lt_of_le hq2 h.lo) _), h.lo, ⟨h.inp.1.stored j x, h.inp.2⟩, h.low.setCell (Nat.le_trans hW hq1) _⟩
/-- Feed of one part. -/
theorem feed1 (k g b : Nat) (r : Rl) (B : Nat) (L : List UInt8) (a : Option Addr) (l : List UInt8) (c : Nat) (w : World) (h : KnifeAt w k g b r (.slice none 0 0) L) (hf : fitW L []) (hB : B ≤ w.heap.size) (hk : k < B) (hg : g < B) (hb : b < B)
    (hlc : l.length ≤ c) (hcm : c ≤ 9223372036854775807) (hz : a = none → c = 0) (hfar : bytesFar w k g b B a l) (hlen : l.length ≤ 100000) :
    Calls Try.prog 17 #[.pointer (some ⟨k, 0, none⟩), .slice (some ⟨w.heap.size, 0, none⟩) 1 1] (w.alloc (.cells #[.slice a l.length c] 25 (0, 0))) fun e w' => ∃ ov pv' B' vs L', e = .returned ov ∧ FedAt (w.alloc (.cells #[.slice a l.length c] 25 (0, 0))) w' k g b r B B' pv' ov (r.fed [] l).2 vs (r.fed [] l).1 L' := by
  have hw := (Below.refl w.heap.size w).alloc (Nat.le_refl _) (.cells #[.slice a l.length c] 25 (0, 0))
  have := feed_any k g b r B w.heap.size (.slice none 0 0) L [] [⟨a, c, l⟩] w.heap.size (w.alloc (.cells #[.slice a l.length c] 25 (0, 0))) (h.below hw) hf (World.ownsRow_nil _ _ _ _) hB (by simp) hk hg hb (blockIs.new w _ _) ?_ (by simpa using hlen) (by simp)
  · have e : (([⟨a, c, l⟩] : List Pc).map Pc.l).flatten = l := by simp
    rw [e] at this
    exact this
  · intro p hp
    rw [List.mem_singleton.1 hp]
    exact ⟨hlc, hcm, hz, hfar.alloc _⟩
end Go.Proofs.Ytigknaefdnejfaa
