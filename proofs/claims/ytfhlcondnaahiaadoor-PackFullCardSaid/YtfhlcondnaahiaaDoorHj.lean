/- The document's Writer: Add. -/
import Derived.Test.YtfhlcondnaahiaaDoorPq
import Derived.Test.YtfhlcondnaahiaaDoorPa
import Derived.Test.YtfhlcondnaahiaaDoorHf
import Derived.Test.YtfhlcondnaahiaaDoorIdd
import Derived.Test.YtfhlcondnaahiaaDoorGg
import Derived.Test.YtfhlcondnaahiaaDoorHc
import Derived.Test.YtfhlcondnaahiaaDoorPs
section
namespace Go.Proofs.YtfhlcondnaahiaaDoor
open Go.RowKit Sha

/-- The document's writer in memory. -/
def RefAt (X : World) (base rb : Nat) (RG F : List UInt8) (used : Nat) (B : List UInt8) (L : List En) (lv : Value) : Prop :=
  blockIs X rb (refCells RG F (used : Int) B lv) 52 ∧ X.ownsRow base 93 35 lv L.length (enCells L) ∧ rb < base ∧ base ≤ X.heap.size
def rF (rb : Nat) (lv : Value) (k : Nat) : Prop := k = rb ∨ lv.ownBlock = some k
theorem RefAt.below {X Y : World} {base rb used : Nat} {RG F B : List UInt8} {L : List En} {lv : Value} (h : RefAt X base rb RG F used B L lv) (k : Below X.heap.size X Y) : RefAt Y base rb RG F used B L lv :=
  ⟨h.1.below k h.1.lt, row_kp h.2.1 (Kp.below (f := fun _ => False) k) fun _ _ => id, h.2.2.1, Nat.le_trans h.2.2.2 k.size⟩
end Go.Proofs.YtfhlcondnaahiaaDoor
end
section
/- Both writers beside one another; a blob of any kind; rows of bytes of one's own. -/
namespace Go.Proofs.YtfhlcondnaahiaaDoor
open Go.RowKit Sha

theorem rowM.kp {f : Nat → Prop} {w w' : World} {base : Nat} {v : Value} {l : List UInt8} (h : rowM w base v l) (k : Kp f w w') (hf : ∀ g, v.ownBlock = some g → ¬ f g) : rowM w' base v l := by
  refine ⟨h.1, ?_⟩
  rcases h.2 with hn | ⟨g, cap, cur, fz, rfl, hbg, hgg, rest⟩
  · exact .inl hn
  · refine .inr ⟨g, cap, cur, fz, rfl, hbg, ?_, rest⟩
    rw [k.block g (Array.getElem?_eq_some_iff.1 hgg).1 (hf g rfl)]
    exact hgg
theorem rowM.ok0 {w : World} {base : Nat} {v : Value} {l : List UInt8} (h : rowM w base v l) : ∃ a c, v = .slice a l.length c ∧ Pt.ok0 w ⟨a, c, l⟩ := by
  obtain ⟨a, c, e, h1, h2, h3, h4, -⟩ := h.bytes
  exact ⟨a, c, e, ⟨h1, by unfold maxLen at h2; exact h2, h3⟩, h4⟩
section
variable {X Y : World} {base wb tb rb used : Nat} {fa : Option Addr} {fc : Nat} {n : UInt8} {F : List UInt8} {told : Nat} {PC : List Value} {B B2 : List UInt8} {L L2 : List En} {v1 v2 lv : Value} {gm : Option Nat} {RG F2 : List UInt8}
end
theorem two_parts2 {X : World} {g tb : Nat} {p q : Pt} (hg0 : X.cell? ⟨g, 0, none⟩ = some (.slice p.a p.l.length p.c)) (hg1 : X.cell? ⟨g, 1, none⟩ = some (.slice q.a q.l.length q.c)) (h1 : g ≠ tb) (Y : World) (k : But tb X Y) (hp : p.ok0 Y) (hq : q.ok0 Y) : partsW Y (some ⟨g, 0, none⟩) [p.l, q.l] := by
  refine Or.inr ⟨g, 0, rfl, fun j hj => ?_⟩
  match j, hj with
  | 0, _ => exact ⟨p.a, p.c, k.cell hg0 h1, hp.1.1, hp.1.2.1, hp.2, hp.1.2.2⟩
  | 1, _ => exact ⟨q.a, q.c, k.cell hg1 h1, hq.1.1, hq.1.2.1, hq.2, hq.1.2.2⟩
/-- Both writers, behind so many lumps. -/
structure PwS (w X : World) (base wb tb rb : Nat) (fa : Option Addr) (fc : Nat) (n : UInt8) (i used : Nat) (B : List UInt8) (L : List En) (v1 v2 : Value) (gm : Option Nat) (lv : Value) : Prop where
  o : WrAt X base wb tb fa fc [n] (16 * used) (penCells (ringN n) tb) B L v1 v2 gm
  r : RefAt X base rb (ringN n) [n] used B L lv
  ub : used ≤ i
  lb : L.length ≤ i
  bb : B.length ≤ 168 * i
  ff : ∀ x ∈ L, x.fine
  bl : Below w.heap.size w X
theorem PwS.below {w X Y : World} {base wb tb rb : Nat} {fa : Option Addr} {fc : Nat} {n : UInt8} {i used : Nat} {B : List UInt8} {L : List En} {v1 v2 : Value} {gm : Option Nat} {lv : Value} (h : PwS w X base wb tb rb fa fc n i used B L v1 v2 gm lv) (k : Below X.heap.size X Y) : PwS w Y base wb tb rb fa fc n i used B L v1 v2 gm lv :=
  ⟨h.o.below k, h.r.below k, h.ub, h.lb, h.bb, h.ff, h.bl.trans (k.mono h.bl.size)⟩
theorem PwS.lo {w X : World} {base wb tb rb : Nat} {fa : Option Addr} {fc : Nat} {n : UInt8} {i used : Nat} {B : List UInt8} {L : List En} {v1 v2 : Value} {gm : Option Nat} {lv : Value} (h : PwS w X base wb tb rb fa fc n i used B L v1 v2 gm lv) (h1 : w.heap.size ≤ wb) (h2 : w.heap.size ≤ tb) (h3 : w.heap.size ≤ base) : ∀ k, wF wb tb v1 v2 gm k → w.heap.size ≤ k := fun k q => by
  rcases q with q | q | q | q | q
  · omega
  · omega
  · have := (h.o.a.lt k q).1; omega
  · have := (h.o.e.lt k q).1; omega
  · rcases h.o.s with ⟨e, -⟩ | ⟨g, e, hb, hs⟩
    · rw [e] at q; cases q
    · rw [e] at q; cases q; omega
theorem PwS.lor {w X : World} {base wb tb rb : Nat} {fa : Option Addr} {fc : Nat} {n : UInt8} {i used : Nat} {B : List UInt8} {L : List En} {v1 v2 : Value} {gm : Option Nat} {lv : Value} (h : PwS w X base wb tb rb fa fc n i used B L v1 v2 gm lv) (h1 : w.heap.size ≤ rb) (h3 : w.heap.size ≤ base) : ∀ k, rF rb lv k → w.heap.size ≤ k := fun k q => by
  rcases q with q | q
  · omega
  · have := (h.r.2.1.lt k q).1; omega
end Go.Proofs.YtfhlcondnaahiaaDoor
end
