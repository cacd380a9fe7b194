/- The document's own Stretch. -/
import Derived.Test.YtjkhokholcchfaaDoorRky
namespace Go.Proofs.YtjkhokholcchfaaDoor
open Go.RowKit Sha

theorem rowM.free {w : World} {base : Nat} {g n c : Nat} {l : List UInt8} (h : rowM w base (.slice (some ⟨g, 0, none⟩) n c) l) (j : Nat) (hj : j < l.length) : w.frozen? ⟨g, j, none⟩ = false := by
  rcases h.2 with ⟨h0, _⟩ | ⟨g', cap, cur, fz, hv, _, hh, hf, hn, _, hs, _⟩
  · cases h0
  · cases hv
    obtain ⟨lo, hi⟩ := fz
    simp only [World.frozen?, hh, Bool.and_eq_false_iff, decide_eq_false_iff_not]
    rcases hf with h | h
    · cases h; right; omega
    · left; simp only at h; omega
attribute [local go_sem] V_xor

end Go.Proofs.YtjkhokholcchfaaDoor
