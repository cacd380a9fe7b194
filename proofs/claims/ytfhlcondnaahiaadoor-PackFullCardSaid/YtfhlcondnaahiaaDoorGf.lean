/- The document's own block: words() and fold. -/
import Derived.Test.YtfhlcondnaahiaaDoorGc
import Derived.Deep.RegionHeld3
import Derived.Deep.RegionLaw
import Derived.StillTailTactics
import Derived.BigRegion
import Derived.Test.YtfhlcondnaahiaaDoorGd
section
namespace Go.Proofs.YtfhlcondnaahiaaDoor
open Go.RowKit Sha

theorem below_drewN' {B : Nat} {a w : World} (h : Below B a w) (n : Nat) : Below B a (w.drewN n) := ⟨h.os, h.tape, h.output, h.size, h.block⟩
attribute [local go_sem] V_wrap32 V_mod32 U_wrap U_shl8 U_shl16 U_shl24 U_shlw8 U_shlw16 U_shlw24 U_or U_xor U_and U_not U_not2 U_add U_addw U_shr3 U_shr10

end Go.Proofs.YtfhlcondnaahiaaDoor
end
section
/- The document's own Of: SHA-256 of a text, as a text. -/
namespace Go.Proofs.YtfhlcondnaahiaaDoor
open Go.RowKit Sha

theorem str_size (l : List UInt8) : (str l).size = l.length := by simp [str, ByteArray.size]
theorem alloc_below (w : World) (o : Obj) : Below w.heap.size w (w.alloc o) := (Below.refl _ _).alloc (Nat.le_refl _) _

theorem rowM.empty (w : World) (base : Nat) : rowM w base (.slice none 0 0) [] := ⟨rfl, .inl ⟨rfl, rfl⟩⟩
attribute [local go_sem] U_wrap8 V_toB U_shr8 U_shr16 U_shr24

end Go.Proofs.YtfhlcondnaahiaaDoor
end
