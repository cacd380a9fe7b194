/- What the laws' frames share: an argument as a word. -/
import Derived.Test.YtfbihkfcpgkbmaaAcc
import Derived.ProofKit
import Derived.OpenShut
namespace Go.Proofs.Ytfbihkfcpgkbmaa
open Go.ChangeShapes Go.WideShapes Go.ChangeAt Go.RowKit

theorem own : ownKnob Try.prog.godebug = none := by kernel_rfl
theorem word_of (a : Int) (h : (Lit.int .u64 a).wf = true) : ∃ x : W, a = U x := by
  have h' : 0 ≤ a ∧ a < 18446744073709551616 := by
    simp [Lit.wf, IntKind.min, IntKind.max, IntKind.signed, IntKind.bits] at h
    omega
  exact ⟨BitVec.ofNat 64 a.toNat, by rw [U_of _ (by omega)]; omega⟩
end Go.Proofs.Ytfbihkfcpgkbmaa
