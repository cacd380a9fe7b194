/- The law of Live: its walk. -/
import Derived.Test.YtfbekpkagncblaaLla
import Derived.Test.YtfbekpkagncblaaLlb
namespace Go.Proofs.Ytfbekpkagncblaa
open Go.RowKit

theorem law_lives (nv ov : Value) (N : List (List UInt8)) (O : List (List (List UInt8))) (w : World) (hn : textsIn w nv N) (ho : oldsIn w ov O) :
    Calls Try.prog 3 #[nv, ov] w fun e w' => e = .returned (.bool true) ∧ Below w.heap.size w w' := by
  by_cases h : N.length ≤ 20
  · exact law_lives_few nv ov N O w hn ho h
  · exact law_lives_many nv ov N O w hn ho (by omega)
end Go.Proofs.Ytfbekpkagncblaa
