/- Cells and clocks: the contracts of their calls. -/
import Derived.Test.YthefledeoiegjaaSt
namespace Go.Proofs.Ythefledeoiegjaa
open Go.RowKit Go.MapKept

/-- Is the number refused? -/
def lowN (n x : Int) : Bool := decide (x ≤ n) || decide (4611686018427387903 < x)
def raisedE (s : Sh) (n x : Int) : Int := if s.off then 9 else if lowN n x then 1 else spentE s
def raisedS (s : Sh) (n x : Int) : Sh := if s.off then s else if lowN n x then s else spent s
def raisedN (s : Sh) (n x : Int) : Int := if raisedE s n x = 0 then x else n
def badTick (n x : Int) : Bool := decide (x < 0) || decide (1099511627776 - n < x)
end Go.Proofs.Ythefledeoiegjaa
