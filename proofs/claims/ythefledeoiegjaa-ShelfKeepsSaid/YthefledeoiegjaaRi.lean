/- rises; CellTicks. -/
import Derived.Test.YthefledeoiegjaaCl
import Derived.Test.YthefledeoiegjaaCr
namespace Go.Proofs.Ythefledeoiegjaa
open Go.RowKit Go.MapKept
theorem newSh_ok (room : Int) (h0 : 0 ≤ room) (h1 : room ≤ 1073741824) : ShOk (newSh room) := ⟨⟨h0, h1⟩, ⟨by show (0 : Int) ≤ 0; decide, by show (0 : Int) ≤ 1000000000; decide⟩, ⟨by show (0 : Int) ≤ 0; decide, by show (0 : Int) ≤ 9223372036854775807; decide⟩⟩
end Go.Proofs.Ythefledeoiegjaa
