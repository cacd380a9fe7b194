/-
  DERIVED. GIVEN WITH THE SEED: THE CARDS: each row of YtfhlcondnaahiaaDoorRows.lean that lists a variable, with what it lists TIED to the program's text (the seventh form; the later family's looks); each row that meets fmt, with fmt's text TOLD by the authors' own Lean function (tested against real Go, not proved from fmt's source: count such statements apart). THE CARD IS WHAT COUNTS. Prove the row's statement (the work); the ties are given (YtfhlcondnaahiaaDoorTie.lean); close each card by the builder's one call (the guide's Derived/Test/ToyasCard.lean, 'card_holds'). Laid BY PROGRAM, IN A SANDBOX (cutbox-door.mjs). By AI agents, Wed Nov 11 2026. No macro, syntax, notation, axiom, sorry.
-/
import Derived.Test.YtfhlcondnaahiaaDoorRows
import GoSem.ClaimSeven
namespace Go.Proofs.YtfhlcondnaahiaaDoor
namespace Rows

/-- THE TIED CARD OF 'hypogeumlaw12.PackWrites'. -/
def packWritesCard : Claim7 := { stood := { row := packWritesRow, standIns := [], harness := (true, "1f755064a36d10a485e670f2e895fda145abfb189ea606c83e870c1e2704d510"), looks := false }, kinds := [], alts := [], laidByText := true, laidKinds := [.data, .data], laidTests := true, laidLooks := .later }
def PackWritesCardSaid : Prop := Claim7.holds Tryd.pinned (.plain (OpenSpec.ofChange packWritesSpec)) packWritesCard

/-- THE TIED CARD OF 'hypogeumlaw12.PackBack'. -/
def packBackCard : Claim7 := { stood := { row := packBackRow, standIns := [], harness := (true, "1f755064a36d10a485e670f2e895fda145abfb189ea606c83e870c1e2704d510"), looks := false }, kinds := [], alts := [], laidByText := true, laidKinds := [.data, .data], laidTests := true, laidLooks := .later }
def PackBackCardSaid : Prop := Claim7.holds Tryd.pinned (.plain (OpenSpec.ofChange packBackSpec)) packBackCard

/-- THE TIED CARD OF 'hypogeumlaw12.PackFull'. -/
def packFullCard : Claim7 := { stood := { row := packFullRow, standIns := [], harness := (true, "1f755064a36d10a485e670f2e895fda145abfb189ea606c83e870c1e2704d510"), looks := false }, kinds := [], alts := [], laidByText := true, laidKinds := [.data, .data], laidTests := true, laidLooks := .later }
def PackFullCardSaid : Prop := Claim7.holds Tryd.pinned (.plain (OpenSpec.ofChange packFullSpec)) packFullCard

/-- THE TIED CARD OF 'hypogeumlaw12.PackSizes'. -/
def packSizesCard : Claim7 := { stood := { row := packSizesRow, standIns := [], harness := (true, "1f755064a36d10a485e670f2e895fda145abfb189ea606c83e870c1e2704d510"), looks := false }, kinds := [], alts := [], laidByText := true, laidKinds := [.data, .data], laidTests := true, laidLooks := .later }
def PackSizesCardSaid : Prop := Claim7.holds Tryd.pinned (.plain (OpenSpec.ofChange packSizesSpec)) packSizesCard

/-- THE SECOND FORM's CARD OF 'hypogeumlaw12.PackWrites'. -/
def packWritesUptoCard : Claim7 := { stood := { row := packWritesUptoRow, standIns := [], harness := (true, "1f755064a36d10a485e670f2e895fda145abfb189ea606c83e870c1e2704d510"), looks := false }, kinds := [], alts := [], laidByText := true, laidKinds := [.data, .data], laidTests := true, laidLooks := .later }
def PackWritesUptoCardSaid : Prop := Claim7.holds Tryd.pinned (.plain (OpenSpec.upto packWritesSpec)) packWritesUptoCard

/-- THE SECOND FORM's CARD OF 'hypogeumlaw12.PackBack'. -/
def packBackUptoCard : Claim7 := { stood := { row := packBackUptoRow, standIns := [], harness := (true, "1f755064a36d10a485e670f2e895fda145abfb189ea606c83e870c1e2704d510"), looks := false }, kinds := [], alts := [], laidByText := true, laidKinds := [.data, .data], laidTests := true, laidLooks := .later }
def PackBackUptoCardSaid : Prop := Claim7.holds Tryd.pinned (.plain (OpenSpec.upto packBackSpec)) packBackUptoCard

/-- THE SECOND FORM's CARD OF 'hypogeumlaw12.PackFull'. -/
def packFullUptoCard : Claim7 := { stood := { row := packFullUptoRow, standIns := [], harness := (true, "1f755064a36d10a485e670f2e895fda145abfb189ea606c83e870c1e2704d510"), looks := false }, kinds := [], alts := [], laidByText := true, laidKinds := [.data, .data], laidTests := true, laidLooks := .later }
def PackFullUptoCardSaid : Prop := Claim7.holds Tryd.pinned (.plain (OpenSpec.upto packFullSpec)) packFullUptoCard

/-- THE SECOND FORM's CARD OF 'hypogeumlaw12.PackSizes'. -/
def packSizesUptoCard : Claim7 := { stood := { row := packSizesUptoRow, standIns := [], harness := (true, "1f755064a36d10a485e670f2e895fda145abfb189ea606c83e870c1e2704d510"), looks := false }, kinds := [], alts := [], laidByText := true, laidKinds := [.data, .data], laidTests := true, laidLooks := .later }
def PackSizesUptoCardSaid : Prop := Claim7.holds Tryd.pinned (.plain (OpenSpec.upto packSizesSpec)) packSizesUptoCard
end Rows
end Go.Proofs.YtfhlcondnaahiaaDoor
