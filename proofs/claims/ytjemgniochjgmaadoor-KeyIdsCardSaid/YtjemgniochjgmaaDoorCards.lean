/-
  DERIVED. GIVEN WITH THE SEED: THE CARDS: each row of YtjemgniochjgmaaDoorRows.lean that lists a variable, with what it lists TIED to the program's text (the seventh form; the later family's looks); each row that meets fmt, with fmt's text TOLD by the authors' own Lean function (tested against real Go, not proved from fmt's source: count such statements apart). THE CARD IS WHAT COUNTS. Prove the row's statement (the work); the ties are given (YtjemgniochjgmaaDoorTie.lean); close each card by the builder's one call (the guide's Derived/Test/ToyasCard.lean, 'card_holds'). Laid BY PROGRAM, IN A SANDBOX (cutbox-door.mjs). By AI agents, Wed Nov 11 2026. No macro, syntax, notation, axiom, sorry.
-/
import Derived.Test.YtjemgniochjgmaaDoorRows
import GoSem.ClaimSeven
namespace Go.Proofs.YtjemgniochjgmaaDoor
namespace Rows

/-- THE TIED CARD OF 'hypogeumlaw11.KeyMakes'. -/
def keyMakesCard : Claim7 := { stood := { row := keyMakesRow, standIns := [], harness := (true, "c2e81476966836f2341bd2c054947f6d3275544f533a2671bb3d115aa96d4335"), looks := false }, kinds := [], alts := [], laidByText := true, laidKinds := [.data, .data], laidTests := true, laidLooks := .later }
def KeyMakesCardSaid : Prop := Claim7.holds Tryd.pinned (.plain (OpenSpec.ofChange keyMakesSpec)) keyMakesCard

/-- THE TIED CARD OF 'hypogeumlaw11.KeyIds'. -/
def keyIdsCard : Claim7 := { stood := { row := keyIdsRow, standIns := [], harness := (true, "c2e81476966836f2341bd2c054947f6d3275544f533a2671bb3d115aa96d4335"), looks := false }, kinds := [], alts := [], laidByText := true, laidKinds := [.data, .data], laidTests := true, laidLooks := .later }
def KeyIdsCardSaid : Prop := Claim7.holds Tryd.pinned (.plain (OpenSpec.ofChange keyIdsSpec)) keyIdsCard

/-- THE SECOND FORM's CARD OF 'hypogeumlaw11.KeyMakes'. -/
def keyMakesUptoCard : Claim7 := { stood := { row := keyMakesUptoRow, standIns := [], harness := (true, "c2e81476966836f2341bd2c054947f6d3275544f533a2671bb3d115aa96d4335"), looks := false }, kinds := [], alts := [], laidByText := true, laidKinds := [.data, .data], laidTests := true, laidLooks := .later }
def KeyMakesUptoCardSaid : Prop := Claim7.holds Tryd.pinned (.plain (OpenSpec.upto keyMakesSpec)) keyMakesUptoCard

/-- THE SECOND FORM's CARD OF 'hypogeumlaw11.KeyIds'. -/
def keyIdsUptoCard : Claim7 := { stood := { row := keyIdsUptoRow, standIns := [], harness := (true, "c2e81476966836f2341bd2c054947f6d3275544f533a2671bb3d115aa96d4335"), looks := false }, kinds := [], alts := [], laidByText := true, laidKinds := [.data, .data], laidTests := true, laidLooks := .later }
def KeyIdsUptoCardSaid : Prop := Claim7.holds Tryd.pinned (.plain (OpenSpec.upto keyIdsSpec)) keyIdsUptoCard
end Rows
end Go.Proofs.YtjemgniochjgmaaDoor
