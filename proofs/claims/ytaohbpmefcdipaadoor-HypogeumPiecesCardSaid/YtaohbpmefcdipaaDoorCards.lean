/-
  DERIVED. GIVEN WITH THE SEED: THE CARDS: each row of YtaohbpmefcdipaaDoorRows.lean that lists a variable, with what it lists TIED to the program's text (the seventh form; the later family's looks); each row that meets fmt, with fmt's text TOLD by the authors' own Lean function (tested against real Go, not proved from fmt's source: count such statements apart). THE CARD IS WHAT COUNTS. Prove the row's statement (the work); the ties are given (YtaohbpmefcdipaaDoorTie.lean); close each card by the builder's one call (the guide's Derived/Test/ToyasCard.lean, 'card_holds'). Laid BY PROGRAM, IN A SANDBOX (cutbox-door.mjs). By AI agents, Wed Nov 11 2026. No macro, syntax, notation, axiom, sorry.
-/
import Derived.Test.YtaohbpmefcdipaaDoorRows
import GoSem.ClaimSeven
namespace Go.Proofs.YtaohbpmefcdipaaDoor
namespace Rows

/-- THE TIED CARD OF 'hypogeumlaw09.CellTapes'. -/
def cellTapesCard : Claim7 := { stood := { row := cellTapesRow, standIns := [], harness := (true, "468dc793b84e80462b680435def700b665380ec21bb2a9f84c83358fa9552719"), looks := false }, kinds := [], alts := [], laidByText := true, laidKinds := [.data, .data], laidTests := true, laidLooks := .later }
def CellTapesCardSaid : Prop := Claim7.holds Tryd.pinned (.plain (OpenSpec.ofChange cellTapesSpec)) cellTapesCard

/-- THE TIED CARD OF 'hypogeumtop.HypogeumPieces'. -/
def hypogeumPiecesCard : Claim7 := { stood := { row := hypogeumPiecesRow, standIns := [], harness := (true, "468dc793b84e80462b680435def700b665380ec21bb2a9f84c83358fa9552719"), looks := false }, kinds := [], alts := [], laidByText := true, laidKinds := [.data, .data], laidTests := true, laidLooks := .later }
def HypogeumPiecesCardSaid : Prop := Claim7.holds Tryd.pinned (.plain (OpenSpec.ofChange hypogeumPiecesSpec)) hypogeumPiecesCard

/-- THE TIED CARD OF 'hypogeumtop.HypogeumKnife'. -/
def hypogeumKnifeCard : Claim7 := { stood := { row := hypogeumKnifeRow, standIns := [], harness := (true, "468dc793b84e80462b680435def700b665380ec21bb2a9f84c83358fa9552719"), looks := false }, kinds := [], alts := [], laidByText := true, laidKinds := [.data, .data], laidTests := true, laidLooks := .later }
def HypogeumKnifeCardSaid : Prop := Claim7.holds Tryd.pinned (.plain (OpenSpec.ofChange hypogeumKnifeSpec)) hypogeumKnifeCard

/-- THE SECOND FORM's CARD OF 'hypogeumlaw09.CellTapes'. -/
def cellTapesUptoCard : Claim7 := { stood := { row := cellTapesUptoRow, standIns := [], harness := (true, "468dc793b84e80462b680435def700b665380ec21bb2a9f84c83358fa9552719"), looks := false }, kinds := [], alts := [], laidByText := true, laidKinds := [.data, .data], laidTests := true, laidLooks := .later }
def CellTapesUptoCardSaid : Prop := Claim7.holds Tryd.pinned (.plain (OpenSpec.upto cellTapesSpec)) cellTapesUptoCard

/-- THE SECOND FORM's CARD OF 'hypogeumtop.HypogeumPieces'. -/
def hypogeumPiecesUptoCard : Claim7 := { stood := { row := hypogeumPiecesUptoRow, standIns := [], harness := (true, "468dc793b84e80462b680435def700b665380ec21bb2a9f84c83358fa9552719"), looks := false }, kinds := [], alts := [], laidByText := true, laidKinds := [.data, .data], laidTests := true, laidLooks := .later }
def HypogeumPiecesUptoCardSaid : Prop := Claim7.holds Tryd.pinned (.plain (OpenSpec.upto hypogeumPiecesSpec)) hypogeumPiecesUptoCard

/-- THE SECOND FORM's CARD OF 'hypogeumtop.HypogeumKnife'. -/
def hypogeumKnifeUptoCard : Claim7 := { stood := { row := hypogeumKnifeUptoRow, standIns := [], harness := (true, "468dc793b84e80462b680435def700b665380ec21bb2a9f84c83358fa9552719"), looks := false }, kinds := [], alts := [], laidByText := true, laidKinds := [.data, .data], laidTests := true, laidLooks := .later }
def HypogeumKnifeUptoCardSaid : Prop := Claim7.holds Tryd.pinned (.plain (OpenSpec.upto hypogeumKnifeSpec)) hypogeumKnifeUptoCard
end Rows
end Go.Proofs.YtaohbpmefcdipaaDoor
