/-
  DERIVED. GIVEN WITH THE SEED: THE CARDS: each row of YtjkhokholcchfaaDoorRows.lean that lists a variable, with what it lists TIED to the program's text (the seventh form; the later family's looks); each row that meets fmt, with fmt's text TOLD by the authors' own Lean function (tested against real Go, not proved from fmt's source: count such statements apart). THE CARD IS WHAT COUNTS. Prove the row's statement (the work); the ties are given (YtjkhokholcchfaaDoorTie.lean); close each card by the builder's one call (the guide's Derived/Test/ToyasCard.lean, 'card_holds'). Laid BY PROGRAM, IN A SANDBOX (cutbox-door.mjs). By AI agents, Wed Nov 11 2026. No macro, syntax, notation, axiom, sorry.
-/
import Derived.Test.YtjkhokholcchfaaDoorRows
import GoSem.ClaimSeven
namespace Go.Proofs.YtjkhokholcchfaaDoor
namespace Rows

/-- THE TIED CARD OF 'hypogeumlaw09.CellTapes'. -/
def cellTapesCard : Claim7 := { stood := { row := cellTapesRow, standIns := [], harness := (true, "c7afc43b454aea137a36e57e473b650c97ed2f54dbbccd2fc75112ecab18d944"), looks := false }, kinds := [], alts := [], laidByText := true, laidKinds := [.data, .data], laidTests := true, laidLooks := .later }
def CellTapesCardSaid : Prop := Claim7.holds Tryd.pinned (.plain (OpenSpec.ofChange cellTapesSpec)) cellTapesCard

/-- THE TIED CARD OF 'hypogeumlaw10.WaxSeals'. -/
def waxSealsCard : Claim7 := { stood := { row := waxSealsRow, standIns := [], harness := (true, "c7afc43b454aea137a36e57e473b650c97ed2f54dbbccd2fc75112ecab18d944"), looks := false }, kinds := [], alts := [], laidByText := true, laidKinds := [.data, .data], laidTests := true, laidLooks := .later }
def WaxSealsCardSaid : Prop := Claim7.holds Tryd.pinned (.plain (OpenSpec.ofChange waxSealsSpec)) waxSealsCard

/-- THE TIED CARD OF 'hypogeumlaw10.WaxOpens'. -/
def waxOpensCard : Claim7 := { stood := { row := waxOpensRow, standIns := [], harness := (true, "c7afc43b454aea137a36e57e473b650c97ed2f54dbbccd2fc75112ecab18d944"), looks := false }, kinds := [], alts := [], laidByText := true, laidKinds := [.data, .data], laidTests := true, laidLooks := .later }
def WaxOpensCardSaid : Prop := Claim7.holds Tryd.pinned (.plain (OpenSpec.ofChange waxOpensSpec)) waxOpensCard

/-- THE TIED CARD OF 'hypogeumlaw10.WaxBack'. -/
def waxBackCard : Claim7 := { stood := { row := waxBackRow, standIns := [], harness := (true, "c7afc43b454aea137a36e57e473b650c97ed2f54dbbccd2fc75112ecab18d944"), looks := false }, kinds := [], alts := [], laidByText := true, laidKinds := [.data, .data], laidTests := true, laidLooks := .later }
def WaxBackCardSaid : Prop := Claim7.holds Tryd.pinned (.plain (OpenSpec.ofChange waxBackSpec)) waxBackCard

/-- THE TIED CARD OF 'hypogeumlaw10.WaxBounds'. -/
def waxBoundsCard : Claim7 := { stood := { row := waxBoundsRow, standIns := [], harness := (true, "c7afc43b454aea137a36e57e473b650c97ed2f54dbbccd2fc75112ecab18d944"), looks := false }, kinds := [], alts := [], laidByText := true, laidKinds := [.data, .data], laidTests := true, laidLooks := .later }
def WaxBoundsCardSaid : Prop := Claim7.holds Tryd.pinned (.plain (OpenSpec.ofChange waxBoundsSpec)) waxBoundsCard

/-- THE TIED CARD OF 'hypogeumlaw10.WaxLengths'. -/
def waxLengthsCard : Claim7 := { stood := { row := waxLengthsRow, standIns := [], harness := (true, "c7afc43b454aea137a36e57e473b650c97ed2f54dbbccd2fc75112ecab18d944"), looks := false }, kinds := [], alts := [], laidByText := true, laidKinds := [.data, .data], laidTests := true, laidLooks := .later }
def WaxLengthsCardSaid : Prop := Claim7.holds Tryd.pinned (.plain (OpenSpec.ofChange waxLengthsSpec)) waxLengthsCard

/-- THE TIED CARD OF 'hypogeumlaw11.KeyWrites'. -/
def keyWritesCard : Claim7 := { stood := { row := keyWritesRow, standIns := [], harness := (true, "c7afc43b454aea137a36e57e473b650c97ed2f54dbbccd2fc75112ecab18d944"), looks := false }, kinds := [], alts := [], laidByText := true, laidKinds := [.data, .data], laidTests := true, laidLooks := .later }
def KeyWritesCardSaid : Prop := Claim7.holds Tryd.pinned (.plain (OpenSpec.ofChange keyWritesSpec)) keyWritesCard

/-- THE TIED CARD OF 'hypogeumlaw11.KeyTapes'. -/
def keyTapesCard : Claim7 := { stood := { row := keyTapesRow, standIns := [], harness := (true, "c7afc43b454aea137a36e57e473b650c97ed2f54dbbccd2fc75112ecab18d944"), looks := false }, kinds := [], alts := [], laidByText := true, laidKinds := [.data, .data], laidTests := true, laidLooks := .later }
def KeyTapesCardSaid : Prop := Claim7.holds Tryd.pinned (.plain (OpenSpec.ofChange keyTapesSpec)) keyTapesCard

/-- THE TIED CARD OF 'hypogeumlaw11.KeyHands'. -/
def keyHandsCard : Claim7 := { stood := { row := keyHandsRow, standIns := [], harness := (true, "c7afc43b454aea137a36e57e473b650c97ed2f54dbbccd2fc75112ecab18d944"), looks := false }, kinds := [], alts := [], laidByText := true, laidKinds := [.data, .data], laidTests := true, laidLooks := .later }
def KeyHandsCardSaid : Prop := Claim7.holds Tryd.pinned (.plain (OpenSpec.ofChange keyHandsSpec)) keyHandsCard

/-- THE SECOND FORM's CARD OF 'hypogeumlaw09.CellTapes'. -/
def cellTapesUptoCard : Claim7 := { stood := { row := cellTapesUptoRow, standIns := [], harness := (true, "c7afc43b454aea137a36e57e473b650c97ed2f54dbbccd2fc75112ecab18d944"), looks := false }, kinds := [], alts := [], laidByText := true, laidKinds := [.data, .data], laidTests := true, laidLooks := .later }
def CellTapesUptoCardSaid : Prop := Claim7.holds Tryd.pinned (.plain (OpenSpec.upto cellTapesSpec)) cellTapesUptoCard

/-- THE SECOND FORM's CARD OF 'hypogeumlaw10.WaxSeals'. -/
def waxSealsUptoCard : Claim7 := { stood := { row := waxSealsUptoRow, standIns := [], harness := (true, "c7afc43b454aea137a36e57e473b650c97ed2f54dbbccd2fc75112ecab18d944"), looks := false }, kinds := [], alts := [], laidByText := true, laidKinds := [.data, .data], laidTests := true, laidLooks := .later }
def WaxSealsUptoCardSaid : Prop := Claim7.holds Tryd.pinned (.plain (OpenSpec.upto waxSealsSpec)) waxSealsUptoCard

/-- THE SECOND FORM's CARD OF 'hypogeumlaw10.WaxOpens'. -/
def waxOpensUptoCard : Claim7 := { stood := { row := waxOpensUptoRow, standIns := [], harness := (true, "c7afc43b454aea137a36e57e473b650c97ed2f54dbbccd2fc75112ecab18d944"), looks := false }, kinds := [], alts := [], laidByText := true, laidKinds := [.data, .data], laidTests := true, laidLooks := .later }
def WaxOpensUptoCardSaid : Prop := Claim7.holds Tryd.pinned (.plain (OpenSpec.upto waxOpensSpec)) waxOpensUptoCard

/-- THE SECOND FORM's CARD OF 'hypogeumlaw10.WaxBack'. -/
def waxBackUptoCard : Claim7 := { stood := { row := waxBackUptoRow, standIns := [], harness := (true, "c7afc43b454aea137a36e57e473b650c97ed2f54dbbccd2fc75112ecab18d944"), looks := false }, kinds := [], alts := [], laidByText := true, laidKinds := [.data, .data], laidTests := true, laidLooks := .later }
def WaxBackUptoCardSaid : Prop := Claim7.holds Tryd.pinned (.plain (OpenSpec.upto waxBackSpec)) waxBackUptoCard

/-- THE SECOND FORM's CARD OF 'hypogeumlaw10.WaxBounds'. -/
def waxBoundsUptoCard : Claim7 := { stood := { row := waxBoundsUptoRow, standIns := [], harness := (true, "c7afc43b454aea137a36e57e473b650c97ed2f54dbbccd2fc75112ecab18d944"), looks := false }, kinds := [], alts := [], laidByText := true, laidKinds := [.data, .data], laidTests := true, laidLooks := .later }
def WaxBoundsUptoCardSaid : Prop := Claim7.holds Tryd.pinned (.plain (OpenSpec.upto waxBoundsSpec)) waxBoundsUptoCard

/-- THE SECOND FORM's CARD OF 'hypogeumlaw10.WaxLengths'. -/
def waxLengthsUptoCard : Claim7 := { stood := { row := waxLengthsUptoRow, standIns := [], harness := (true, "c7afc43b454aea137a36e57e473b650c97ed2f54dbbccd2fc75112ecab18d944"), looks := false }, kinds := [], alts := [], laidByText := true, laidKinds := [.data, .data], laidTests := true, laidLooks := .later }
def WaxLengthsUptoCardSaid : Prop := Claim7.holds Tryd.pinned (.plain (OpenSpec.upto waxLengthsSpec)) waxLengthsUptoCard

/-- THE SECOND FORM's CARD OF 'hypogeumlaw11.KeyWrites'. -/
def keyWritesUptoCard : Claim7 := { stood := { row := keyWritesUptoRow, standIns := [], harness := (true, "c7afc43b454aea137a36e57e473b650c97ed2f54dbbccd2fc75112ecab18d944"), looks := false }, kinds := [], alts := [], laidByText := true, laidKinds := [.data, .data], laidTests := true, laidLooks := .later }
def KeyWritesUptoCardSaid : Prop := Claim7.holds Tryd.pinned (.plain (OpenSpec.upto keyWritesSpec)) keyWritesUptoCard

/-- THE SECOND FORM's CARD OF 'hypogeumlaw11.KeyTapes'. -/
def keyTapesUptoCard : Claim7 := { stood := { row := keyTapesUptoRow, standIns := [], harness := (true, "c7afc43b454aea137a36e57e473b650c97ed2f54dbbccd2fc75112ecab18d944"), looks := false }, kinds := [], alts := [], laidByText := true, laidKinds := [.data, .data], laidTests := true, laidLooks := .later }
def KeyTapesUptoCardSaid : Prop := Claim7.holds Tryd.pinned (.plain (OpenSpec.upto keyTapesSpec)) keyTapesUptoCard

/-- THE SECOND FORM's CARD OF 'hypogeumlaw11.KeyHands'. -/
def keyHandsUptoCard : Claim7 := { stood := { row := keyHandsUptoRow, standIns := [], harness := (true, "c7afc43b454aea137a36e57e473b650c97ed2f54dbbccd2fc75112ecab18d944"), looks := false }, kinds := [], alts := [], laidByText := true, laidKinds := [.data, .data], laidTests := true, laidLooks := .later }
def KeyHandsUptoCardSaid : Prop := Claim7.holds Tryd.pinned (.plain (OpenSpec.upto keyHandsSpec)) keyHandsUptoCard
end Rows
end Go.Proofs.YtjkhokholcchfaaDoor
