/-
  DERIVED. GIVEN WITH THE SEED: THE CARDS: each row of YthgmebdbccjmlaaDoorRows.lean that lists a variable, with what it lists TIED to the program's text (the seventh form; the later family's looks); each row that meets fmt, with fmt's text TOLD by the authors' own Lean function (tested against real Go, not proved from fmt's source: count such statements apart). THE CARD IS WHAT COUNTS. Prove the row's statement (the work); the ties are given (YthgmebdbccjmlaaDoorTie.lean); close each card by the builder's one call (the guide's Derived/Test/ToyasCard.lean, 'card_holds'). Laid BY PROGRAM, IN A SANDBOX (cutbox-door.mjs). By AI agents, Wed Nov 11 2026. No macro, syntax, notation, axiom, sorry.
-/
import Derived.Test.YthgmebdbccjmlaaDoorRows
import GoSem.ClaimSeven
namespace Go.Proofs.YthgmebdbccjmlaaDoor
namespace Rows

/-- THE TIED CARD OF 'hypogeumlaw01.SumOf'. -/
def sumOfCard : Claim7 := { stood := { row := sumOfRow, standIns := [], harness := (true, "9aeaf725c03357a69ee5582c095dd4e962f64f0f423e8be5ffeb36856e7e7952"), looks := false }, kinds := [], alts := [], laidByText := true, laidKinds := [.data, .data], laidTests := true, laidLooks := .later }
def SumOfCardSaid : Prop := Claim7.holds Tryd.pinned (.plain (OpenSpec.ofChange sumOfSpec)) sumOfCard

/-- THE TIED CARD OF 'hypogeumlaw01.SumKeyed'. -/
def sumKeyedCard : Claim7 := { stood := { row := sumKeyedRow, standIns := [], harness := (true, "9aeaf725c03357a69ee5582c095dd4e962f64f0f423e8be5ffeb36856e7e7952"), looks := false }, kinds := [], alts := [], laidByText := true, laidKinds := [.data, .data], laidTests := true, laidLooks := .later }
def SumKeyedCardSaid : Prop := Claim7.holds Tryd.pinned (.plain (OpenSpec.ofChange sumKeyedSpec)) sumKeyedCard

/-- THE TIED CARD OF 'hypogeumlaw01.SumTexts'. -/
def sumTextsCard : Claim7 := { stood := { row := sumTextsRow, standIns := [], harness := (true, "9aeaf725c03357a69ee5582c095dd4e962f64f0f423e8be5ffeb36856e7e7952"), looks := false }, kinds := [], alts := [], laidByText := true, laidKinds := [.data, .data], laidTests := true, laidLooks := .later }
def SumTextsCardSaid : Prop := Claim7.holds Tryd.pinned (.plain (OpenSpec.ofChange sumTextsSpec)) sumTextsCard

/-- THE TIED CARD OF 'hypogeumlaw01.SumSame'. -/
def sumSameCard : Claim7 := { stood := { row := sumSameRow, standIns := [], harness := (true, "9aeaf725c03357a69ee5582c095dd4e962f64f0f423e8be5ffeb36856e7e7952"), looks := false }, kinds := [], alts := [], laidByText := true, laidKinds := [.data, .data], laidTests := true, laidLooks := .later }
def SumSameCardSaid : Prop := Claim7.holds Tryd.pinned (.plain (OpenSpec.ofChange sumSameSpec)) sumSameCard

/-- THE TIED CARD OF 'hypogeumlaw01.SumStretches'. -/
def sumStretchesCard : Claim7 := { stood := { row := sumStretchesRow, standIns := [], harness := (true, "9aeaf725c03357a69ee5582c095dd4e962f64f0f423e8be5ffeb36856e7e7952"), looks := false }, kinds := [], alts := [], laidByText := true, laidKinds := [.data, .data], laidTests := true, laidLooks := .later }
def SumStretchesCardSaid : Prop := Claim7.holds Tryd.pinned (.plain (OpenSpec.ofChange sumStretchesSpec)) sumStretchesCard

/-- THE TIED CARD OF 'hypogeumlaw01.SumLeaves'. -/
def sumLeavesCard : Claim7 := { stood := { row := sumLeavesRow, standIns := [], harness := (true, "9aeaf725c03357a69ee5582c095dd4e962f64f0f423e8be5ffeb36856e7e7952"), looks := false }, kinds := [], alts := [], laidByText := true, laidKinds := [.data, .data], laidTests := true, laidLooks := .later }
def SumLeavesCardSaid : Prop := Claim7.holds Tryd.pinned (.plain (OpenSpec.ofChange sumLeavesSpec)) sumLeavesCard

/-- THE TIED CARD OF 'hypogeumlaw01.SumMixes'. -/
def sumMixesCard : Claim7 := { stood := { row := sumMixesRow, standIns := [], harness := (true, "9aeaf725c03357a69ee5582c095dd4e962f64f0f423e8be5ffeb36856e7e7952"), looks := false }, kinds := [], alts := [], laidByText := true, laidKinds := [.data, .data], laidTests := true, laidLooks := .later }
def SumMixesCardSaid : Prop := Claim7.holds Tryd.pinned (.plain (OpenSpec.ofChange sumMixesSpec)) sumMixesCard

/-- THE SECOND FORM's CARD OF 'hypogeumlaw01.SumOf'. -/
def sumOfUptoCard : Claim7 := { stood := { row := sumOfUptoRow, standIns := [], harness := (true, "9aeaf725c03357a69ee5582c095dd4e962f64f0f423e8be5ffeb36856e7e7952"), looks := false }, kinds := [], alts := [], laidByText := true, laidKinds := [.data, .data], laidTests := true, laidLooks := .later }
def SumOfUptoCardSaid : Prop := Claim7.holds Tryd.pinned (.plain (OpenSpec.upto sumOfSpec)) sumOfUptoCard

/-- THE SECOND FORM's CARD OF 'hypogeumlaw01.SumKeyed'. -/
def sumKeyedUptoCard : Claim7 := { stood := { row := sumKeyedUptoRow, standIns := [], harness := (true, "9aeaf725c03357a69ee5582c095dd4e962f64f0f423e8be5ffeb36856e7e7952"), looks := false }, kinds := [], alts := [], laidByText := true, laidKinds := [.data, .data], laidTests := true, laidLooks := .later }
def SumKeyedUptoCardSaid : Prop := Claim7.holds Tryd.pinned (.plain (OpenSpec.upto sumKeyedSpec)) sumKeyedUptoCard

/-- THE SECOND FORM's CARD OF 'hypogeumlaw01.SumTexts'. -/
def sumTextsUptoCard : Claim7 := { stood := { row := sumTextsUptoRow, standIns := [], harness := (true, "9aeaf725c03357a69ee5582c095dd4e962f64f0f423e8be5ffeb36856e7e7952"), looks := false }, kinds := [], alts := [], laidByText := true, laidKinds := [.data, .data], laidTests := true, laidLooks := .later }
def SumTextsUptoCardSaid : Prop := Claim7.holds Tryd.pinned (.plain (OpenSpec.upto sumTextsSpec)) sumTextsUptoCard

/-- THE SECOND FORM's CARD OF 'hypogeumlaw01.SumSame'. -/
def sumSameUptoCard : Claim7 := { stood := { row := sumSameUptoRow, standIns := [], harness := (true, "9aeaf725c03357a69ee5582c095dd4e962f64f0f423e8be5ffeb36856e7e7952"), looks := false }, kinds := [], alts := [], laidByText := true, laidKinds := [.data, .data], laidTests := true, laidLooks := .later }
def SumSameUptoCardSaid : Prop := Claim7.holds Tryd.pinned (.plain (OpenSpec.upto sumSameSpec)) sumSameUptoCard

/-- THE SECOND FORM's CARD OF 'hypogeumlaw01.SumStretches'. -/
def sumStretchesUptoCard : Claim7 := { stood := { row := sumStretchesUptoRow, standIns := [], harness := (true, "9aeaf725c03357a69ee5582c095dd4e962f64f0f423e8be5ffeb36856e7e7952"), looks := false }, kinds := [], alts := [], laidByText := true, laidKinds := [.data, .data], laidTests := true, laidLooks := .later }
def SumStretchesUptoCardSaid : Prop := Claim7.holds Tryd.pinned (.plain (OpenSpec.upto sumStretchesSpec)) sumStretchesUptoCard

/-- THE SECOND FORM's CARD OF 'hypogeumlaw01.SumLeaves'. -/
def sumLeavesUptoCard : Claim7 := { stood := { row := sumLeavesUptoRow, standIns := [], harness := (true, "9aeaf725c03357a69ee5582c095dd4e962f64f0f423e8be5ffeb36856e7e7952"), looks := false }, kinds := [], alts := [], laidByText := true, laidKinds := [.data, .data], laidTests := true, laidLooks := .later }
def SumLeavesUptoCardSaid : Prop := Claim7.holds Tryd.pinned (.plain (OpenSpec.upto sumLeavesSpec)) sumLeavesUptoCard

/-- THE SECOND FORM's CARD OF 'hypogeumlaw01.SumMixes'. -/
def sumMixesUptoCard : Claim7 := { stood := { row := sumMixesUptoRow, standIns := [], harness := (true, "9aeaf725c03357a69ee5582c095dd4e962f64f0f423e8be5ffeb36856e7e7952"), looks := false }, kinds := [], alts := [], laidByText := true, laidKinds := [.data, .data], laidTests := true, laidLooks := .later }
def SumMixesUptoCardSaid : Prop := Claim7.holds Tryd.pinned (.plain (OpenSpec.upto sumMixesSpec)) sumMixesUptoCard
end Rows
end Go.Proofs.YthgmebdbccjmlaaDoor
