/-
  No cell of these rows narrows 'for every input' (looked for: loops, veiled, ifaces, maps, wideKeys, modest, calm, conditions, laid).
  DERIVED. THE GIVEN ROWS OF THIS SEAT. 8 by the template 'for every input the law returns true; each argument reads behind the call as it read before'; 0 by the template 'total and deterministic' (their statements: YtfclnpfpddhjiaaTotals.lean).
  GIVEN WITH THE SEED: the statements are not yours to turn. If you find one false, say at which input.
  Laid BY PROGRAM, IN A SANDBOX (cutbox-rows.mjs): the forced cells as the released guide's own fill.sh prints them over the translation 5d804a2cb58b6c91… (all of the seat's roots in one cut). By AI agents, Wed Nov 11 2026. No macro, syntax, notation, axiom, sorry.
-/
import Derived.Test.YtfclnpfpddhjiaaChecked
import GoSem.Claim
import GoSem.ClaimJoined
import GoSem.ClaimMapViews
import Derived.JoinedTies
import Derived.KernelRfl
namespace Go.Proofs.Ytfclnpfpddhjiaa
/- THE CELL 'sum', in the pinned program and in every row, IS THE sha256 OF THE DUMP (.gsa) THAT YtfclnpfpddhjiaaProg.lean LOADS. Nothing in Lean hashes anything: it is a label: what it is worth is what the hold of that sum in a sandbox is worth. -/
noncomputable def Try.pinned : Pinned := { name := "ytfclnpfpddhjiaa", sum := "5d804a2cb58b6c9120c44989d110dee4a29b593e34d33537e78fc24b894ac0e1", checked := Try.checked }
namespace Rows
def none {H : Type} : Left H := { results := [], args := [] }

/-- 'hypogeumlaw08.ShelfNames': WHATEVER THE INPUT: true; the input reads as it did. -/
def shelfNamesSpec : ChangeSpec := { name := "shelfNames", fn := fun _ => fun
  | [d] => { results := [.lit (.bool true)], args := [d] }
  | _ => none }
def shelfNamesRow : OpenClaim := { program := "ytfclnpfpddhjiaa", sum := "5d804a2cb58b6c9120c44989d110dee4a29b593e34d33537e78fc24b894ac0e1", func := "hypogeum/hypogeumlaw08.ShelfNames", spec := "shelfNames", inPlace := ["internal/abi.NoEscape"], recurses := true, apart := false }
def ShelfNamesSaid : Prop := shelfNamesRow.holds Try.pinned (OpenSpec.ofChange shelfNamesSpec)

/-- ITS FALSE NEIGHBOUR: 'it returns false'. Refute it at one input. -/
def shelfNamesWrong : ChangeSpec := { name := "shelfNames", fn := fun _ => fun
  | [d] => { results := [.lit (.bool false)], args := [d] }
  | _ => none }
def ShelfNamesWrongFalsely : Prop := shelfNamesRow.holds Try.pinned (OpenSpec.ofChange shelfNamesWrong)

/-- 'hypogeumlaw08.ShelfKeeps': WHATEVER THE INPUT: true; the input reads as it did. -/
def shelfKeepsSpec : ChangeSpec := { name := "shelfKeeps", fn := fun _ => fun
  | [d] => { results := [.lit (.bool true)], args := [d] }
  | _ => none }
def shelfKeepsRow : OpenClaim := { program := "ytfclnpfpddhjiaa", sum := "5d804a2cb58b6c9120c44989d110dee4a29b593e34d33537e78fc24b894ac0e1", func := "hypogeum/hypogeumlaw08.ShelfKeeps", spec := "shelfKeeps", inPlace := ["internal/abi.NoEscape"], recurses := true, apart := false }
def ShelfKeepsSaid : Prop := shelfKeepsRow.holds Try.pinned (OpenSpec.ofChange shelfKeepsSpec)

/-- ITS FALSE NEIGHBOUR: 'it returns false'. Refute it at one input. -/
def shelfKeepsWrong : ChangeSpec := { name := "shelfKeeps", fn := fun _ => fun
  | [d] => { results := [.lit (.bool false)], args := [d] }
  | _ => none }
def ShelfKeepsWrongFalsely : Prop := shelfKeepsRow.holds Try.pinned (OpenSpec.ofChange shelfKeepsWrong)

/-- 'hypogeumlaw08.ShelfSteps': WHATEVER THE INPUT: true; the input reads as it did. -/
def shelfStepsSpec : ChangeSpec := { name := "shelfSteps", fn := fun _ => fun
  | [d1, d2] => { results := [.lit (.bool true)], args := [d1, d2] }
  | _ => none }
def shelfStepsRow : OpenClaim := { program := "ytfclnpfpddhjiaa", sum := "5d804a2cb58b6c9120c44989d110dee4a29b593e34d33537e78fc24b894ac0e1", func := "hypogeum/hypogeumlaw08.ShelfSteps", spec := "shelfSteps", inPlace := ["internal/abi.NoEscape"], recurses := true, apart := false }
def ShelfStepsSaid : Prop := shelfStepsRow.holds Try.pinned (OpenSpec.ofChange shelfStepsSpec)

/-- ITS FALSE NEIGHBOUR: 'it returns false'. Refute it at one input. -/
def shelfStepsWrong : ChangeSpec := { name := "shelfSteps", fn := fun _ => fun
  | [d1, d2] => { results := [.lit (.bool false)], args := [d1, d2] }
  | _ => none }
def ShelfStepsWrongFalsely : Prop := shelfStepsRow.holds Try.pinned (OpenSpec.ofChange shelfStepsWrong)

/-- 'hypogeumlaw08.ShelfRooms': WHATEVER THE INPUT: true; the input reads as it did. -/
def shelfRoomsSpec : ChangeSpec := { name := "shelfRooms", fn := fun _ => fun
  | [d1, d2, d3] => { results := [.lit (.bool true)], args := [d1, d2, d3] }
  | _ => none }
def shelfRoomsRow : OpenClaim := { program := "ytfclnpfpddhjiaa", sum := "5d804a2cb58b6c9120c44989d110dee4a29b593e34d33537e78fc24b894ac0e1", func := "hypogeum/hypogeumlaw08.ShelfRooms", spec := "shelfRooms", inPlace := ["internal/abi.NoEscape"], recurses := true, apart := false }
def ShelfRoomsSaid : Prop := shelfRoomsRow.holds Try.pinned (OpenSpec.ofChange shelfRoomsSpec)

/-- ITS FALSE NEIGHBOUR: 'it returns false'. Refute it at one input. -/
def shelfRoomsWrong : ChangeSpec := { name := "shelfRooms", fn := fun _ => fun
  | [d1, d2, d3] => { results := [.lit (.bool false)], args := [d1, d2, d3] }
  | _ => none }
def ShelfRoomsWrongFalsely : Prop := shelfRoomsRow.holds Try.pinned (OpenSpec.ofChange shelfRoomsWrong)

/-- 'hypogeumlaw09.CellPulses': WHATEVER THE INPUT: true; the input reads as it did. -/
def cellPulsesSpec : ChangeSpec := { name := "cellPulses", fn := fun _ => fun
  | [d] => { results := [.lit (.bool true)], args := [d] }
  | _ => none }
def cellPulsesRow : OpenClaim := { program := "ytfclnpfpddhjiaa", sum := "5d804a2cb58b6c9120c44989d110dee4a29b593e34d33537e78fc24b894ac0e1", func := "hypogeum/hypogeumlaw09.CellPulses", spec := "cellPulses", inPlace := ["maps.clone", "internal/abi.NoEscape"], recurses := true, apart := false }
def CellPulsesSaid : Prop := cellPulsesRow.holds Try.pinned (OpenSpec.ofChange cellPulsesSpec)

/-- ITS FALSE NEIGHBOUR: 'it returns false'. Refute it at one input. -/
def cellPulsesWrong : ChangeSpec := { name := "cellPulses", fn := fun _ => fun
  | [d] => { results := [.lit (.bool false)], args := [d] }
  | _ => none }
def CellPulsesWrongFalsely : Prop := cellPulsesRow.holds Try.pinned (OpenSpec.ofChange cellPulsesWrong)

/-- 'hypogeumlaw09.CellTicks': WHATEVER THE INPUT: true; the input reads as it did. -/
def cellTicksSpec : ChangeSpec := { name := "cellTicks", fn := fun _ => fun
  | [d] => { results := [.lit (.bool true)], args := [d] }
  | _ => none }
def cellTicksRow : OpenClaim := { program := "ytfclnpfpddhjiaa", sum := "5d804a2cb58b6c9120c44989d110dee4a29b593e34d33537e78fc24b894ac0e1", func := "hypogeum/hypogeumlaw09.CellTicks", spec := "cellTicks", recurses := true, apart := false }
def CellTicksSaid : Prop := cellTicksRow.holds Try.pinned (OpenSpec.ofChange cellTicksSpec)

/-- ITS FALSE NEIGHBOUR: 'it returns false'. Refute it at one input. -/
def cellTicksWrong : ChangeSpec := { name := "cellTicks", fn := fun _ => fun
  | [d] => { results := [.lit (.bool false)], args := [d] }
  | _ => none }
def CellTicksWrongFalsely : Prop := cellTicksRow.holds Try.pinned (OpenSpec.ofChange cellTicksWrong)

/-- 'hypogeumlaw09.CellStands': WHATEVER THE INPUT: true; the input reads as it did. -/
def cellStandsSpec : ChangeSpec := { name := "cellStands", fn := fun _ => fun
  | [d1, d2, d3] => { results := [.lit (.bool true)], args := [d1, d2, d3] }
  | _ => none }
def cellStandsRow : OpenClaim := { program := "ytfclnpfpddhjiaa", sum := "5d804a2cb58b6c9120c44989d110dee4a29b593e34d33537e78fc24b894ac0e1", func := "hypogeum/hypogeumlaw09.CellStands", spec := "cellStands", inPlace := ["maps.clone"], recurses := true, apart := false }
def CellStandsSaid : Prop := cellStandsRow.holds Try.pinned (OpenSpec.ofChange cellStandsSpec)

/-- ITS FALSE NEIGHBOUR: 'it returns false'. Refute it at one input. -/
def cellStandsWrong : ChangeSpec := { name := "cellStands", fn := fun _ => fun
  | [d1, d2, d3] => { results := [.lit (.bool false)], args := [d1, d2, d3] }
  | _ => none }
def CellStandsWrongFalsely : Prop := cellStandsRow.holds Try.pinned (OpenSpec.ofChange cellStandsWrong)

/-- 'hypogeumlaw09.CellOrders': WHATEVER THE INPUT: true; the input reads as it did. -/
def cellOrdersSpec : ChangeSpec := { name := "cellOrders", fn := fun _ => fun
  | [d] => { results := [.lit (.bool true)], args := [d] }
  | _ => none }
def cellOrdersRow : OpenClaim := { program := "ytfclnpfpddhjiaa", sum := "5d804a2cb58b6c9120c44989d110dee4a29b593e34d33537e78fc24b894ac0e1", func := "hypogeum/hypogeumlaw09.CellOrders", spec := "cellOrders", recurses := true, apart := false }
def CellOrdersSaid : Prop := cellOrdersRow.holds Try.pinned (OpenSpec.ofChange cellOrdersSpec)

/-- ITS FALSE NEIGHBOUR: 'it returns false'. Refute it at one input. -/
def cellOrdersWrong : ChangeSpec := { name := "cellOrders", fn := fun _ => fun
  | [d] => { results := [.lit (.bool false)], args := [d] }
  | _ => none }
def CellOrdersWrongFalsely : Prop := cellOrdersRow.holds Try.pinned (OpenSpec.ofChange cellOrdersWrong)

/- THE SECOND FORM. 'bulk': how many values and letters a reading holds, each counted each time it is reached (what is shared counts as often as it is met; a slice's spare places count too). A statement '..UptoSaid' is the law's where the arguments, and the package variables that the reading takes, are together of bulk at most 1048576: NARROWER than '..Said'. Prove '..Said' where nothing that the law and all that it calls make is longer than what came in: it says more and counts as full. Else prove '..UptoSaid'. A law counts once. -/
mutual
def uptoBulk {H : Type} : DataW H → Nat
  | .lit (.string bytes) => bytes.length + 1
  | .lit _ => 1
  | .nil => 1
  | .ptr d => uptoBulk d + 1
  | .slice elems spare => uptoBulkAll elems + uptoBulkAll spare + 1
  | .agg parts => uptoBulkAll parts + 1
  | .iface _ d => uptoBulk d + 1
  | .map entries => uptoBulkEntries entries + 1
  | .held _ => 1
def uptoBulkAll {H : Type} : List (DataW H) → Nat
  | [] => 0
  | d :: r => uptoBulk d + uptoBulkAll r
def uptoBulkEntries {H : Type} : List (Lit × DataW H) → Nat
  | [] => 0
  | x :: r => uptoBulkEntry x + uptoBulkEntries r
def uptoBulkEntry {H : Type} : Lit × DataW H → Nat
  | (.string bytes, d) => bytes.length + uptoBulk d + 1
  | (_, d) => uptoBulk d + 1
 end
def uptoSmall : (H : Type) → List (DataW H) → Bool := fun _ ds => decide (uptoBulkAll ds ≤ 1048576)
def OpenSpec.upto (s : _root_.Go.ChangeSpec) : _root_.Go.OpenSpec := { _root_.Go.OpenSpec.ofChange s with cond := some uptoSmall }

/-- 'hypogeumlaw08.ShelfNames', WHERE WHAT IT READS IS OF BULK AT MOST 1048576: true; the input reads as it did. -/
def shelfNamesUptoRow : OpenClaim := { program := "ytfclnpfpddhjiaa", sum := "5d804a2cb58b6c9120c44989d110dee4a29b593e34d33537e78fc24b894ac0e1", func := "hypogeum/hypogeumlaw08.ShelfNames", spec := "shelfNames", inPlace := ["internal/abi.NoEscape"], recurses := true, apart := false, narrowed := true }
def ShelfNamesUptoSaid : Prop := shelfNamesUptoRow.holds Try.pinned (OpenSpec.upto shelfNamesSpec)

/-- 'hypogeumlaw08.ShelfKeeps', WHERE WHAT IT READS IS OF BULK AT MOST 1048576: true; the input reads as it did. -/
def shelfKeepsUptoRow : OpenClaim := { program := "ytfclnpfpddhjiaa", sum := "5d804a2cb58b6c9120c44989d110dee4a29b593e34d33537e78fc24b894ac0e1", func := "hypogeum/hypogeumlaw08.ShelfKeeps", spec := "shelfKeeps", inPlace := ["internal/abi.NoEscape"], recurses := true, apart := false, narrowed := true }
def ShelfKeepsUptoSaid : Prop := shelfKeepsUptoRow.holds Try.pinned (OpenSpec.upto shelfKeepsSpec)

/-- 'hypogeumlaw08.ShelfSteps', WHERE WHAT IT READS IS OF BULK AT MOST 1048576: true; the input reads as it did. -/
def shelfStepsUptoRow : OpenClaim := { program := "ytfclnpfpddhjiaa", sum := "5d804a2cb58b6c9120c44989d110dee4a29b593e34d33537e78fc24b894ac0e1", func := "hypogeum/hypogeumlaw08.ShelfSteps", spec := "shelfSteps", inPlace := ["internal/abi.NoEscape"], recurses := true, apart := false, narrowed := true }
def ShelfStepsUptoSaid : Prop := shelfStepsUptoRow.holds Try.pinned (OpenSpec.upto shelfStepsSpec)

/-- 'hypogeumlaw08.ShelfRooms', WHERE WHAT IT READS IS OF BULK AT MOST 1048576: true; the input reads as it did. -/
def shelfRoomsUptoRow : OpenClaim := { program := "ytfclnpfpddhjiaa", sum := "5d804a2cb58b6c9120c44989d110dee4a29b593e34d33537e78fc24b894ac0e1", func := "hypogeum/hypogeumlaw08.ShelfRooms", spec := "shelfRooms", inPlace := ["internal/abi.NoEscape"], recurses := true, apart := false, narrowed := true }
def ShelfRoomsUptoSaid : Prop := shelfRoomsUptoRow.holds Try.pinned (OpenSpec.upto shelfRoomsSpec)

/-- 'hypogeumlaw09.CellPulses', WHERE WHAT IT READS IS OF BULK AT MOST 1048576: true; the input reads as it did. -/
def cellPulsesUptoRow : OpenClaim := { program := "ytfclnpfpddhjiaa", sum := "5d804a2cb58b6c9120c44989d110dee4a29b593e34d33537e78fc24b894ac0e1", func := "hypogeum/hypogeumlaw09.CellPulses", spec := "cellPulses", inPlace := ["maps.clone", "internal/abi.NoEscape"], recurses := true, apart := false, narrowed := true }
def CellPulsesUptoSaid : Prop := cellPulsesUptoRow.holds Try.pinned (OpenSpec.upto cellPulsesSpec)

/-- 'hypogeumlaw09.CellTicks', WHERE WHAT IT READS IS OF BULK AT MOST 1048576: true; the input reads as it did. -/
def cellTicksUptoRow : OpenClaim := { program := "ytfclnpfpddhjiaa", sum := "5d804a2cb58b6c9120c44989d110dee4a29b593e34d33537e78fc24b894ac0e1", func := "hypogeum/hypogeumlaw09.CellTicks", spec := "cellTicks", recurses := true, apart := false, narrowed := true }
def CellTicksUptoSaid : Prop := cellTicksUptoRow.holds Try.pinned (OpenSpec.upto cellTicksSpec)

/-- 'hypogeumlaw09.CellStands', WHERE WHAT IT READS IS OF BULK AT MOST 1048576: true; the input reads as it did. -/
def cellStandsUptoRow : OpenClaim := { program := "ytfclnpfpddhjiaa", sum := "5d804a2cb58b6c9120c44989d110dee4a29b593e34d33537e78fc24b894ac0e1", func := "hypogeum/hypogeumlaw09.CellStands", spec := "cellStands", inPlace := ["maps.clone"], recurses := true, apart := false, narrowed := true }
def CellStandsUptoSaid : Prop := cellStandsUptoRow.holds Try.pinned (OpenSpec.upto cellStandsSpec)

/-- 'hypogeumlaw09.CellOrders', WHERE WHAT IT READS IS OF BULK AT MOST 1048576: true; the input reads as it did. -/
def cellOrdersUptoRow : OpenClaim := { program := "ytfclnpfpddhjiaa", sum := "5d804a2cb58b6c9120c44989d110dee4a29b593e34d33537e78fc24b894ac0e1", func := "hypogeum/hypogeumlaw09.CellOrders", spec := "cellOrders", recurses := true, apart := false, narrowed := true }
def CellOrdersUptoSaid : Prop := cellOrdersUptoRow.holds Try.pinned (OpenSpec.upto cellOrdersSpec)

end Rows
end Go.Proofs.Ytfclnpfpddhjiaa
