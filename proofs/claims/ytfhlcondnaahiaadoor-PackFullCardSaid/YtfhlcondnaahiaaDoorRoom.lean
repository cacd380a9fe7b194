/- make with room, and append into that room: the block is known whole. -/
import Derived.Test.YtfhlcondnaahiaaDoorHc
import Derived.Laws.MakeOwn
namespace Go.Proofs.YtfhlcondnaahiaaDoor
open Go.RowKit Sha

theorem made_zeros (n : Nat) : madeCells (Value.int .u8 0).cells (n * 1) = (byteCells (List.replicate n 0)).toArray := by
  apply Array.ext
  · simp [madeCells, byteCells]
  · intro j h1 h2
    simp [madeCells, byteCells, Value.cells, Nat.mod_one]
    rfl
end Go.Proofs.YtfhlcondnaahiaaDoor
