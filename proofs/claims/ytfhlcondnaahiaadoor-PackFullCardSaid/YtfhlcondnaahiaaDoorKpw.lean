/- A pen that writes with its tape, and one without. -/
import Derived.Test.YtfhlcondnaahiaaDoorKwr
import Derived.Test.YtfhlcondnaahiaaDoorHb
namespace Go.Proofs.YtfhlcondnaahiaaDoor
open Go.RowKit Sha

theorem tables.but {X Y : World} {tb : Nat} (h : tables X) (k : But tb X Y) (htb : 1 ≠ tb ∧ 0 ≠ tb) : tables Y :=
  ⟨fun j hj => k.cell (h.1 j hj) htb.1, fun j x hj => k.cell (h.2.1 j x hj) htb.2, Nat.lt_of_lt_of_le h.2.2.1 k.size, Nat.lt_of_lt_of_le h.2.2.2 k.size⟩
theorem pen3 (H M C : List UInt8) (tb : Nat) : penCells (H ++ (M ++ C)) tb = keyCells H M ++ (byteCells C ++ [Value.pointer (some ⟨tb, 0, none⟩)]) := by
  simp [penCells, keyCells, byteCells]
theorem tbytes_16 (F : List UInt8) (told : Nat) : (tbytes F told 16).length = 16 := tbytes_length _ _ _

/-- A pen writes: its tape's next nonce. -/
theorem pwrite_any (H M C : List UInt8) (tb : Nat) (fa : Option Addr) (fc : Nat) (F : List UInt8) (told : Nat) (kd : UInt8) (nm : List UInt8) (pa : Option Addr) (pc : Nat) (ls : List (List UInt8)) (w : World)
    (hH : H.length = 32) (hM : M.length = 32) (hC : C.length = 32) (hl : ls.length ≤ 100000) (hm : ls.flatten.length ≤ 800000) (hP : ∀ X, But tb w X → partsW X pa ls) (ht : tables w) (htb : 1 ≠ tb ∧ 0 ≠ tb)
    (h : tapeAt w tb fa fc F told) (ht2 : told ≤ 100000000) :
    Calls Tryd.prog 26 #[.agg (penCells (H ++ (M ++ C)) tb).toArray, .int .u8 (V kd), .string (str nm), .slice pa ls.length pc] w fun e w' => ∃ v, e = .returned (.tuple #[v, .int .i64 (sealR H M kd nm (tbytes F told 16) ls.flatten).2]) ∧ Ci.ownB w' w.heap.size v (sealR H M kd nm (tbytes F told 16) ls.flatten).1 ∧ tapeAt w' tb fa fc F (told + 16) ∧ But tb w w' := by
  rw [pen3]
  refine write_any H M C _ tb kd nm pa pc ls (tbytes F told 16) (fun X => tapeAt X tb fa fc F (told + 16)) w hH hM hC (tbytes_16 _ _) hl hm hP (fun X k => ht.but k htb) (Nat.ne_of_lt h.is.lt) (fun X Y a k => a.below k) (fun X k => ?_)
  exact nonce_any tb fa fc F told X (h.below k) ht2 (ht.below k ht.2.2.1 ht.2.2.2) htb
end Go.Proofs.YtfhlcondnaahiaaDoor
