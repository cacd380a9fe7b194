/- A pen that writes with its tape, and one without. -/
import Derived.Test.YtjkhokholcchfaaDoorKwr
import Derived.Test.YtjkhokholcchfaaDoorTnc
namespace Go.Proofs.YtjkhokholcchfaaDoor
open Go.RowKit Sha

theorem tables.but {X Y : World} {tb : Nat} (h : tables X) (k : But tb X Y) (htb : 1 ≠ tb ∧ 0 ≠ tb) : tables Y :=
  ⟨fun j hj => k.cell (h.1 j hj) htb.1, fun j x hj => k.cell (h.2.1 j x hj) htb.2, Nat.lt_of_lt_of_le h.2.2.1 k.size, Nat.lt_of_lt_of_le h.2.2.2 k.size⟩
theorem ring3 (RG : List UInt8) (h : RG.length = 96) : ∃ H M C : List UInt8, H.length = 32 ∧ M.length = 32 ∧ C.length = 32 ∧ RG = H ++ (M ++ C) :=
  ⟨RG.take 32, (RG.drop 32).take 32, (RG.drop 32).drop 32, by simp [h], by simp [h], by simp [h], by rw [List.take_append_drop, List.take_append_drop]⟩
theorem pen3 (H M C : List UInt8) (tb : Nat) : penCells (H ++ (M ++ C)) tb = keyCells H M ++ (byteCells C ++ [Value.pointer (some ⟨tb, 0, none⟩)]) := by
  simp [penCells, keyCells, byteCells]
theorem tbytes_16 (F : List UInt8) (told : Nat) : (tbytes F told 16).length = 16 := tbytes_length _ _ _

/-- A pen writes: its tape's next nonce. -/
theorem pwrite_any (H M C : List UInt8) (tb : Nat) (fa : Option Addr) (fc : Nat) (F : List UInt8) (told : Nat) (kd : UInt8) (nm : List UInt8) (pa : Option Addr) (pc : Nat) (ls : List (List UInt8)) (w : World)
    (hH : H.length = 32) (hM : M.length = 32) (hC : C.length = 32) (hl : ls.length ≤ 100000) (hm : ls.flatten.length ≤ 800000) (hP : ∀ X, But tb w X → partsW X pa ls) (ht : tables w) (htb : 1 ≠ tb ∧ 0 ≠ tb)
    (h : tapeAt w tb fa fc F told) (ht2 : told ≤ 100000000) :
    Calls Tryd.prog 28 #[.agg (penCells (H ++ (M ++ C)) tb).toArray, .int .u8 (V kd), .string (str nm), .slice pa ls.length pc] w fun e w' => ∃ v, e = .returned (.tuple #[v, .int .i64 (sealR H M kd nm (tbytes F told 16) ls.flatten).2]) ∧ Ci.ownB w' w.heap.size v (sealR H M kd nm (tbytes F told 16) ls.flatten).1 ∧ tapeAt w' tb fa fc F (told + 16) ∧ But tb w w' := by
  rw [pen3]
  refine write_any H M C _ tb kd nm pa pc ls (tbytes F told 16) (fun X => tapeAt X tb fa fc F (told + 16)) w hH hM hC (tbytes_16 _ _) hl hm hP (fun X k => ht.but k htb) (Nat.ne_of_lt h.is.lt) (fun X Y a k => a.below k) (fun X k => ?_)
  exact nonce_any tb fa fc F told X (h.below k) ht2 (ht.below k ht.2.2.1 ht.2.2.2) htb
/-- A pen without a tape writes with noughts. -/
theorem nwrite_any (H M C : List UInt8) (kd : UInt8) (nm : List UInt8) (pa : Option Addr) (pc : Nat) (ls : List (List UInt8)) (w : World)
    (hH : H.length = 32) (hM : M.length = 32) (hC : C.length = 32) (hl : ls.length ≤ 100000) (hm : ls.flatten.length ≤ 800000) (hP : partsW w pa ls) (ht : tables w) :
    Calls Tryd.prog 28 #[.agg (keyCells H M ++ (byteCells C ++ [Value.pointer none])).toArray, .int .u8 (V kd), .string (str nm), .slice pa ls.length pc] w fun e w' => ∃ v, e = .returned (.tuple #[v, .int .i64 (sealR H M kd nm (List.replicate 16 0) ls.flatten).2]) ∧ Ci.ownB w' w.heap.size v (sealR H M kd nm (List.replicate 16 0) ls.flatten).1 ∧ Below w.heap.size w w' := by
  have hk : ∀ X, But (w.heap.size + 1) w X → Below w.heap.size w X := fun X k => k.below (Nat.le_succ _) (Nat.le_refl _)
  refine (write_any H M C _ (w.heap.size + 1) kd nm pa pc ls (List.replicate 16 0) (fun _ => True) w hH hM hC rfl hl hm (fun X k => hP.below (hk X k)) (fun X k => ht.below (hk X k) ht.2.2.1 ht.2.2.2) (by omega) (fun _ _ _ _ => trivial) (fun X k => ?_)).mono ?_
  · refine (nonce_nil X).mono ?_
    rintro e w' ⟨rfl, kb⟩
    exact ⟨by rw [zeros_bytes], trivial, But.of_below kb⟩
  · rintro e w' ⟨v, rfl, h1, -, h3⟩
    exact ⟨v, rfl, h1, hk _ h3⟩
end Go.Proofs.YtjkhokholcchfaaDoor
