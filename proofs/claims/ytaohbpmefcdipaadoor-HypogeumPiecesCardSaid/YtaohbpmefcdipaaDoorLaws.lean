/- Plain laws of SHA-256's register: a block needs its 64 bytes alone; registers behind whole blocks. -/
import Derived.Test.YtaohbpmefcdipaaDoorSha
namespace Go.Proofs.YtaohbpmefcdipaaDoor.Sha

theorem getD_take {α : Type} (l : List α) (n j : Nat) (d : α) (h : j < n) : (l.take n).getD j d = l.getD j d := by
  simp [h]
theorem wordAt_congr (l l' : List UInt8) (h : l.take 64 = l'.take 64) (i : Nat) (hi : i < 16) : wordAt l i = wordAt l' i := by
  unfold wordAt
  rw [← getD_take l 64 (4 * i) 0 (by omega), ← getD_take l 64 (4 * i + 1) 0 (by omega), ← getD_take l 64 (4 * i + 2) 0 (by omega), ← getD_take l 64 (4 * i + 3) 0 (by omega), h,
    getD_take l' 64 (4 * i) 0 (by omega), getD_take l' 64 (4 * i + 1) 0 (by omega), getD_take l' 64 (4 * i + 2) 0 (by omega), getD_take l' 64 (4 * i + 3) 0 (by omega)]
theorem words_congr (l l' : List UInt8) (h : l.take 64 = l'.take 64) (n : Nat) : words l n = words l' n := by
  induction n with
  | zero => rfl
  | succ n ih =>
    by_cases hn : n < 16
    · rw [words_lo _ _ hn, words_lo _ _ hn, ih, wordAt_congr l l' h n hn]
    · rw [words_hi _ _ hn, words_hi _ _ hn, ih]
theorem block_congr (r : Reg) (l l' : List UInt8) (h : l.take 64 = l'.take 64) : block r l = block r l' := by
  unfold block sched
  rw [words_congr l l' h]
theorem blocks_congr (n : Nat) : ∀ (r : Reg) (l l' : List UInt8), l.take (64 * n) = l'.take (64 * n) → blocks n r l = blocks n r l' := by
  induction n with
  | zero => intro r l l' _; rfl
  | succ n ih =>
    intro r l l' h
    have h1 : l.take 64 = l'.take 64 := by
      have := congrArg (List.take 64) h
      rwa [List.take_take, List.take_take, Nat.min_eq_left (by omega)] at this
    have h2 : (l.drop 64).take (64 * n) = (l'.drop 64).take (64 * n) := by
      have := congrArg (List.drop 64) h
      rwa [List.drop_take, List.drop_take, show 64 * (n + 1) - 64 = 64 * n by omega] at this
    unfold blocks
    rw [block_congr r l l' h1]
    exact ih _ _ _ h2
theorem blocks_succ (n : Nat) (r : Reg) (l : List UInt8) : blocks (n + 1) r l = blocks n (block r l) (l.drop 64) := rfl
theorem blocks_one (r : Reg) (l : List UInt8) : blocks 1 r l = block r l := rfl
theorem blocks_add (a b : Nat) : ∀ (r : Reg) (l : List UInt8), blocks (a + b) r l = blocks b (blocks a r l) (l.drop (64 * a)) := by
  induction a with
  | zero => intro r l; simp [blocks]
  | succ a ih =>
    intro r l
    rw [show a + 1 + b = (a + b) + 1 by omega, blocks_succ, blocks_succ, ih, List.drop_drop, show 64 + 64 * a = 64 * (a + 1) by omega]

/-- The register behind a text's whole blocks. -/
def regAfter (m : List UInt8) : Reg := blocks (m.length / 64) init m

theorem regAfter_nil : regAfter [] = init := rfl
/-- Behind a text that fills its block not yet. -/
theorem regAfter_short (m y : List UInt8) (h : m.length % 64 + y.length < 64) : regAfter (m ++ y) = regAfter m := by
  unfold regAfter
  have e : (m ++ y).length / 64 = m.length / 64 := by simp; omega
  rw [e]
  apply blocks_congr
  rw [List.take_append_of_le_length (by omega)]
/-- Behind one block more: s is the block. -/
theorem regAfter_block (m y s : List UInt8) (h : m.length % 64 + y.length = 64) (hs : s.take 64 = m.drop (m.length - m.length % 64) ++ y) : regAfter (m ++ y) = block (regAfter m) s := by
  unfold regAfter
  have e : (m ++ y).length / 64 = m.length / 64 + 1 := by simp; omega
  have hq : 64 * (m.length / 64) = m.length - m.length % 64 := by omega
  rw [e, blocks_add]
  have e1 : blocks (m.length / 64) init (m ++ y) = blocks (m.length / 64) init m := by
    apply blocks_congr
    rw [List.take_append_of_le_length (by omega)]
  rw [e1, blocks_one]
  apply block_congr
  rw [hs, hq, List.drop_append_of_le_length (by omega)]
  apply List.take_of_length_le
  simp
  omega
theorem regAfter_whole (m l : List UInt8) (h : m.length % 64 = 0) (hl : 64 ≤ l.length) : regAfter (m ++ l.take 64) = block (regAfter m) l := by
  apply regAfter_block
  · simp; omega
  · rw [h]; simp
theorem sha_eq (l : List UInt8) : sha l = out (regAfter (pad l)) := rfl
theorem eight_length (n : Nat) : (eight n).length = 8 := by simp [eight]
theorem tail_length (n : Nat) : (tail n).length = 9 + noughts n := by simp [tail, eight_length]; omega
theorem pad_length (l : List UInt8) : (pad l).length = l.length + (9 + noughts l.length) := by simp [pad, tail_length]
theorem pad_whole (l : List UInt8) : (pad l).length % 64 = 0 := by rw [pad_length]; unfold noughts; omega

end Go.Proofs.YtaohbpmefcdipaaDoor.Sha
