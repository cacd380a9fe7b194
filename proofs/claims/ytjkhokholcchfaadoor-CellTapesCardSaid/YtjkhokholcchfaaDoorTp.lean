/- Tapes, in plain words; a tape in memory; cell.Tape.row. -/
import Derived.Test.YtjkhokholcchfaaDoorGg
import Derived.Test.YtjkhokholcchfaaDoorGp
namespace Go.Proofs.YtjkhokholcchfaaDoor
open Go.RowKit Sha

/-- A count's eight bytes, the highest first. -/
def beB (c k : Nat) : UInt8 := UInt8.ofNat (c / 2 ^ (8 * (7 - k)))
def be8 (c : Nat) : List UInt8 := (List.range 8).map (beB c)
theorem be8_length (c : Nat) : (be8 c).length = 8 := by simp [be8]
/-- A tape's row, and its bytes from a place on. -/
def trow (b : List UInt8) (c : Nat) : List UInt8 := sha (b ++ be8 c)
theorem trow_length (b : List UInt8) (c : Nat) : (trow b c).length = 32 := sha_length _
def tbytes (b : List UInt8) (at_ n : Nat) : List UInt8 := (List.range n).map fun i => (trow b ((at_ + i) / 32)).getD ((at_ + i) % 32) 0
theorem tbytes_length (b : List UInt8) (at_ n : Nat) : (tbytes b at_ n).length = n := by simp [tbytes]
theorem tbytes_append (b : List UInt8) (at_ n m : Nat) : tbytes b at_ n ++ tbytes b (at_ + n) m = tbytes b at_ (n + m) := by
  unfold tbytes
  rw [List.range_add, List.map_append, List.map_map]
  congr 1
  apply List.map_congr_left
  intro i _
  simp [Nat.add_assoc]
theorem tbytes_row (b : List UInt8) (t r : Nat) (h : t % 32 + r ≤ 32) : ((trow b (t / 32)).drop (t % 32)).take r = tbytes b t r := by
  apply List.ext_getElem
  · rw [List.length_take, List.length_drop, trow_length, tbytes_length]; omega
  · intro i h1 h2
    rw [tbytes_length] at h2
    have e1 : (t + i) / 32 = t / 32 := by omega
    have e2 : (t + i) % 32 = t % 32 + i := by omega
    simp only [tbytes, List.getElem_take, List.getElem_drop, List.getElem_map, List.getElem_range, e1, e2]
    rw [List.getD_eq_getElem?_getD, List.getElem?_eq_getElem (by rw [trow_length]; omega)]
    rfl
/-- A tape in memory. -/
structure tapeAt (X : World) (tb : Nat) (fa : Option Addr) (fc : Nat) (F : List UInt8) (told : Nat) : Prop where
  is : blockIs X tb [.slice fa F.length fc, .int .i64 (told : Int)] 83
  row : bytesIn X fa F
  apart : ∀ x, fa = some x → x.block ≠ tb
  len : F.length ≤ 400
  cap : F.length ≤ fc
  most : fc ≤ 9223372036854775807
theorem tapeAt.below {X Y : World} {tb : Nat} {fa : Option Addr} {fc : Nat} {F : List UInt8} {told : Nat} (h : tapeAt X tb fa fc F told) (k : Below X.heap.size X Y) : tapeAt Y tb fa fc F told :=
  ⟨h.is.below k h.is.lt, h.row.below k, h.apart, h.len, h.cap, h.most⟩
theorem info8 : (Tryd.prog.info? 110).map (·.size) = some 8 := by kernel_rfl
theorem zero8 (w : World) : (zeroValue 110).run Tryd.prog w = .ok (.agg (cells8 (fun _ => 0) 8).toArray) w := by kernel_rfl
def beF (c k j : Nat) : UInt8 := if j < k then beB c j else 0
theorem beF_zero (c : Nat) : (fun _ => 0) = beF c 0 := by
  funext j
  unfold beF
  rw [if_neg (by omega)]
theorem beF_succ (c k : Nat) (h : k < 8) : (cells8 (beF c k) 8).set k (.int .u8 (V (beB c k))) = cells8 (beF c (k + 1)) 8 := by
  rw [cells8_set _ _ _ h]
  congr 1
  funext j
  unfold beF
  by_cases e : j = k
  · rw [if_pos e, if_pos (by omega), e]
  · rw [if_neg e]
    by_cases h2 : j < k
    · rw [if_pos h2, if_pos (by omega)]
    · rw [if_neg h2, if_neg (by omega)]
theorem beF_all (c : Nat) : cells8 (beF c 8) 8 = byteCells (be8 c) := by
  unfold cells8 byteCells be8
  rw [List.map_map]
  apply List.map_congr_left
  intro j hj
  have := List.mem_range.1 hj
  simp [beF, this]
theorem wrap_be (c k s : Nat) (hs : s = 8 * (7 - k)) : IntKind.u8.wrap ((c : Int) / 2 ^ s) = V (beB c k) := by
  unfold beB
  rw [V_ofNat, IntKind.wrap_u8', ← hs, Int.natCast_emod, Int.natCast_ediv]
  simp
end Go.Proofs.YtjkhokholcchfaaDoor
