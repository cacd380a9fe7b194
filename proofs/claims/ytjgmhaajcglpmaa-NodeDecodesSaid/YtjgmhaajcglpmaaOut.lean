/- A writer in memory; the contracts of Begin, takes, number. -/
import Derived.Test.YtjgmhaajcglpmaaNb
namespace Go.Proofs.Ytjgmhaajcglpmaa
open Go.RowKit

/-- Block k is a writer that holds these bytes, and this fault; all that is its own is above B. -/
def OutAt (w : World) (B k : Nat) (s : List UInt8 × Int) : Prop := ∃ v, B ≤ k ∧ blockIs w k [v, .int .i64 s.2] 82 ∧ rowIs w B v s.1 ∧ ∀ g, v.ownBlock = some g → g ≠ k
theorem OutAt.below {w w' : World} {B k : Nat} {s : List UInt8 × Int} (h : OutAt w B k s) (hb : Below w.heap.size w w') : OutAt w' B k s := by
  obtain ⟨v, h1, h2, h3, h4⟩ := h
  exact ⟨v, h1, h2.below hb h2.lt, rowIs.below h3 hb (Nat.le_refl _), h4⟩
theorem OutAt.mono {w : World} {B B' k : Nat} {s : List UInt8 × Int} (h : OutAt w B k s) (hb : B' ≤ B) : OutAt w B' k s := by
  obtain ⟨v, h1, h2, h3, h4⟩ := h
  exact ⟨v, by omega, h2, rowIs.mono h3 hb, h4⟩
theorem OutAt.fault {w : World} {B k : Nat} {s : List UInt8 × Int} (h : OutAt w B k s) : w.cell? ⟨k, 1, none⟩ = some (.int .i64 s.2) := by
  obtain ⟨v, h1, h2, h3, h4⟩ := h
  rw [h2.cell]; rfl
theorem OutAt.lt {w : World} {B k : Nat} {s : List UInt8 × Int} (h : OutAt w B k s) : B ≤ k ∧ k < w.heap.size := by
  obtain ⟨v, h1, h2, h3, h4⟩ := h
  exact ⟨h1, h2.lt⟩
theorem OutAt.setFault {w : World} {B k : Nat} {s : List UInt8 × Int} (h : OutAt w B k s) (e : Int) : OutAt (w.setCell ⟨k, 1, none⟩ (.int .i64 e)) B k (s.1, e) := by
  obtain ⟨v, h1, h2, h3, h4⟩ := h
  exact ⟨v, h1, h2.set 1 (.int .i64 e), ownsRow_setCell_other h3 (fun e => h4 k e rfl) _, h4⟩
theorem takes_any (B k : Nat) (s : List UInt8 × Int) (w : World) (h : OutAt w B k s) :
    Calls Try.prog 68 #[.pointer (some ⟨k, 0, none⟩)] w fun e w' => e = .returned (.bool (decide (s.2 = 0))) ∧ w = w' := by
  have c1 := h.fault
  clear h
  go_enter Try.func68, Try.ntmps68
  go_wp2_with fail
  go_ret
  exact ⟨ret_bool (by by_cases h : s.2 = 0 <;> simp [h]), rfl⟩
set_option maxHeartbeats 1000000 in
theorem begin_any (x : UInt8) (w : World) :
    Calls Try.prog 33 #[.int .u8 (V x)] w fun e w' => ∃ k, e = .returned (.pointer (some ⟨k, 0, none⟩)) ∧ OutAt w' w.heap.size k ([72, 89, x], 0) ∧ Below w.heap.size w w' := by
  go_enter Try.func33, Try.ntmps33
  go_wp2_with fail
  go_ret
  have R := rowIs.lit w w.heap.size [72, 89, x] #[.int .u8 72, .int .u8 89, .int .u8 (V x)] rfl 3 rfl (Nat.le_refl _) (by simp)
  have B1 := (Below.refl w.heap.size w).alloc (Nat.le_refl _) (.cells #[.int .u8 72, .int .u8 89, .int .u8 (V x)] 5 (0, 0))
  refine ⟨w.heap.size + 1, rfl, ⟨.slice (some ⟨w.heap.size, 0, none⟩) 3 3, by omega, ?_, ?_, ?_⟩, ?_⟩
  · exact blockIs.last _ _ _ _ (by simp)
  · exact rowIs.below R ((Below.refl _ _).alloc (Nat.le_refl _) _) (Nat.le_refl _)
  · intro g hg
    cases hg
    simp
  · exact B1.alloc B1.size _
theorem or_all : ∀ x : Fin 256, bits .or .u8 (x.val : Int) 128 = ((x.val % 128 + 128 : Nat) : Int) := by decide +kernel
theorem or_byte (m : Nat) : bits .or .u8 (IntKind.u8.wrap (m : Int)) 128 = V (UInt8.ofNat (m % 128 + 128)) := by
  have e1 : IntKind.u8.wrap (m : Int) = ((m % 256 : Nat) : Int) := by rw [IntKind.wrap_u8]; omega
  have h := or_all ⟨m % 256, Nat.mod_lt _ (by decide)⟩
  rw [e1, h]
  unfold V
  rw [UInt8.toNat_ofNat']
  show ((m % 256 % 128 + 128 : Nat) : Int) = _
  omega
theorem low_byte (m : Nat) (h : m < 128) : IntKind.u8.wrap (m : Int) = V (UInt8.ofNat m) := by
  unfold V
  rw [UInt8.toNat_ofNat', IntKind.wrap_u8]
  omega
end Go.Proofs.Ytjgmhaajcglpmaa
