/- Raw of no bytes at all. -/
import Derived.Test.YtjgmhaajcglpmaaGly
namespace Go.Proofs.Ytjgmhaajcglpmaa
open Go.RowKit
set_option maxRecDepth 100000 in
set_option maxHeartbeats 2000000 in
theorem raw_none (B k : Nat) (s : List UInt8 × Int) (w : World) (h : OutAt w B k s) :
    Calls Try.prog 53 #[.pointer (some ⟨k, 0, none⟩), .slice none 0 0] w fun e w' => e = .returned (.pointer (some ⟨k, 0, none⟩)) ∧ OutAt w' B k s ∧ Below B w w' := by
  have H := Lib.hid h
  clear h
  go_enter Try.func53, Try.ntmps53
  go_wp2_with fail
  with_reducible refine (takes_any B k s w H.out).mono ?_
  rintro e w' ⟨rfl, rfl⟩
  by_cases h0 : s.2 = 0
  · rw [show decide (s.2 = 0) = true by simp [h0]]
    go_wp2_with fail
    go_loopw [13] (fun i wr => i = .int .i64 0 ∧ wr = w) (fun _ _ => 0)
    case atStart => exact ⟨rfl, rfl⟩
    case round =>
      obtain ⟨rfl, rfl⟩ := hrel
      go_wp2_with fail
      go_ret
      exact ⟨rfl, H.out, Below.refl _ _⟩
  · rw [show decide (s.2 = 0) = false by simp [h0]]
    go_wp2_with fail
    go_ret
    exact ⟨rfl, H.out, Below.refl _ _⟩
theorem nums_none (B k : Nat) (s : List UInt8 × Int) (w : World) (h : OutAt w B k s) (hl : s.1.length ≤ 100000000) :
    Calls Try.prog 34 #[.pointer (some ⟨k, 0, none⟩), .slice none 0 0] w fun e w' => e = .returned (.pointer (some ⟨k, 0, none⟩)) ∧ OutAt w' B k s ∧ Below B w w' := by
  have P := nums_any B k s none [] 0 w h (by simp) hl (by simp) (fun _ _ _ => Or.inl rfl)
  refine P.mono ?_
  rintro e w' ⟨he, ho, hb, -⟩
  exact ⟨he, ho, hb⟩
theorem texts_none (B k : Nat) (s : List UInt8 × Int) (w : World) (h : OutAt w B k s) (hl : s.1.length ≤ 100000000) :
    Calls Try.prog 52 #[.pointer (some ⟨k, 0, none⟩), .slice none 0 0] w fun e w' => e = .returned (.pointer (some ⟨k, 0, none⟩)) ∧ OutAt w' B k s ∧ Below B w w' := by
  have P := texts_any B k s none [] 0 w 0 (by simp) (by simp) (by simp; omega) h (fun _ _ _ => Or.inl rfl)
  refine P.mono ?_
  rintro e w' ⟨he, ho, hb, -⟩
  exact ⟨he, ho, hb⟩
/-- What Bytes gives. -/
def got (s : List UInt8 × Int) : List UInt8 := if s.2 = 0 then s.1 else []
theorem bytes_either (B k : Nat) (s : List UInt8 × Int) (w : World) (h : OutAt w B k s) (hl : s.1.length ≤ 900000000) :
    Calls Try.prog 36 #[.pointer (some ⟨k, 0, none⟩)] w fun e w' => ∃ a c, e = .returned (.tuple #[.slice a (got s).length c, .int .i64 s.2]) ∧ bytesIn w' a (got s) ∧ Below w.heap.size w w' := by
  by_cases h0 : s.2 = 0
  · refine (bytes_ok B k s w h h0 hl).mono ?_
    rintro e w' ⟨v, he, hr, hb⟩
    obtain ⟨a, c, rfl, -, h2, -⟩ := rowIs.bytes hr
    exact ⟨a, c, by rw [he, got, if_pos h0, h0], by rw [got, if_pos h0]; exact h2, hb⟩
  · refine (bytes_bad B k s w h h0).mono ?_
    rintro e w' ⟨he, hb⟩
    exact ⟨none, 0, by rw [he, got, if_neg h0]; rfl, by rw [got, if_neg h0]; exact Or.inl rfl, hb⟩
end Go.Proofs.Ytjgmhaajcglpmaa
