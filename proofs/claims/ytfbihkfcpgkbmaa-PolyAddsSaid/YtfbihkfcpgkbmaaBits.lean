/- The law's helper bits is true. -/
import Derived.Test.YtfbihkfcpgkbmaaPrime
namespace Go.Proofs.Ytfbihkfcpgkbmaa
open Go.RowKit

theorem mul33 (w : World) : Calls Try.prog 15 #[.int .u64 3, .int .u64 3] w fun e w' => e = .returned (.tuple #[.int .u64 0, .int .u64 5]) ∧ Below w.heap.size w w' := by
  refine (mul_any 3#64 3#64 w).mono ?_
  rintro e w' ⟨rfl, hb⟩
  refine ⟨?_, hb⟩
  rw [show (acc 3#64 3#64 64).1 = 0#64 by decide +kernel, show (acc 3#64 3#64 64).2 = 5#64 by decide +kernel]
  rfl
theorem add11 (t : TypeId) (w : World) : Calls Try.prog 11 #[.slice (some ⟨w.heap.size, 0, none⟩) 2 2] (w.alloc (.cells #[.int .u64 1, .int .u64 1] t (0, 0))) fun e w' => e = .returned (.int .u64 0) ∧ Below w.heap.size w w' := by
  refine (add_new 1#64 1#64 t w).mono ?_
  rintro e w' ⟨rfl, hb⟩
  exact ⟨rfl, hb⟩
theorem primeP (w : World) : Calls Try.prog 23 #[.int .u64 17349423945073011] w fun e w' => e = .returned (.bool true) ∧ Below w.heap.size w w' := by
  refine (prime_any bigP w).mono ?_
  rintro e w' ⟨rfl, hb⟩
  rw [bigP_prime]
  exact ⟨rfl, hb⟩

set_option maxHeartbeats 1000000 in
theorem bits_any (w : World) : Calls Try.prog 12 #[] w fun e w' => e = .returned (.bool true) ∧ Below w.heap.size w w' := by
  go_enter Try.func12, Try.ntmps12
  go_wp2_with fail
  refine (mul33 _).mono ?_
  rintro e w1 ⟨rfl, hb1⟩
  have H1 := Lib.hid hb1
  clear hb1
  go_wp2_with fail
  refine (add11 _ _).mono ?_
  rintro e w2 ⟨rfl, hb2⟩
  have H2 := Lib.hid (H1.out.trans (hb2.mono H1.out.size))
  clear hb2 H1
  go_wp2_with fail
  refine (primeP _).mono ?_
  rintro e w3 ⟨rfl, hb3⟩
  have H3 := Lib.hid (H2.out.trans (hb3.mono H2.out.size))
  clear hb3 H2
  go_wp2_with fail
  go_ret
  exact ⟨rfl, H3.out⟩
end Go.Proofs.Ytfbihkfcpgkbmaa
