/- rises; CellTicks. -/
import Derived.Test.YtfclnpfpddhjiaaCl
import Derived.Test.YtfclnpfpddhjiaaCr
namespace Go.Proofs.Ytfclnpfpddhjiaa
open Go.RowKit Go.MapKept
theorem newSh_ok (room : Int) (h0 : 0 ≤ room) (h1 : room ≤ 1073741824) : ShOk (newSh room) := ⟨⟨h0, h1⟩, ⟨by show (0 : Int) ≤ 0; decide, by show (0 : Int) ≤ 1000000000; decide⟩, ⟨by show (0 : Int) ≤ 0; decide, by show (0 : Int) ≤ 9223372036854775807; decide⟩⟩
set_option maxRecDepth 100000 in
set_option maxHeartbeats 4000000 in
theorem rises_any (w : World) : Calls Try.prog 32 #[] w fun e w' => e = .returned (.bool true) ∧ Below w.heap.size w w' := by
  go_enter Try.func32, Try.ntmps32
  go_wp2_with fail
  with_reducible refine (new_any 10 w (by decide) (by decide)).mono ?_
  rintro e w1 ⟨k, rfl, h1, b1⟩
  have H1 := Lib.hid h1
  have B1 := Lib.hid b1
  clear h1 b1
  go_wp2_with fail
  with_reducible refine (cellnew_any k w1).mono ?_
  rintro e w2 ⟨c, rfl, hc, h2, b2⟩
  have H2 := Lib.hid (H1.out.below b2)
  have C2 := Lib.hid h2
  have B2 := Lib.hid (B1.out.trans (b2.mono B1.out.size))
  have HC : Hid (w.heap.size ≤ c) := Lib.hid (Nat.le_trans B1.out.size hc)
  clear h2 b2 hc
  go_wp2_with fail
  have P := raise_any w.heap.size k c none (newSh 10) 0 5 w2 H2.out (newSh_ok 10 (by decide) (by decide)) C2.out HC.out
  rw [show raisedE (newSh 10) 0 5 = 0 from rfl, show raisedS (newSh 10) 0 5 = spent (newSh 10) from rfl, show raisedN (newSh 10) 0 5 = 5 from rfl] at P
  with_reducible refine P.mono ?_
  clear P
  rintro e w3 ⟨rfl, h3, c3, b3, -⟩
  have H3 := Lib.hid h3
  have C3 := Lib.hid c3
  have B3 := Lib.hid (B2.out.trans b3)
  clear h3 b3 c3
  go_wp2_with fail
  have P := raise_any w.heap.size k c none (spent (newSh 10)) 5 5 w3 H3.out (ShOk.spent (newSh_ok 10 (by decide) (by decide)) (by decide)) C3.out HC.out
  rw [show raisedE (spent (newSh 10)) 5 5 = 1 from rfl, show raisedS (spent (newSh 10)) 5 5 = spent (newSh 10) from rfl, show raisedN (spent (newSh 10)) 5 5 = 5 from rfl] at P
  with_reducible refine P.mono ?_
  clear P
  rintro e w4 ⟨rfl, h4, c4, b4, -⟩
  have H4 := Lib.hid h4
  have C4 := Lib.hid c4
  have B4 := Lib.hid (B3.out.trans b4)
  clear h4 b4 c4
  go_wp2_with fail
  have P := crash_none w.heap.size k none (spent (newSh 10)) w4 H4.out (by decide) (fun p hp => by cases hp)
  with_reducible refine P.mono ?_
  clear P
  rintro e w5 ⟨rfl, m5, h5, s5⟩
  have H5 := Lib.hid h5
  have C5 := Lib.hid (H4.out.keeps s5 C4.out (C4.out.ne H4.out))
  have B5 := Lib.hid (B4.out.trans (H4.out.step_below s5))
  clear h5 s5
  go_wp2_with fail
  have P := read_any w.heap.size k c m5 _ 5 w5 H5.out C5.out
  rw [show (crashed (spent (newSh 10)) []).off = false from rfl] at P
  with_reducible refine P.mono ?_
  clear P
  rintro e w6 ⟨rfl, rfl⟩
  go_wp2_with fail
  go_ret
  exact ⟨rfl, B5.out⟩
end Go.Proofs.Ytfclnpfpddhjiaa
