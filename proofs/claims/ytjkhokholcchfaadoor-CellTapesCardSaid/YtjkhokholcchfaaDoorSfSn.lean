/- An empty store's crash; rises. -/
import Derived.Test.YtjkhokholcchfaaDoorSfRg
import Derived.Test.YtjkhokholcchfaaDoorSfCl
namespace Go.Proofs.YtjkhokholcchfaaDoor.Sf
open Go.RowKit

set_option maxRecDepth 100000 in
theorem len64_zero (w : World) : Calls Tryd.prog 96 #[.int .u64 0] w fun e w' => e = .returned (.int .i64 0) ∧ w = w' := by
  go_enter Tryd.func96, Tryd.ntmps96
  go_wp2_with fail
  go_ret
  exact ⟨by kernel_rfl, rfl⟩
set_option maxRecDepth 100000 in
theorem len_zero (w : World) : Calls Tryd.prog 82 #[.int .u64 0] w fun e w' => e = .returned (.int .i64 0) ∧ w = w' := by
  go_enter Tryd.func82, Tryd.ntmps82
  go_wp2_with fail
  with_reducible refine (len64_zero w).mono ?_
  rintro e w' ⟨rfl, rfl⟩
  go_wp2_with fail
  go_ret
  exact ⟨rfl, rfl⟩
set_option maxRecDepth 100000 in
theorem insert_none (w : World) : Calls Tryd.prog 86 #[.slice none 0 0, .int .i64 0, .int .i64 0] w fun e w' => e = .returned (.tuple #[]) ∧ w = w' := by
  go_enter Tryd.func86, Tryd.ntmps86
  go_upto_region 0 with fail
  go_wp2_with fail
  go_loopw [6] (fun i wr => i = .int .i64 1 ∧ w = wr) (fun _ _ => 0)
  case atStart => exact ⟨rfl, rfl⟩
  case round =>
    obtain ⟨rfl, rfl⟩ := hrel
    go_wp2_with fail
    go_end0
    exact ⟨rfl, rfl⟩
set_option maxRecDepth 100000 in
theorem pdq_none (w : World) : Calls Tryd.prog 81 #[.slice none 0 0, .int .i64 0, .int .i64 0, .int .i64 0] w fun e w' => e = .returned (.tuple #[]) ∧ w = w' := by
  go_enter Tryd.func81, Tryd.ntmps81
  go_upto_region 2 with fail
  go_loopw [1, 2] (fun a b wr => a = .int .i64 0 ∧ b = .int .i64 0 ∧ w = wr) (fun _ _ _ => 0)
  case atStart => exact ⟨rfl, rfl, rfl⟩
  case round =>
    obtain ⟨rfl, rfl, rfl⟩ := hrel
    go_wp2_with fail
    with_reducible refine (insert_none w).mono ?_
    rintro e w' ⟨rfl, rfl⟩
    go_wp2_with fail
    refine bodyPost_ret (results_none rfl _ _ _) rfl ?_
    exact ⟨rfl, rfl⟩
set_option maxRecDepth 100000 in
theorem sort_empty (w : World) : Calls Tryd.prog 71 #[.slice none 0 0] w fun e w' => e = .returned (.tuple #[]) ∧ w = w' := by
  go_enter Tryd.func71, Tryd.ntmps71
  go_wp2_with fail
  with_reducible refine (len_zero w).mono ?_
  rintro e w' ⟨rfl, rfl⟩
  go_wp2_with fail
  with_reducible refine (pdq_none w).mono ?_
  rintro e w' ⟨rfl, rfl⟩
  go_wp2_with fail
  go_end0
  exact ⟨rfl, rfl⟩
set_option maxRecDepth 100000 in
set_option maxHeartbeats 1000000 in
theorem names_empty (B k : Nat) (s : Sh) (hs : s.objs = []) (w : World) (h : ShAt w B k none s) :
    Calls Tryd.prog 52 #[.pointer (some ⟨k, 0, none⟩), .string ⟨#[]⟩] w fun e w' => e = .returned (.slice none 0 0) ∧ Below w.heap.size w w' := by
  have H := Lib.hid h
  have c1 := h.c1
  clear h
  go_enter Tryd.func52, Tryd.ntmps52
  go_wp2_with (at_range; refine at_rng rfl _ rfl none [] rfl (fun _ => rfl) (fun g e => by cases e) ?_; intro w0 hr0 hb0)
  go_frame
  have R0 := Lib.hid hr0
  have B0 := Lib.hid hb0
  clear hr0 hb0
  go_loopw [5] (fun v wr => v = .slice none 0 0 ∧ Hid (rangeAt wr w.heap.size none []) ∧ Hid (Below w.heap.size w wr)) (fun _ _ => 0)
  case atStart => exact ⟨rfl, R0, B0⟩
  case round =>
    obtain ⟨rfl, K1, K4⟩ := hrel
    go_wp2_with (at_next; refine at_nxt rfl _ rfl w.heap.size none [] rfl K1.out (fun hR => ?_) (fun n xb xf R' w1 N1 N2 N3 hen => ?_))
    · clear hR
      go_wp2_with fail
      with_reducible refine (sort_empty wr).mono ?_
      rintro e w' ⟨rfl, rfl⟩
      go_wp2_with fail
      go_ret
      exact ⟨rfl, K4.out⟩
    · exact absurd N1.out.length_eq (by simp)
/-- An empty store behind a crash. -/
def woken (s : Sh) : Sh := { s with off := false, armed := false, left := 0 }
set_option maxRecDepth 100000 in
set_option maxHeartbeats 1000000 in
theorem crash_empty (B k : Nat) (s : Sh) (hs : s.objs = []) (w : World) (h : ShAt w B k none s) :
    Calls Tryd.prog 35 #[.pointer (some ⟨k, 0, none⟩), .slice none 0 0] w fun e w' => e = .returned (.tuple #[]) ∧ ShAt w' B k none (woken s) ∧ Step k none w none w' := by
  have H := Lib.hid h
  clear h
  go_enter Tryd.func35, Tryd.ntmps35
  go_wp2_with fail
  with_reducible refine (names_empty B k s hs w H.out).mono ?_
  rintro e w1 ⟨rfl, kb⟩
  have H1 := Lib.hid (H.out.below kb)
  have S1 := Lib.hid (Step.of_below (k := k) (m := none) kb)
  clear kb H
  go_wp2_with fail
  go_loopw [12] (fun i wr => i = .int .i64 0 ∧ w1 = wr) (fun _ _ => 0)
  case atStart => exact ⟨rfl, rfl⟩
  case round =>
    obtain ⟨rfl, rfl⟩ := hrel
    go_upto_region 10 with fail
    have c3 := H1.out.c3
    have c4 := H1.out.c4
    have c5 := H1.out.c5
    have f3 := H1.out.free 3
    have f4 := H1.out.free 4
    have f5 := H1.out.free 5
    go_wp2_with fail
    go_end0
    exact ⟨rfl, ((H1.out.setOff false).setArmed false).setLeft 0, ((S1.out.setCell _ _).setCell _ _).setCell _ _⟩
theorem newSh_ok (room : Int) (h0 : 0 ≤ room) (h1 : room ≤ 1073741824) : ShOk (newSh room) := ⟨⟨h0, h1⟩, ⟨by show (0 : Int) ≤ 0; decide, by show (0 : Int) ≤ 1000000000; decide⟩, ⟨by show (0 : Int) ≤ 0; decide, by show (0 : Int) ≤ 9223372036854775807; decide⟩⟩
set_option maxRecDepth 100000 in
set_option maxHeartbeats 4000000 in
set_option maxRecDepth 100000 in
set_option maxHeartbeats 2000000 in
theorem rises_any (w : World) : Calls Tryd.prog 12 #[] w fun e w' => e = .returned (.bool true) ∧ Below w.heap.size w w' := by
  go_enter Tryd.func12, Tryd.ntmps12
  go_wp2_with fail
  with_reducible refine (new_any 10 w (by decide) (by decide)).mono ?_
  rintro e w1 ⟨k, rfl, h1, b1⟩
  have H1 := Lib.hid h1
  have B1 := Lib.hid b1
  clear h1 b1
  go_wp2_with fail
  with_reducible refine (cellnew_any k w1).mono ?_
  rintro e w2 ⟨c, rfl, hc, h2, b2⟩
  have H2 := Lib.hid (H1.out.below b2)
  have C2 := Lib.hid h2
  have B2 := Lib.hid (B1.out.trans (b2.mono B1.out.size))
  have HC : Hid (w.heap.size ≤ c) := Lib.hid (Nat.le_trans B1.out.size hc)
  clear h2 b2 hc
  go_wp2_with fail
  have P := raise_any w.heap.size k c none (newSh 10) 0 5 w2 H2.out (newSh_ok 10 (by decide) (by decide)) C2.out HC.out
  rw [show raisedE (newSh 10) 0 5 = 0 from rfl, show raisedS (newSh 10) 0 5 = spent (newSh 10) from rfl, show raisedN (newSh 10) 0 5 = 5 from rfl] at P
  with_reducible refine P.mono ?_
  clear P
  rintro e w3 ⟨rfl, h3, c3, b3, -⟩
  have H3 := Lib.hid h3
  have C3 := Lib.hid c3
  have B3 := Lib.hid (B2.out.trans b3)
  clear h3 b3 c3
  go_wp2_with fail
  have P := raise_any w.heap.size k c none (spent (newSh 10)) 5 5 w3 H3.out (ShOk.spent (newSh_ok 10 (by decide) (by decide)) (by decide)) C3.out HC.out
  rw [show raisedE (spent (newSh 10)) 5 5 = 1 from rfl, show raisedS (spent (newSh 10)) 5 5 = spent (newSh 10) from rfl, show raisedN (spent (newSh 10)) 5 5 = 5 from rfl] at P
  with_reducible refine P.mono ?_
  clear P
  rintro e w4 ⟨rfl, h4, c4, b4, -⟩
  have H4 := Lib.hid h4
  have C4 := Lib.hid c4
  have B4 := Lib.hid (B3.out.trans b4)
  clear h4 b4 c4
  go_wp2_with fail
  have P := crash_empty w.heap.size k (spent (newSh 10)) rfl w4 H4.out
  with_reducible refine P.mono ?_
  clear P
  rintro e w5 ⟨rfl, h5, s5⟩
  have H5 := Lib.hid h5
  have C5 := Lib.hid (H4.out.keeps s5 C4.out (C4.out.ne H4.out))
  have B5 := Lib.hid (B4.out.trans (H4.out.step_below s5))
  clear h5 s5
  go_wp2_with fail
  have P := read_any w.heap.size k c none _ 5 w5 H5.out C5.out
  rw [show (woken (spent (newSh 10))).off = false from rfl] at P
  with_reducible refine P.mono ?_
  clear P
  rintro e w6 ⟨rfl, rfl⟩
  go_wp2_with fail
  go_ret
  exact ⟨rfl, B5.out⟩
end Go.Proofs.YtjkhokholcchfaaDoor.Sf
