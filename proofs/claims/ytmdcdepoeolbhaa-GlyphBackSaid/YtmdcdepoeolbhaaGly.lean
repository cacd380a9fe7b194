/- The contract of glyphs; literals as arguments. -/
import Derived.Test.YtmdcdepoeolbhaaByt
namespace Go.Proofs.Ytmdcdepoeolbhaa
open Go.RowKit

/-- A literal of things that aren't bytes is there, whatever the writer does. -/
theorem lit_kept {B k : Nat} {w : World} {vs : List Value} {t : TypeId} (hk : k < w.heap.size) (ht : t ≠ 5) : ∀ w', Below B (w.alloc (.cells vs.toArray t (0, 0))) w' → KeptT k (w.alloc (.cells vs.toArray t (0, 0))) w' → valsIn w' (some ⟨w.heap.size, 0, none⟩) vs := fun w' _ h => by
  have hb := h.is (blockIs.new w vs t) (by omega) ht
  refine Or.inr ⟨_, _, rfl, fun j hj => ?_⟩
  rw [Nat.zero_add]
  exact hb.cell j
theorem OutAt.alloc {w : World} {B k : Nat} {s : List UInt8 × Int} (h : OutAt w B k s) (o : Obj) : OutAt (w.alloc o) B k s := h.below ((Below.refl _ _).alloc (Nat.le_refl _) _)
theorem begin_c (x : UInt8) (n : Int) (h : n = V x) (w : World) :
    Calls Try.prog 11 #[.int .u8 n] w fun e w' => ∃ k, e = .returned (.pointer (some ⟨k, 0, none⟩)) ∧ OutAt w' w.heap.size k ([72, 89, x], 0) ∧ Below w.heap.size w w' := by
  subst h
  exact begin_any x w
theorem num1 (B k : Nat) (s : List UInt8 × Int) (x : Int) (w : World) (h : OutAt w B k s) (hx : (Lit.int .i64 x).wf = true) (hl : s.1.length ≤ 100000000) :
    Calls Try.prog 14 #[.pointer (some ⟨k, 0, none⟩), .slice (some ⟨w.heap.size, 0, none⟩) 1 1] (w.alloc (.cells #[.int .i64 x] 3)) fun e w' => e = .returned (.pointer (some ⟨k, 0, none⟩)) ∧ OutAt w' B k (outNum s x) ∧ Below B w w' := by
  have P := nums_any B k s (some ⟨w.heap.size, 0, none⟩) [x] 1 (w.alloc (.cells #[.int .i64 x] 3)) (h.alloc _) (fun z hz => by rw [List.mem_singleton.1 hz]; exact hx) hl (by simp) (lit_kept (vs := [.int .i64 x]) (t := 3) h.lt.2 (by decide))
  refine P.mono ?_
  rintro e w' ⟨he, ho, hb, -⟩
  exact ⟨he, ho, ((Below.refl B w).alloc (Nat.le_trans h.lt.1 (Nat.le_of_lt h.lt.2)) _).trans hb⟩
theorem text1 (B k : Nat) (s : List UInt8 × Int) (l : List UInt8) (w : World) (h : OutAt w B k s) (hs : s.1.length ≤ 100000000) (hl : l.length ≤ 200000) :
    Calls Try.prog 16 #[.pointer (some ⟨k, 0, none⟩), .slice (some ⟨w.heap.size, 0, none⟩) 1 1] (w.alloc (.cells #[.string (str l)] 9)) fun e w' => e = .returned (.pointer (some ⟨k, 0, none⟩)) ∧ OutAt w' B k (outText s l) ∧ Below B w w' := by
  have P := texts_any B k s (some ⟨w.heap.size, 0, none⟩) [l] 1 (w.alloc (.cells #[.string (str l)] 9)) 200000 (fun z hz => by rw [List.mem_singleton.1 hz]; exact hl) (by decide) (by simp; omega) (h.alloc _) (lit_kept (vs := [.string (str l)]) (t := 9) h.lt.2 (by decide))
  refine P.mono ?_
  rintro e w' ⟨he, ho, hb, -⟩
  exact ⟨he, ho, ((Below.refl B w).alloc (Nat.le_trans h.lt.1 (Nat.le_of_lt h.lt.2)) _).trans hb⟩
theorem flag1 (B k : Nat) (s : List UInt8 × Int) (y : Bool) (w : World) (h : OutAt w B k s) (hl : s.1.length ≤ 100000000) :
    Calls Try.prog 18 #[.pointer (some ⟨k, 0, none⟩), .slice (some ⟨w.heap.size, 0, none⟩) 1 1] (w.alloc (.cells #[.bool y] 4)) fun e w' => e = .returned (.pointer (some ⟨k, 0, none⟩)) ∧ OutAt w' B k (outFlag s y) ∧ Below B w w' := by
  have P := flags_any B k s (some ⟨w.heap.size, 0, none⟩) [y] 1 (w.alloc (.cells #[.bool y] 4)) (h.alloc _) hl (by simp) (lit_kept (vs := [.bool y]) (t := 4) h.lt.2 (by decide))
  refine P.mono ?_
  rintro e w' ⟨he, ho, hb, -⟩
  exact ⟨he, ho, ((Below.refl B w).alloc (Nat.le_trans h.lt.1 (Nat.le_of_lt h.lt.2)) _).trans hb⟩
theorem glyph_ex : outFlag (outText (outNum ([72, 89, 7], 0) 300) [97, 98]) true = ([72, 89, 7, 172, 2, 2, 97, 98, 1], 0) := by
  have e1 : numBytes 300 = [172, 2] := by rw [numBytes_big (by decide), numBytes_small (by decide)]; rfl
  have e2 : numBytes 2 = [2] := by rw [numBytes_small (by decide)]; rfl
  have e3 : numBytes 1 = [1] := by rw [numBytes_small (by decide)]; rfl
  simp [outFlag, outText, outNum, e1, e2, e3]
set_option maxRecDepth 100000 in
set_option maxHeartbeats 2000000 in
theorem glyphs_any (w : World) : Calls Try.prog 10 #[] w fun e w' => e = .returned (.bool true) ∧ Below w.heap.size w w' := by
  go_enter Try.func10, Try.ntmps10
  go_wp2_with fail
  with_reducible refine (begin_c 7 7 rfl w).mono ?_
  rintro e w1 ⟨k, rfl, ho, hb⟩
  have O1 := Lib.hid ho
  have H1 := Lib.hid hb
  clear ho hb
  go_wp2_with fail
  with_reducible refine (num1 w.heap.size k _ 300 w1 O1.out (by decide) (by decide)).mono ?_
  rintro e w2 ⟨rfl, ho, hb⟩
  have O2 := Lib.hid ho
  have H2 := Lib.hid (H1.out.trans hb)
  clear ho hb O1 H1
  go_wp2_with fail
  have l2 := outNum_len ([72, 89, 7], 0) 300
  have P := text1 w.heap.size k _ [97, 98] w2 O2.out (Nat.le_trans l2 (by decide)) (by decide)
  refine P.mono ?_
  clear P
  rintro e w3 ⟨rfl, ho, hb⟩
  have O3 := Lib.hid ho
  have H3 := Lib.hid (H2.out.trans hb)
  clear ho hb O2 H2
  go_wp2_with fail
  have l3 := outText_len (outNum ([72, 89, 7], 0) 300) [97, 98]
  have hl3 : (outText (outNum ([72, 89, 7], 0) 300) [97, 98]).1.length ≤ 100000000 := by
    simp at l2 l3
    omega
  with_reducible refine (flag1 w.heap.size k _ true w3 O3.out hl3).mono ?_
  rintro e w4 ⟨rfl, ho, hb⟩
  rw [glyph_ex] at ho
  have O4 := Lib.hid ho
  have H4 := Lib.hid (H3.out.trans hb)
  clear ho hb O3 H3 hl3 l2 l3
  go_wp2_with fail
  with_reducible refine (bytes_ok w.heap.size k _ w4 O4.out rfl (by decide)).mono ?_
  rintro e w5 ⟨v, rfl, hr, hb⟩
  have H5 := Lib.hid (H4.out.trans (hb.mono H4.out.size))
  obtain ⟨a, c, rfl, h1, h2, h3⟩ := rowIs.bytes hr
  have I5 := Lib.hid h2
  have CV : (convert 23 9 (.slice a 9 c)).run Try.prog w5 = .ok (.string { data := #[72, 89, 7, 172, 2, 2, 97, 98, 1] }) w5 := conv_string w5 a [72, 89, 7, 172, 2, 2, 97, 98, 1] c h2
  clear hr hb h2 h3
  go_wp2_with fail
  go_ret
  exact ⟨rfl, H5.out⟩
end Go.Proofs.Ytmdcdepoeolbhaa
