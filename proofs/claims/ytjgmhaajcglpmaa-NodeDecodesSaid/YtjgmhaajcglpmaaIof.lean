/- bytes.Equal, HasPrefix and CutPrefix of all bytes; Open, whatever comes. -/
import Derived.Test.YtjgmhaajcglpmaaIno
namespace Go.Proofs.Ytjgmhaajcglpmaa
variable {B : Nat}
open Go.RowKit

theorem str_toList (l : List UInt8) : (str l).toList = l := by
  rw [ByteArray.toList_eq]; simp [str]
theorem equal_is (p q : Pt) (w : World) (hp : bytesIn w p.a p.l) (hq : bytesIn w q.a q.l) :
    Calls Try.prog 70 #[.slice p.a p.l.length p.c, .slice q.a q.l.length q.c] w fun e w' => e = .returned (.bool (p.l == q.l)) ∧ w = w' := by
  have c1 := conv_string w p.a p.l p.c hp
  have c2 := conv_string w q.a q.l q.c hq
  have e1 := str_toList p.l
  have e2 := str_toList q.l
  clear hp hq
  obtain ⟨pa, pc, pl⟩ := p
  obtain ⟨qa, qc, ql⟩ := q
  go_enter Try.func70, Try.ntmps70
  go_wp2_with fail
  go_ret
  exact ⟨rfl, rfl⟩
/-- Begins p with q? -/
def begins (p q : List UInt8) : Bool := decide (q.length ≤ p.length) && (p.take q.length == q)
set_option maxRecDepth 100000 in
theorem hasPrefix_is (p q : Pt) (w : World) (hp : p.ok w) (hq : bytesIn w q.a q.l) :
    Calls Try.prog 57 #[.slice p.a p.l.length p.c, .slice q.a q.l.length q.c] w fun e w' => e = .returned (.bool (begins p.l q.l)) ∧ w = w' := by
  by_cases hle : q.l.length ≤ p.l.length
  · have r := p.run_h q.l.length hle hp.1 w
    have PE := Lib.hid (equal_is (p.sub 0 q.l.length) q w (Pt.sub_ok hp 0 q.l.length (Nat.zero_le _) hle).2.2 hq)
    have el : (p.sub 0 q.l.length).l = p.l.take q.l.length := by show (p.l.take q.l.length).drop 0 = _; rw [List.drop_zero]
    have HB : Hid (begins p.l q.l = ((p.sub 0 q.l.length).l == q.l)) := Lib.hid (by rw [el]; unfold begins; rw [decide_eq_true hle, Bool.true_and])
    have q0 : (q.l.length : Int) ≤ (p.l.length : Int) := by omega
    rw [HB.out]
    clear hp hq hle el HB
    generalize p.sub 0 q.l.length = z at *
    obtain ⟨y, hy⟩ : ∃ y, y = (z.l == q.l) := ⟨_, rfl⟩
    rw [← hy] at PE ⊢
    clear hy
    generalize p.l.length = pn at *
    generalize q.l.length = qn at *
    go_enter Try.func57, Try.ntmps57
    go_wp2_with fail
    with_reducible refine PE.out.mono ?_
    rintro e w' ⟨rfl, rfl⟩
    cases y
    · go_wp2_with fail
      go_ret
      exact ⟨rfl, rfl⟩
    · go_wp2_with fail
      go_ret
      exact ⟨rfl, rfl⟩
  · have HB : Hid (begins p.l q.l = false) := Lib.hid (by unfold begins; rw [decide_eq_false hle, Bool.false_and])
    have q0 : ¬ (q.l.length : Int) ≤ (p.l.length : Int) := by omega
    rw [HB.out]
    clear hp hq hle HB
    generalize p.l.length = pn at *
    generalize q.l.length = qn at *
    go_enter Try.func57, Try.ntmps57
    go_wp2_with fail
    go_ret
    exact ⟨rfl, rfl⟩
theorem cutPrefix_no (p q : Pt) (w : World) (hp : p.ok w) (hq : bytesIn w q.a q.l) (hno : begins p.l q.l = false) :
    Calls Try.prog 56 #[.slice p.a p.l.length p.c, .slice q.a q.l.length q.c] w fun e w' => e = .returned (.tuple #[p.val, .bool false]) ∧ w = w' := by
  have PE := hasPrefix_is p q w hp hq
  rw [hno] at PE
  have PE := Lib.hid PE
  unfold Pt.val
  clear hp hq hno
  generalize p.l.length = pn at *
  generalize q.l.length = qn at *
  go_enter Try.func56, Try.ntmps56
  go_wp2_with fail
  with_reducible refine PE.out.mono ?_
  rintro e w' ⟨rfl, rfl⟩
  go_wp2_with fail
  go_ret2
  exact ⟨rfl, rfl⟩
set_option maxRecDepth 100000 in
set_option maxHeartbeats 2000000 in
theorem open_no (x : UInt8) (p : Pt) (w : World) (hp : p.ok w) (hno : begins p.l [72, 89, x] = false) :
    Calls Try.prog 42 #[.int .u8 (V x), .slice p.a p.l.length p.c] w fun r w' => ∃ k, r = .returned (.pointer (some ⟨k, 0, none⟩)) ∧ w.heap.size ≤ k ∧ RdAt B w' k [] (if begins [72, 89, x] p.l then 3 else 2) ∧ Below w.heap.size w w' := by
  have B0 := Lib.hid ((Below.refl w.heap.size w).alloc (Nat.le_refl _) (.cells #[.int .u8 72, .int .u8 89, .int .u8 (V x)] 5 (0, 0)))
  have HQ : Hid (bytesIn (w.alloc (.cells #[.int .u8 72, .int .u8 89, .int .u8 (V x)] 5 (0, 0))) (some ⟨w.heap.size, 0, none⟩) [72, 89, x]) := Lib.hid (by
    obtain ⟨a, c, hv, _, h2, _⟩ := rowIs.bytes (rowIs.lit w w.heap.size [72, 89, x] #[.int .u8 72, .int .u8 89, .int .u8 (V x)] rfl 3 rfl (Nat.le_refl _) (by simp))
    cases hv
    exact h2)
  have PC := cutPrefix_no p ⟨some ⟨w.heap.size, 0, none⟩, 3, [72, 89, x]⟩ (w.alloc (.cells #[.int .u8 72, .int .u8 89, .int .u8 (V x)] 5 (0, 0))) (hp.below B0.out) HQ.out hno
  have PH := hasPrefix_is ⟨some ⟨w.heap.size, 0, none⟩, 3, [72, 89, x]⟩ p (w.alloc (.cells #[.int .u8 72, .int .u8 89, .int .u8 (V x)] 5 (0, 0))) ⟨Nat.le_refl 3, (by show 3 ≤ 9223372036854775807; omega), HQ.out⟩ (hp.below B0.out).2.2
  rw [show ([72, 89, x] : List UInt8).length = 3 from rfl] at PC PH
  simp only [] at PC PH
  have HBG : Hid ((if begins [72, 89, x] p.l then (3 : Int) else 2) = if begins [72, 89, x] p.l then (3 : Int) else 2) := Lib.hid rfl
  have fin : ∀ (w1 : World) (e : Int), Below w.heap.size w w1 → Below w.heap.size w (w1.alloc (.cells #[.slice none 0 0, .int .i64 e] 91 (0, 0))) ∧ RdAt B (w1.alloc (.cells #[.slice none 0 0, .int .i64 e] 91 (0, 0))) w1.heap.size [] e := fun w1 e h =>
    ⟨h.alloc h.size _, ⟨none, 0, []⟩, ⟨blockIs.new w1 [.slice none 0 0, .int .i64 e] _, Nat.le_refl _, by decide, Or.inl rfl⟩, (fun y hy => by cases hy), rfl, (fun _ => rfl), fun _ _ y hy => by cases hy⟩
  have FIN := Lib.hid fin
  unfold Pt.val at PC
  have PC := Lib.hid PC
  have PH := Lib.hid PH
  obtain ⟨y, hy⟩ : ∃ y, y = begins [72, 89, x] p.l := ⟨_, rfl⟩
  rw [← hy] at PH ⊢
  clear hp hno HQ HBG hy fin
  have hz := inZero
  generalize p.l.length = pn at *
  go_enter Try.func42, Try.ntmps42
  go_wp2_with fail
  generalize w.alloc (.cells #[.int .u8 72, .int .u8 89, .int .u8 (V x)] 5 (0, 0)) = wl at *
  with_reducible refine PC.out.mono ?_
  rintro e w1 ⟨rfl, rfl⟩
  go_wp2_with fail
  with_reducible refine PH.out.mono ?_
  rintro e w1 ⟨rfl, rfl⟩
  cases y
  · go_wp2_with fail
    go_ret
    exact ⟨_, rfl, B0.out.size, (FIN.out _ 2 B0.out).2, (FIN.out _ 2 B0.out).1⟩
  · go_wp2_with fail
    go_ret
    exact ⟨_, rfl, B0.out.size, (FIN.out _ 3 B0.out).2, (FIN.out _ 3 B0.out).1⟩
end Go.Proofs.Ytjgmhaajcglpmaa
