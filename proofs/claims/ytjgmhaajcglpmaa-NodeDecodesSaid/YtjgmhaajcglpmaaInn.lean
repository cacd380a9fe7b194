/- Parts of slices; a reader in memory; bytes.Equal, HasPrefix, CutPrefix; Open of a right thing; gives, Err, take. -/
import Derived.Test.YtjgmhaajcglpmaaRwo
import Derived.Lib.ConvBytes
namespace Go.Proofs.Ytjgmhaajcglpmaa
open Go.RowKit

/-- A slice of bytes. -/
structure Pt where
  a : Option Addr
  c : Nat
  l : List UInt8
def Pt.val (p : Pt) : Value := .slice p.a p.l.length p.c
def Pt.ok (w : World) (p : Pt) : Prop := p.l.length ≤ p.c ∧ p.c ≤ 9223372036854775807 ∧ bytesIn w p.a p.l
theorem cut_in {w : World} {a : Option Addr} {l : List UInt8} (h : bytesIn w a l) (c i : Nat) (hc : l.length ≤ c) : bytesIn w (if c = i then a else a.map (fun x => x.add i)) (l.drop i) := by
  by_cases e : c = i
  · left
    rw [List.drop_eq_nil_iff]
    omega
  · rw [if_neg e]
    rcases h with h | ⟨bb, bo, rfl, h2⟩
    · exact Or.inl (by rw [h, List.drop_nil])
    · refine Or.inr ⟨bb, bo + i, by show some (Addr.add _ i) = _; rw [Addr.add_lit], fun j hj => ?_⟩
      rw [List.length_drop] at hj
      rw [show bo + i + j = bo + (i + j) by omega, h2 (i + j) (by omega)]
      simp [List.getD_eq_getElem?_getD, List.getElem?_drop]
theorem drop_take_len (l : List UInt8) (i k : Nat) (hk : k ≤ l.length) : ((l.take k).drop i).length = k - i := by
  rw [List.length_drop, List.length_take]; omega
/-- A part of a slice, from i to k. -/
def Pt.sub (p : Pt) (i k : Nat) : Pt := ⟨if p.c = i then p.a else p.a.map (fun x => x.add i), p.c - i, (p.l.take k).drop i⟩
theorem Pt.sub_ok {w : World} {p : Pt} (h : p.ok w) (i k : Nat) (hik : i ≤ k) (hk : k ≤ p.l.length) : (p.sub i k).ok w := by
  obtain ⟨h1, h2, h3⟩ := h
  refine ⟨?_, ?_, ?_⟩
  · show ((p.l.take k).drop i).length ≤ p.c - i
    rw [drop_take_len _ _ _ hk]; omega
  · show p.c - i ≤ _
    omega
  · exact cut_in (h3.take k) p.c i (by rw [List.length_take]; omega)
theorem slice22 : Try.prog.underlying 40 = some (.slice (Try.prog.elem 40)) := by kernel_rfl
theorem sz22 (w : World) : (sizeOf (Try.prog.elem 40)).run Try.prog w = .ok 1 w := by kernel_rfl
/-- What the three forms of a slice's slice answer. -/
theorem Pt.run_lh (p : Pt) (i k : Nat) (hik : i ≤ k) (hk : k ≤ p.l.length) (hc : p.l.length ≤ p.c) (w : World) :
    (Instr.slice 40 (.slice p.a p.l.length p.c) (some (.int .i64 (i : Int))) (some (.int .i64 (k : Int))) none).run Try.prog w = .ok (.slice (p.sub i k).a (p.sub i k).l.length (p.sub i k).c) w := by
  rw [run_slice_lh w 40 p.a p.l.length p.c slice22 .i64 .i64 (i : Int) (k : Int) (by omega) (by omega) (by omega), sz22]
  show Result.ok (sliced p.a (i : Int).toNat (k : Int).toNat p.c 1) w = _
  rw [Int.toNat_natCast, Int.toNat_natCast]
  unfold sliced Pt.sub
  rw [drop_take_len _ _ _ hk, Nat.mul_one]
theorem Pt.run_h (p : Pt) (k : Nat) (hk : k ≤ p.l.length) (hc : p.l.length ≤ p.c) (w : World) :
    (Instr.slice 40 (.slice p.a p.l.length p.c) none (some (.int .i64 (k : Int))) none).run Try.prog w = .ok (.slice (p.sub 0 k).a (p.sub 0 k).l.length (p.sub 0 k).c) w := by
  rw [run_slice_h w 40 p.a p.l.length p.c slice22 .i64 (k : Int) (by omega) (by omega), sz22]
  show Result.ok (sliced p.a 0 (k : Int).toNat p.c 1) w = _
  rw [Int.toNat_natCast]
  unfold sliced Pt.sub
  rw [drop_take_len _ _ _ hk, Nat.mul_one]
theorem Pt.run_l (p : Pt) (i : Nat) (hi : i ≤ p.l.length) (hc : p.l.length ≤ p.c) (w : World) :
    (Instr.slice 40 (.slice p.a p.l.length p.c) (some (.int .i64 (i : Int))) none none).run Try.prog w = .ok (.slice (p.sub i p.l.length).a (p.sub i p.l.length).l.length (p.sub i p.l.length).c) w := by
  rw [run_slice_l w 40 p.a p.l.length p.c slice22 .i64 (i : Int) (by omega) (by omega), sz22]
  show Result.ok (sliced p.a (i : Int).toNat p.l.length p.c 1) w = _
  rw [Int.toNat_natCast]
  unfold sliced Pt.sub
  rw [drop_take_len _ _ _ (Nat.le_refl _), Nat.mul_one]

theorem Pt.ok.below {w w' : World} {p : Pt} (h : p.ok w) (k : Below w.heap.size w w') : p.ok w' := ⟨h.1, h.2.1, h.2.2.below k (Nat.le_refl _)⟩
theorem equal_yes (p q : Pt) (w : World) (hp : bytesIn w p.a p.l) (hq : bytesIn w q.a q.l) (he : p.l = q.l) :
    Calls Try.prog 70 #[.slice p.a p.l.length p.c, .slice q.a q.l.length q.c] w fun e w' => e = .returned (.bool true) ∧ w = w' := by
  have c1 := conv_string w p.a p.l p.c hp
  have c2 := conv_string w q.a q.l q.c hq
  rw [he] at c1 ⊢
  clear hp hq he
  obtain ⟨pa, pc, pl⟩ := p
  obtain ⟨qa, qc, ql⟩ := q
  go_enter Try.func70, Try.ntmps70
  go_wp2_with fail
  go_ret
  exact ⟨rfl, rfl⟩
theorem hasPrefix_yes (p q : Pt) (w : World) (hp : p.ok w) (hq : bytesIn w q.a q.l) (hle : q.l.length ≤ p.l.length) (he : p.l.take q.l.length = q.l) :
    Calls Try.prog 57 #[.slice p.a p.l.length p.c, .slice q.a q.l.length q.c] w fun e w' => e = .returned (.bool true) ∧ w = w' := by
  have r := p.run_h q.l.length hle hp.1 w
  have PE := Lib.hid (equal_yes (p.sub 0 q.l.length) q w (Pt.sub_ok hp 0 q.l.length (Nat.zero_le _) hle).2.2 hq (by
    have : (p.sub 0 q.l.length).l = (p.l.take q.l.length).drop 0 := rfl
    rw [this, List.drop_zero, he]))
  have q0 : (q.l.length : Int) ≤ (p.l.length : Int) := by omega
  clear hp hq he hle
  generalize p.sub 0 q.l.length = z at *
  generalize p.l.length = pn at *
  generalize q.l.length = qn at *
  go_enter Try.func57, Try.ntmps57
  go_wp2_with fail
  with_reducible refine PE.out.mono ?_
  rintro e w' ⟨rfl, rfl⟩
  go_wp2_with fail
  go_ret
  exact ⟨rfl, rfl⟩
theorem cutPrefix_yes (p q : Pt) (w : World) (hp : p.ok w) (hq : bytesIn w q.a q.l) (hle : q.l.length ≤ p.l.length) (he : p.l.take q.l.length = q.l) :
    Calls Try.prog 56 #[.slice p.a p.l.length p.c, .slice q.a q.l.length q.c] w fun e w' => e = .returned (.tuple #[(p.sub q.l.length p.l.length).val, .bool true]) ∧ w = w' := by
  have r := p.run_l q.l.length hle hp.1 w
  have PE := Lib.hid (hasPrefix_yes p q w hp hq hle he)
  unfold Pt.val
  clear hp hq he hle
  generalize p.sub q.l.length p.l.length = z at *
  generalize p.l.length = pn at *
  generalize q.l.length = qn at *
  go_enter Try.func56, Try.ntmps56
  go_wp2_with fail
  with_reducible refine PE.out.mono ?_
  rintro e w' ⟨rfl, rfl⟩
  go_wp2_with fail
  go_ret2
  exact ⟨rfl, rfl⟩
/-- A reader: what is left, the first fault. -/
def InAt (w : World) (k : Nat) (p : Pt) (e : Int) : Prop := blockIs w k [p.val, .int .i64 e] 91 ∧ p.ok w
theorem gives_any (k : Nat) (p : Pt) (e : Int) (w : World) (h : InAt w k p e) :
    Calls Try.prog 58 #[.pointer (some ⟨k, 0, none⟩)] w fun r w' => r = .returned (.bool (e == 0)) ∧ w = w' := by
  have c1 : w.cell? ⟨k, 1, none⟩ = some (.int .i64 e) := by rw [h.1.cell]; rfl
  clear h
  go_enter Try.func58, Try.ntmps58
  go_wp2_with fail
  go_ret
  exact ⟨rfl, rfl⟩
theorem err_any (k : Nat) (p : Pt) (e : Int) (w : World) (h : InAt w k p e) :
    Calls Try.prog 45 #[.pointer (some ⟨k, 0, none⟩)] w fun r w' => r = .returned (.int .i64 e) ∧ w = w' := by
  have c1 : w.cell? ⟨k, 1, none⟩ = some (.int .i64 e) := by rw [h.1.cell]; rfl
  clear h
  go_enter Try.func45, Try.ntmps45
  go_wp2_with fail
  go_ret
  exact ⟨rfl, rfl⟩
end Go.Proofs.Ytjgmhaajcglpmaa
