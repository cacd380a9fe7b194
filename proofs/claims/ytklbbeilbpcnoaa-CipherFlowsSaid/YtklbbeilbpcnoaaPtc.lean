/- Parts of slices; texts of bytes. -/
import Derived.Test.YtklbbeilbpcnoaaAdd
namespace Go.Proofs.Ytklbbeilbpcnoaa
open Go.RowKit Sha Aes

theorem conv_string (w : World) (a : Option Addr) (l : List UInt8) (c : Nat) (h : bytesIn w a l) : (convert 28 9 (.slice a l.length c)).run Try.prog w = .ok (.string (str l)) w := by
  cases a with
  | none =>
    rcases h with rfl | ⟨_, _, h, _⟩
    · rw [run_convert_bytes_nil w 28 5 Try.underlying28 Try.underlying5 _ _ 9 Try.underlying9]
      rfl
    · cases h
  | some ad =>
    rw [run_convert_bytes_string w 28 9 5 _ _ _ Try.underlying28 Try.underlying5 Try.underlying9]
    have hl : (loadCells ad l.length).run Try.prog w = .ok ((l.map fun b => (V b)).map (Value.int .u8)).toArray w := by
      have := run_loadCells_list (P := Try.prog) w ad ((l.map fun b => (V b)).map (Value.int .u8)) (fun j v hj => by
        rcases h with rfl | ⟨bb, bo, h1, h2⟩
        · simp at hj
        · cases h1
          have hjl : j < l.length := by
            have := (List.getElem?_eq_some_iff.1 hj).1
            simpa using this
          rw [Addr.add_lit, h2 j hjl, ← hj]
          simp [hjl])
      simpa using this
    rw [run_bytesToString w ad l.length c (l.map fun b => (V b)) hl, foldl_push_bytes]
    congr 2
    unfold str
    simp only [V, ByteArray.empty, ByteArray.emptyWithCapacity, List.map_map]
    have e : ((fun n : Int => UInt8.ofNat n.toNat) ∘ fun b : UInt8 => (b.toNat : Int)) = id := by funext b; simp
    rw [e]
    simp
    rfl
/-- A list of slices, each with its bytes. -/
structure Pt where
  a : Option Addr
  c : Nat
  l : List UInt8
def Pt.val (p : Pt) : Value := .slice p.a p.l.length p.c
def Pt.ok (w : World) (p : Pt) : Prop := p.l.length ≤ p.c ∧ p.c ≤ 9223372036854775807 ∧ bytesIn w p.a p.l
theorem drop_take_len (l : List UInt8) (i k : Nat) (hk : k ≤ l.length) : ((l.take k).drop i).length = k - i := by
  rw [List.length_drop, List.length_take]; omega
/-- A part of a slice, from i to k. -/
def Pt.sub (p : Pt) (i k : Nat) : Pt := ⟨if p.c = i then p.a else p.a.map (fun x => x.add i), p.c - i, (p.l.take k).drop i⟩
theorem Pt.sub_ok {w : World} {p : Pt} (h : p.ok w) (i k : Nat) (hik : i ≤ k) (hk : k ≤ p.l.length) : (p.sub i k).ok w := by
  obtain ⟨h1, h2, h3⟩ := h
  refine ⟨?_, ?_, ?_⟩
  · show ((p.l.take k).drop i).length ≤ p.c - i
    rw [drop_take_len _ _ _ hk]; omega
  · show p.c - i ≤ _
    omega
  · exact cut_in (h3.take k) p.c i (by rw [List.length_take]; omega)
theorem slice22 : Try.prog.underlying 28 = some (.slice (Try.prog.elem 28)) := by kernel_rfl
theorem sz22 (w : World) : (sizeOf (Try.prog.elem 28)).run Try.prog w = .ok 1 w := by kernel_rfl
/-- What the three forms of a slice's slice answer. -/
theorem Pt.run_lh (p : Pt) (i k : Nat) (hik : i ≤ k) (hk : k ≤ p.l.length) (hc : p.l.length ≤ p.c) (w : World) :
    (Instr.slice 28 (.slice p.a p.l.length p.c) (some (.int .i64 (i : Int))) (some (.int .i64 (k : Int))) none).run Try.prog w = .ok (.slice (p.sub i k).a (p.sub i k).l.length (p.sub i k).c) w := by
  rw [run_slice_lh w 28 p.a p.l.length p.c slice22 .i64 .i64 (i : Int) (k : Int) (by omega) (by omega) (by omega), sz22]
  show Result.ok (sliced p.a (i : Int).toNat (k : Int).toNat p.c 1) w = _
  rw [Int.toNat_natCast, Int.toNat_natCast]
  unfold sliced Pt.sub
  rw [drop_take_len _ _ _ hk, Nat.mul_one]
theorem Pt.run_h (p : Pt) (k : Nat) (hk : k ≤ p.l.length) (hc : p.l.length ≤ p.c) (w : World) :
    (Instr.slice 28 (.slice p.a p.l.length p.c) none (some (.int .i64 (k : Int))) none).run Try.prog w = .ok (.slice (p.sub 0 k).a (p.sub 0 k).l.length (p.sub 0 k).c) w := by
  rw [run_slice_h w 28 p.a p.l.length p.c slice22 .i64 (k : Int) (by omega) (by omega), sz22]
  show Result.ok (sliced p.a 0 (k : Int).toNat p.c 1) w = _
  rw [Int.toNat_natCast]
  unfold sliced Pt.sub
  rw [drop_take_len _ _ _ hk, Nat.mul_one]
theorem Pt.run_l (p : Pt) (i : Nat) (hi : i ≤ p.l.length) (hc : p.l.length ≤ p.c) (w : World) :
    (Instr.slice 28 (.slice p.a p.l.length p.c) (some (.int .i64 (i : Int))) none none).run Try.prog w = .ok (.slice (p.sub i p.l.length).a (p.sub i p.l.length).l.length (p.sub i p.l.length).c) w := by
  rw [run_slice_l w 28 p.a p.l.length p.c slice22 .i64 (i : Int) (by omega) (by omega), sz22]
  show Result.ok (sliced p.a (i : Int).toNat p.l.length p.c 1) w = _
  rw [Int.toNat_natCast]
  unfold sliced Pt.sub
  rw [drop_take_len _ _ _ (Nat.le_refl _), Nat.mul_one]
end Go.Proofs.Ytklbbeilbpcnoaa
