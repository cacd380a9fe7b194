/- hypogeumref06: Begin, Num, Text; the law's kind; Raw of one row. -/
import Derived.Test.YtjgmhaajcglpmaaRaw
import Derived.Laws.Concat
namespace Go.Proofs.Ytjgmhaajcglpmaa
open Go.RowKit

theorem str_append (a b : List UInt8) : str a ++ str b = str (a ++ b) := by
  unfold str
  rw [ByteArray.mk_append_mk]
theorem conv_one (w : World) (x : UInt8) (t : TypeId) : (convert 40 9 (.slice (some ⟨w.heap.size, 0, none⟩) 1 1)).run Try.prog (w.alloc (.cells #[.int .u8 (V x)] t (0, 0))) = .ok (.string (str [x])) (w.alloc (.cells #[.int .u8 (V x)] t (0, 0))) :=
  conv_string (w.alloc (.cells #[.int .u8 (V x)] t (0, 0))) (some ⟨w.heap.size, 0, none⟩) [x] 1 (one_in _)

set_option maxRecDepth 100000 in
set_option maxHeartbeats 1000000 in
theorem refBegin_any (x : UInt8) (w : World) :
    Calls Try.prog 29 #[.int .u8 (V x)] w fun e w' => e = .returned (.string (str [72, 89, x])) ∧ Below w.heap.size w w' := by
  have cv := conv_one w x 5
  have hs : (str [x]).size = 1 := str_size [x]
  have h2 : (⟨#[72, 89]⟩ : ByteArray) ++ str [x] = str [72, 89, x] := str_append [72, 89] [x]
  go_enter Try.func29, Try.ntmps29
  go_wp2_with fail
  go_ret
  exact ⟨rfl, (Below.refl _ _).alloc (Nat.le_refl _) _⟩

set_option maxRecDepth 100000 in
set_option maxHeartbeats 2000000 in
theorem refNum_any (n : Nat) (w : World) (hn : n < 4611686018427387904) :
    Calls Try.prog 30 #[.int .i64 n] w fun e w' => e = .returned (.string (str (numBytes n))) ∧ Below w.heap.size w w' := by
  have H9 := Lib.hid (numBytes_nine n hn)
  have HN := Lib.hid hn
  clear hn
  obtain ⟨R, hR⟩ : ∃ R, R = numBytes n := ⟨_, rfl⟩
  rw [← hR] at H9 ⊢
  have HR := Lib.hid hR
  clear hR
  go_enter Try.func30, Try.ntmps30
  go_wp2_with fail
  go_loopw [0, 3] (fun i s wr => ∃ (m : Nat) (S : List UInt8), i = .int .i64 m ∧ s = .string (str S) ∧ m ≤ n ∧ Hid (S ++ numBytes m = R) ∧ Below w.heap.size w wr) (fun i _ _ => (intOf i).toNat)
  case atStart => exact ⟨n, [], rfl, rfl, Nat.le_refl _, Lib.hid (by rw [HR.out]; rfl), Below.refl _ _⟩
  case round =>
    obtain ⟨m, S, rfl, rfl, hm, hS, hb⟩ := hrel
    have HB := Lib.hid hb
    clear hb
    have hn := HN.out
    have hl : S.length ≤ 9 := by
      have h1 := congrArg List.length hS.out
      have h2 := H9.out
      rw [List.length_append] at h1
      omega
    have hs := str_size S
    by_cases hlt : 128 ≤ m
    · have q0 : 128 ≤ (m : Int) := by omega
      have p0 : 0 ≤ (m : Int) := by omega
      obtain ⟨x, hx⟩ : ∃ x : UInt8, x = UInt8.ofNat (m % 128 + 128) := ⟨_, rfl⟩
      have e1 : IntKind.i64.wrap ((m : Int) % 128 + 128) = (m : Int) % 128 + 128 := IntWalk.i64_in _ (by omega)
      have e2 : IntKind.u8.wrap ((m : Int) % 128 + 128) = V x := by
        rw [hx, IntKind.wrap_u8']; unfold V; rw [UInt8.toNat_ofNat']; omega
      have e3 : IntKind.i64.wrap ((m : Int) / 128) = ((m / 128 : Nat) : Int) := by rw [IntWalk.i64_in _ (by omega)]; omega
      have HS : Hid ((S ++ [x]) ++ numBytes (m / 128) = R) := Lib.hid (by
        have h1 := hS.out
        rw [numBytes_big (by omega), ← hx] at h1
        rw [List.append_assoc]
        exact h1)
      clear hx
      have cv := conv_one wr x 5
      have hs1 : (str [x]).size = 1 := str_size [x]
      have h2 : str S ++ str [x] = str (S ++ [x]) := str_append S [x]
      have c0 : ¬ (9223372036854775807 < S.length + 1) := by omega
      go_wp2_with fail
      go_roundw
      case rel => exact ⟨m / 128, S ++ [x], rfl, rfl, by omega, HS, (HB.out.alloc HB.out.size _)⟩
      case measure => simp [intOf]; omega
    · have q0 : ¬ 128 ≤ (m : Int) := by omega
      obtain ⟨x, hx⟩ : ∃ x : UInt8, x = UInt8.ofNat m := ⟨_, rfl⟩
      have e2 : IntKind.u8.wrap (m : Int) = V x := by
        rw [hx, IntKind.wrap_u8']; unfold V; rw [UInt8.toNat_ofNat']; omega
      have HS : Hid (S ++ [x] = R) := Lib.hid (by
        have h1 := hS.out
        rw [numBytes_small (by omega), ← hx] at h1
        exact h1)
      clear hx
      have cv := conv_one wr x 5
      have hs1 : (str [x]).size = 1 := str_size [x]
      have h2 : str S ++ str [x] = str (S ++ [x]) := str_append S [x]
      have c0 : ¬ (9223372036854775807 < S.length + 1) := by omega
      go_wp2_with fail
      go_ret
      exact ⟨by rw [HS.out]; rfl, HB.out.alloc HB.out.size _⟩

set_option maxRecDepth 100000 in
theorem refText_any (l : List UInt8) (w : World) (hl : l.length ≤ 200000) :
    Calls Try.prog 31 #[.string (str l)] w fun e w' => e = .returned (.string (str (numBytes l.length ++ l))) ∧ Below w.heap.size w w' := by
  have hs := str_size l
  have h9 := numBytes_nine l.length (by omega)
  have PN := Lib.hid (refNum_any l.length w (by omega))
  have hs2 := str_size (numBytes l.length)
  have h2 := str_append (numBytes l.length) l
  generalize numBytes l.length = R at *
  have c0 : ¬ (9223372036854775807 < R.length + l.length) := by omega
  go_enter Try.func31, Try.ntmps31
  go_wp2_with fail
  with_reducible refine PN.out.mono ?_
  rintro e w' ⟨rfl, hb⟩
  go_wp2_with fail
  go_ret
  exact ⟨rfl, hb⟩
end Go.Proofs.Ytjgmhaajcglpmaa
