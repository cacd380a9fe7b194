/- The document's reader (Num, Raw, Text, End, id, Open), rows of its nodes that lie apart, and its Decode in plain words. -/
import Derived.Test.YtjgmhaajcglpmaaNra
import Derived.Test.YtjgmhaajcglpmaaNc
import Derived.Test.YtjgmhaajcglpmaaNdc
import Derived.Test.YtjgmhaajcglpmaaNde
namespace Go.Proofs.Ytjgmhaajcglpmaa
open Go.RowKit

/-- The document's reader: what is left, the first fault. -/
def DAt (w : World) (k : Nat) (L : List UInt8) (e : Int) : Prop := blockIs w k [.string (str L), .int .i64 e] 73
theorem DAt.fault {w : World} {k : Nat} {L : List UInt8} {e : Int} (h : DAt w k L e) (e' : Int) : DAt (w.setCell ⟨k, 1, none⟩ (.int .i64 e')) k L e' := blockIs.set h 1 _
theorem DAt.rest {w : World} {k : Nat} {L : List UInt8} {e : Int} (h : DAt w k L e) (L1 : List UInt8) : DAt (w.setCell ⟨k, 0, none⟩ (.string (str L1))) k L1 e := blockIs.set h 0 _
theorem DAt.below {w w' : World} {k : Nat} {L : List UInt8} {e : Int} (h : DAt w k L e) (hb : Below w.heap.size w w') : DAt w' k L e := blockIs.below hb h h.lt
theorem str_extract_from (T : List UInt8) (m : Nat) : (str T).extract m (str T).size = str (T.drop m) := by
  rw [str_size]
  unfold str
  apply ByteArray.ext
  apply Array.ext'
  simp [ByteArray.extract, ByteArray.copySlice]
  exact List.take_of_length_le (by rw [List.length_drop]; exact Nat.le_refl _)
theorem str_cutl (T : List UInt8) (m : Nat) (h : m ≤ T.length) (w : World) : (Instr.slice 9 (.string (str T)) (some (.int .i64 (m : Int))) none none).run Try.prog w = .ok (.string (str (T.drop m))) w := by
  have := run_slice_string_l (P := Try.prog) w 9 (str T) Try.underlying9 .i64 (m : Int) (by omega) (by rw [str_size]; omega)
  rw [this, Int.toNat_natCast, str_extract_from]
theorem p128 (j : Nat) (h : j ≤ 8) : 128 ^ j ≤ 72057594037927936 ∧ 1 ≤ 128 ^ j := ⟨Nat.le_trans (Nat.pow_le_pow_right (by decide) h) (by decide), Nat.one_le_pow _ _ (by decide)⟩
set_option maxRecDepth 100000 in
set_option maxHeartbeats 4000000 in
theorem dnum_any (k : Nat) (L : List UInt8) (e most : Int) (w : World) (h : DAt w k L e) (hl : L.length ≤ 100000000) :
    Calls Try.prog 38 #[.pointer (some ⟨k, 0, none⟩), .int .i64 most] w fun r w' => ∃ n L1 e1, Hid (NumTo L e most n L1 e1) ∧ r = .returned (.int .i64 n) ∧ Hid (DAt w' k L1 e1) ∧ Hid (But k w w') := by
  have H := Lib.hid h
  have c0 : w.cell? ⟨k, 0, none⟩ = some (.string (str L)) := by rw [blockIs.cell h]; rfl
  have c1 : w.cell? ⟨k, 1, none⟩ = some (.int .i64 e) := by rw [blockIs.cell h]; rfl
  have f0 := blockIs.free h 0
  have f1 := blockIs.free h 1
  have hsz := str_size L
  clear h
  by_cases he : e = 0
  · subst he
    go_enter Try.func38, Try.ntmps38
    go_wp2_with fail
    go_loopw [7, 5, 6] (fun i n f wr => ∃ (j acc : Nat) (fi : Int), j ≤ 9 ∧ j ≤ L.length ∧ i = .int .i64 j ∧ n = .int .i64 acc ∧ f = .int .i64 fi ∧ Hid (j ≤ 8 → fi = ((128 ^ j : Nat) : Int)) ∧ Hid (more L j) ∧ Hid (said L j acc) ∧ w = wr) (fun i _ _ _ => 9 - (intOf i).toNat)
    case atStart => exact ⟨0, 0, 1, by omega, Nat.zero_le _, rfl, rfl, rfl, Lib.hid (fun _ => rfl), Lib.hid (fun j hj => absurd hj (Nat.not_lt_zero j)), Lib.hid (said_zero L), rfl⟩
    case round =>
      obtain ⟨j, acc, fi, hj9, hjl, rfl, rfl, rfl, HP, MO, SA, rfl⟩ := hrel
      have p0 : 0 ≤ (j : Int) := by omega
      by_cases h9 : j < 9
      · have q9 : (j : Int) < 9 := by omega
        by_cases hj : j < L.length
        · have qj : ¬ (L.length : Int) ≤ (j : Int) := by omega
          obtain ⟨P, hP⟩ : ∃ P, P = 128 ^ j := ⟨_, rfl⟩
          obtain rfl : fi = (P : Int) := by rw [hP]; exact HP.out (by omega)
          have hPb := p128 j (by omega)
          have hab := SA.out.1
          have xi := str_index L j hj w
          have hxb := (L.getD j 0).toNat_lt
          have hd : V (L.getD j 0) = (((L.getD j 0).toNat : Nat) : Int) := rfl
          rw [hd] at xi
          obtain ⟨d, hdx⟩ : ∃ d, d = (L.getD j 0).toNat := ⟨_, rfl⟩
          rw [← hdx] at xi hxb
          have HDX := Lib.hid hdx
          clear hd
          have ed : IntKind.i64.wrap (d : Int) = (d : Int) := IntWalk.i64_in _ (by omega)
          by_cases h128 : 128 ≤ d
          · have q128 : (128 : Int) ≤ (d : Int) := by omega
            have SN := said_next L j acc SA.out hj h9 (by rw [← hdx]; exact h128)
            have MN := more_next MO.out (by rw [← hdx]; exact h128)
            rw [← hdx, show d % 128 = d - 128 by omega] at SN
            obtain ⟨a1, ha1⟩ : ∃ a1, a1 = acc + 128 ^ j * (d - 128) := ⟨_, rfl⟩
            rw [← ha1] at SN
            have e1 : IntKind.i64.wrap ((d : Int) - 128) = ((d - 128 : Nat) : Int) := by rw [IntWalk.i64_in _ (by omega)]; omega
            have e3 : ((d - 128 : Nat) : Int) * (P : Int) = ((128 ^ j * (d - 128) : Nat) : Int) := by rw [hP, ← Int.natCast_mul, Nat.mul_comm]
            have hm : 128 ^ j * (d - 128) ≤ 128 ^ j * 127 := Nat.mul_le_mul_left _ (by omega)
            have e4 : IntKind.i64.wrap (((d - 128 : Nat) : Int) * (P : Int)) = ((128 ^ j * (d - 128) : Nat) : Int) := by rw [e3, IntWalk.i64_in _ (by omega)]
            have e5 : IntKind.i64.wrap ((acc : Int) + ((128 ^ j * (d - 128) : Nat) : Int)) = (a1 : Int) := by rw [IntWalk.i64_in _ (by omega)]; omega
            have HPN : Hid (j + 1 ≤ 8 → wrap64 ((P : Int) * 128) = ((128 ^ (j + 1) : Nat) : Int)) := Lib.hid (fun h8 => by
              have := p128 (j + 1) h8
              have e6 : (P : Int) * 128 = ((128 ^ (j + 1) : Nat) : Int) := by rw [hP, Nat.pow_succ]; omega
              rw [e6]
              unfold wrap64
              omega)
            have SNH := Lib.hid SN
            have MNH := Lib.hid MN
            clear SN MN e3 hm ha1 hP hdx
            generalize 128 ^ j * (d - 128) = z at *
            generalize d - 128 = d2 at *
            go_wp2_with fail
            go_roundw
            case rel => exact ⟨j + 1, a1, _, by omega, hj, by go_num, rfl, rfl, HPN, MNH, SNH, trivial⟩
            case measure => simp [intOf]; omega
          · have q128 : ¬ (128 : Int) ≤ (d : Int) := by omega
            have hx : (L.getD j 0).toNat < 128 := by rw [← hdx]; omega
            by_cases j0 : j = 0
            · have qj0 : ¬ 0 < (j : Int) := by omega
              have qj8 : ((j : Int) == 8) = false := by simp; omega
              have J0 := Lib.hid j0
              clear j0
              have hNs := said_last L j acc SA.out hj hx (Or.inl J0.out)
              rw [← hdx] at hNs
              obtain ⟨N, hN⟩ : ∃ N, N = acc + 128 ^ j * d := ⟨_, rfl⟩
              rw [← hN] at hNs
              have hNb : N < 4611686018427387904 := by
                have hm : 128 ^ j * d ≤ 128 ^ j * 127 := Nat.mul_le_mul_left _ (by omega)
                have J00 := J0.out
                have h7 : 128 ^ j ≤ 128 ^ 7 := Nat.pow_le_pow_right (by decide) (by omega)
                simp at h7; omega
              have e3 : (d : Int) * (P : Int) = ((128 ^ j * d : Nat) : Int) := by rw [hP, ← Int.natCast_mul, Nat.mul_comm]
              have e4 : IntKind.i64.wrap ((d : Int) * (P : Int)) = ((128 ^ j * d : Nat) : Int) := by rw [e3, IntWalk.i64_in _ (by omega)]
              have e5 : IntKind.i64.wrap ((acc : Int) + ((128 ^ j * d : Nat) : Int)) = (N : Int) := by rw [IntWalk.i64_in _ (by omega)]; omega
              have HNS := Lib.hid hNs
              have HNB := Lib.hid hNb
              have HPE := Lib.hid hP
              clear hNs e3 hN hx hP hdx
              generalize 128 ^ j * d = z at *
              by_cases hbig : most < (N : Int)
              · have HF := Lib.hid (H.out.fault 4)
                go_wp2_with fail
                go_ret
                exact ⟨0, L, 4, Lib.hid (Or.inr (Or.inr ⟨rfl, N, j + 1, HNB.out, hj, HNS.out, Or.inl ⟨hbig, rfl, rfl, rfl⟩⟩)), rfl, HF, Lib.hid ((But.refl k w).setCell _ _ (Or.inl rfl))⟩
              · have HF := Lib.hid (H.out.rest (L.drop (j + 1)))
                have ej : IntKind.i64.wrap ((j : Int) + 1) = ((j + 1 : Nat) : Int) := by rw [IntWalk.i64_in _ (by omega)]; omega
                have sc := str_cutl L (j + 1) hj
                obtain ⟨j1, hj1⟩ : ∃ j1, j1 = j + 1 := ⟨_, rfl⟩
                rw [← hj1] at ej sc HNS HF
                have HJ1 := Lib.hid hj1
                clear hj1
                go_wp2_with fail
                go_ret
                exact ⟨N, L.drop j1, 0, Lib.hid (Or.inr (Or.inr ⟨rfl, N, j1, HNB.out, by have := HJ1.out; omega, HNS.out, Or.inr ⟨by omega, rfl, rfl, rfl⟩⟩)), rfl, HF, Lib.hid ((But.refl k w).setCell _ _ (Or.inl rfl))⟩
            · have qj0 : 0 < (j : Int) := by omega
              by_cases d0 : d = 0
              · have qd0 : ((d : Int) == 0) = true := by simpa using d0
                have D0 := Lib.hid d0
                clear d0
                have hbd : bad L 2 := Or.inr (Or.inr ⟨rfl, j, acc, hj, by omega, MO.out, hx, SA.out, Or.inl ⟨by rw [← HDX.out]; exact D0.out, by omega⟩⟩)
                have HBD := Lib.hid hbd
                have HF := Lib.hid (H.out.fault 2)
                clear hbd hdx hP hx
                go_wp2_with fail
                go_ret
                exact ⟨0, L, 2, Lib.hid (Or.inr (Or.inl ⟨rfl, HBD.out, rfl, rfl⟩)), rfl, HF, Lib.hid ((But.refl k w).setCell _ _ (Or.inl rfl))⟩
              · have qd0 : ((d : Int) == 0) = false := by simpa using d0
                by_cases j8 : j = 8
                · have qj8 : ((j : Int) == 8) = true := by simp; omega
                  have J8 := Lib.hid j8
                  clear j8
                  by_cases d64 : 64 ≤ d
                  · have qd64 : (64 : Int) ≤ (d : Int) := by omega
                    have hbd : bad L 2 := Or.inr (Or.inr ⟨rfl, j, acc, hj, by omega, MO.out, hx, SA.out, Or.inr (by rw [← HDX.out, J8.out]; have : 128 ^ 8 * 64 ≤ 128 ^ 8 * d := Nat.mul_le_mul_left _ d64; simp at this ⊢; omega)⟩)
                    have HBD := Lib.hid hbd
                    have HF := Lib.hid (H.out.fault 2)
                    clear hbd hdx hP hx
                    go_wp2_with fail
                    go_ret
                    exact ⟨0, L, 2, Lib.hid (Or.inr (Or.inl ⟨rfl, HBD.out, rfl, rfl⟩)), rfl, HF, Lib.hid ((But.refl k w).setCell _ _ (Or.inl rfl))⟩
                  · have qd64 : ¬ (64 : Int) ≤ (d : Int) := by omega
                    have hNs := said_last L j acc SA.out hj hx (Or.inr (by omega))
                    rw [← hdx] at hNs
                    obtain ⟨N, hN⟩ : ∃ N, N = acc + 128 ^ j * d := ⟨_, rfl⟩
                    rw [← hN] at hNs
                    have hNb : N < 4611686018427387904 := by
                      have hm : 128 ^ j * d ≤ 128 ^ j * 127 := Nat.mul_le_mul_left _ (by omega)
                      have J88 := J8.out
                      have hm : 128 ^ j * d ≤ 128 ^ j * 63 := Nat.mul_le_mul_left _ (by omega)
                      omega
                    have e3 : (d : Int) * (P : Int) = ((128 ^ j * d : Nat) : Int) := by rw [hP, ← Int.natCast_mul, Nat.mul_comm]
                    have e4 : IntKind.i64.wrap ((d : Int) * (P : Int)) = ((128 ^ j * d : Nat) : Int) := by rw [e3, IntWalk.i64_in _ (by omega)]
                    have e5 : IntKind.i64.wrap ((acc : Int) + ((128 ^ j * d : Nat) : Int)) = (N : Int) := by rw [IntWalk.i64_in _ (by omega)]; omega
                    have HNS := Lib.hid hNs
                    have HNB := Lib.hid hNb
                    have HPE := Lib.hid hP
                    clear hNs e3 hN hx hP hdx
                    generalize 128 ^ j * d = z at *
                    by_cases hbig : most < (N : Int)
                    · have HF := Lib.hid (H.out.fault 4)
                      go_wp2_with fail
                      go_ret
                      exact ⟨0, L, 4, Lib.hid (Or.inr (Or.inr ⟨rfl, N, j + 1, HNB.out, hj, HNS.out, Or.inl ⟨hbig, rfl, rfl, rfl⟩⟩)), rfl, HF, Lib.hid ((But.refl k w).setCell _ _ (Or.inl rfl))⟩
                    · have HF := Lib.hid (H.out.rest (L.drop (j + 1)))
                      have ej : IntKind.i64.wrap ((j : Int) + 1) = ((j + 1 : Nat) : Int) := by rw [IntWalk.i64_in _ (by omega)]; omega
                      have sc := str_cutl L (j + 1) hj
                      obtain ⟨j1, hj1⟩ : ∃ j1, j1 = j + 1 := ⟨_, rfl⟩
                      rw [← hj1] at ej sc HNS HF
                      have HJ1 := Lib.hid hj1
                      clear hj1
                      go_wp2_with fail
                      go_ret
                      exact ⟨N, L.drop j1, 0, Lib.hid (Or.inr (Or.inr ⟨rfl, N, j1, HNB.out, by have := HJ1.out; omega, HNS.out, Or.inr ⟨by omega, rfl, rfl, rfl⟩⟩)), rfl, HF, Lib.hid ((But.refl k w).setCell _ _ (Or.inl rfl))⟩
                · have qj8 : ((j : Int) == 8) = false := by simp; omega
                  have hNs := said_last L j acc SA.out hj hx (Or.inr (by omega))
                  rw [← hdx] at hNs
                  obtain ⟨N, hN⟩ : ∃ N, N = acc + 128 ^ j * d := ⟨_, rfl⟩
                  rw [← hN] at hNs
                  have hNb : N < 4611686018427387904 := by
                    have hm : 128 ^ j * d ≤ 128 ^ j * 127 := Nat.mul_le_mul_left _ (by omega)
                    have h7 : 128 ^ j ≤ 128 ^ 7 := Nat.pow_le_pow_right (by decide) (by omega)
                    simp at h7; omega
                  have e3 : (d : Int) * (P : Int) = ((128 ^ j * d : Nat) : Int) := by rw [hP, ← Int.natCast_mul, Nat.mul_comm]
                  have e4 : IntKind.i64.wrap ((d : Int) * (P : Int)) = ((128 ^ j * d : Nat) : Int) := by rw [e3, IntWalk.i64_in _ (by omega)]
                  have e5 : IntKind.i64.wrap ((acc : Int) + ((128 ^ j * d : Nat) : Int)) = (N : Int) := by rw [IntWalk.i64_in _ (by omega)]; omega
                  have HNS := Lib.hid hNs
                  have HNB := Lib.hid hNb
                  have HPE := Lib.hid hP
                  clear hNs e3 hN hx hP hdx
                  generalize 128 ^ j * d = z at *
                  by_cases hbig : most < (N : Int)
                  · have HF := Lib.hid (H.out.fault 4)
                    go_wp2_with fail
                    go_ret
                    exact ⟨0, L, 4, Lib.hid (Or.inr (Or.inr ⟨rfl, N, j + 1, HNB.out, hj, HNS.out, Or.inl ⟨hbig, rfl, rfl, rfl⟩⟩)), rfl, HF, Lib.hid ((But.refl k w).setCell _ _ (Or.inl rfl))⟩
                  · have HF := Lib.hid (H.out.rest (L.drop (j + 1)))
                    have ej : IntKind.i64.wrap ((j : Int) + 1) = ((j + 1 : Nat) : Int) := by rw [IntWalk.i64_in _ (by omega)]; omega
                    have sc := str_cutl L (j + 1) hj
                    obtain ⟨j1, hj1⟩ : ∃ j1, j1 = j + 1 := ⟨_, rfl⟩
                    rw [← hj1] at ej sc HNS HF
                    have HJ1 := Lib.hid hj1
                    clear hj1
                    go_wp2_with fail
                    go_ret
                    exact ⟨N, L.drop j1, 0, Lib.hid (Or.inr (Or.inr ⟨rfl, N, j1, HNB.out, by have := HJ1.out; omega, HNS.out, Or.inr ⟨by omega, rfl, rfl, rfl⟩⟩)), rfl, HF, Lib.hid ((But.refl k w).setCell _ _ (Or.inl rfl))⟩
        · obtain rfl : j = L.length := by omega
          have qj : (L.length : Int) ≤ (L.length : Int) := by omega
          have HBD : Hid (bad L 3) := Lib.hid (Or.inl ⟨rfl, h9, MO.out⟩)
          have HF := Lib.hid (H.out.fault 3)
          go_wp2_with fail
          go_ret
          exact ⟨0, L, 3, Lib.hid (Or.inr (Or.inl ⟨rfl, HBD.out, rfl, rfl⟩)), rfl, HF, Lib.hid ((But.refl k w).setCell _ _ (Or.inl rfl))⟩
      · obtain rfl : j = 9 := by omega
        have HBD : Hid (bad L 2) := Lib.hid (Or.inr (Or.inl ⟨rfl, hjl, MO.out⟩))
        have HF := Lib.hid (H.out.fault 2)
        go_wp2_with fail
        go_ret
        exact ⟨0, L, 2, Lib.hid (Or.inr (Or.inl ⟨rfl, HBD.out, rfl, rfl⟩)), rfl, HF, Lib.hid ((But.refl k w).setCell _ _ (Or.inl rfl))⟩
  · have b0 : (e != 0) = true := by simpa using he
    go_enter Try.func38, Try.ntmps38
    go_wp2_with fail
    go_ret
    exact ⟨0, L, e, Lib.hid (Or.inl ⟨he, rfl, rfl, rfl⟩), rfl, H, Lib.hid (But.refl _ _)⟩


theorem str_extract (l : List UInt8) (n : Nat) : (str l).extract 0 n = str (l.take n) := by
  apply ByteArray.ext
  rw [ByteArray.data_extract]
  apply Array.toList_inj.1
  simp [str]
theorem str_cut (T : List UInt8) (m : Nat) (h : m ≤ T.length) (w : World) : (Instr.slice 9 (.string (str T)) none (some (.int .i64 (m : Int))) none).run Try.prog w = .ok (.string (str (T.take m))) w := by
  have := run_slice_string_h (P := Try.prog) w 9 (str T) Try.underlying9 .i64 (m : Int) (by omega) (by rw [str_size]; omega)
  rw [this, Int.toNat_natCast, str_extract]
set_option maxRecDepth 100000 in
set_option maxHeartbeats 4000000 in
theorem draw_any (k : Nat) (L : List UInt8) (e n : Int) (w : World) (h : DAt w k L e) (hl : L.length ≤ 100000000) :
    Calls Try.prog 55 #[.pointer (some ⟨k, 0, none⟩), .int .i64 n] w fun r w' => r = .returned (.string (str (tOut L e n))) ∧ Hid (DAt w' k (tLeft L e n) (tErr L e n)) ∧ Hid (But k w w') := by
  have H := Lib.hid h
  have c0 : w.cell? ⟨k, 0, none⟩ = some (.string (str L)) := by rw [blockIs.cell h]; rfl
  have c1 : w.cell? ⟨k, 1, none⟩ = some (.int .i64 e) := by rw [blockIs.cell h]; rfl
  have f0 := blockIs.free h 0
  have f1 := blockIs.free h 1
  have hsz := str_size L
  have se : str [] = ⟨#[]⟩ := rfl
  clear h
  by_cases he : e = 0
  · subst he
    by_cases hn : n < 0
    · have e1 : tOut L 0 n = [] := by unfold tOut; rw [if_neg (by omega)]
      have e2 : tLeft L 0 n = L := by unfold tLeft; rw [if_neg (by omega)]
      have e3 : tErr L 0 n = 1 := by unfold tErr; rw [if_neg (by simp), if_pos hn]
      rw [e1, e2, e3, se]
      have HF := Lib.hid (H.out.fault 1)
      clear e1 e2 e3 se
      go_enter Try.func55, Try.ntmps55
      go_wp2_with fail
      go_ret
      exact ⟨rfl, HF, Lib.hid ((But.refl k w).setCell _ _ (Or.inl rfl))⟩
    · by_cases hgt : (L.length : Int) < n
      · have e1 : tOut L 0 n = [] := by unfold tOut; rw [if_neg (by omega)]
        have e2 : tLeft L 0 n = L := by unfold tLeft; rw [if_neg (by omega)]
        have e3 : tErr L 0 n = 3 := by unfold tErr; rw [if_neg (by simp), if_neg hn, if_pos hgt]
        rw [e1, e2, e3, se]
        have HF := Lib.hid (H.out.fault 3)
        clear e1 e2 e3 se
        go_enter Try.func55, Try.ntmps55
        go_wp2_with fail
        go_ret
        exact ⟨rfl, HF, Lib.hid ((But.refl k w).setCell _ _ (Or.inl rfl))⟩
      · obtain ⟨m, rfl⟩ : ∃ m : Nat, n = (m : Int) := ⟨n.toNat, by omega⟩
        have hml : m ≤ L.length := by omega
        have e1 : tOut L 0 (m : Int) = L.take m := by unfold tOut; rw [if_pos ⟨rfl, by omega, by omega⟩, Int.toNat_natCast]
        have e2 : tLeft L 0 (m : Int) = L.drop m := by unfold tLeft; rw [if_pos ⟨rfl, by omega, by omega⟩, Int.toNat_natCast]
        have e3 : tErr L 0 (m : Int) = 0 := by unfold tErr; rw [if_neg (by simp), if_neg hn, if_neg hgt]
        rw [e1, e2, e3]
        have HF := Lib.hid (H.out.rest (L.drop m))
        have s1 := str_cut L m hml
        have s2 := str_cutl L m hml
        clear e1 e2 e3 se
        go_enter Try.func55, Try.ntmps55
        go_wp2_with fail
        go_ret
        exact ⟨rfl, HF, Lib.hid ((But.refl k w).setCell _ _ (Or.inl rfl))⟩
  · have e1 : tOut L e n = [] := by unfold tOut; rw [if_neg (fun h => he h.1)]
    have e2 : tLeft L e n = L := by unfold tLeft; rw [if_neg (fun h => he h.1)]
    have e3 : tErr L e n = e := by unfold tErr; rw [if_pos he]
    rw [e1, e2, e3, se]
    have b0 : (e != 0) = true := by simpa using he
    clear e1 e2 e3 se
    go_enter Try.func55, Try.ntmps55
    go_wp2_with fail
    go_ret
    exact ⟨rfl, H, Lib.hid (But.refl _ _)⟩
set_option maxRecDepth 100000 in
set_option maxHeartbeats 4000000 in
theorem dtext_any (k : Nat) (L : List UInt8) (e most : Int) (w : World) (h : DAt w k L e) (hl : L.length ≤ 100000000) :
    Calls Try.prog 39 #[.pointer (some ⟨k, 0, none⟩), .int .i64 most] w fun r w' => ∃ n L1 e1, Hid (NumTo L e (min most 131072) n L1 e1) ∧ r = .returned (.string (str (tOut L1 e1 n))) ∧ Hid (DAt w' k (tLeft L1 e1 n) (tErr L1 e1 n)) ∧ Hid (But k w w') := by
  have PN := Lib.hid (dnum_any k L e (min most 131072) w h hl)
  have HL := Lib.hid hl
  clear h hl
  go_enter Try.func39, Try.ntmps39
  go_wp2_with fail
  with_reducible refine PN.out.mono ?_
  rintro r w1 ⟨n, L1, e1, hn, rfl, hr, hb⟩
  have PT := Lib.hid (draw_any k L1 e1 n w1 hr.out (Nat.le_trans hn.out.le HL.out))
  clear hr PN
  go_wp2_with fail
  with_reducible refine PT.out.mono ?_
  rintro r w2 ⟨rfl, hr, hb2⟩
  have B2 := Lib.hid (hb.out.trans hb2.out)
  clear PT hb hb2
  go_wp2_with fail
  go_ret
  exact ⟨n, L1, e1, hn, rfl, hr, B2⟩
set_option maxRecDepth 100000 in
theorem dend_any (k : Nat) (L : List UInt8) (e : Int) (w : World) (h : DAt w k L e) :
    Calls Try.prog 41 #[.pointer (some ⟨k, 0, none⟩)] w fun r w' => r = .returned (.int .i64 (endErr L e)) ∧ DAt w' k L (endErr L e) ∧ But k w w' := by
  have H := Lib.hid h
  have c0 : w.cell? ⟨k, 0, none⟩ = some (.string (str L)) := by rw [blockIs.cell h]; rfl
  have c1 : w.cell? ⟨k, 1, none⟩ = some (.int .i64 e) := by rw [blockIs.cell h]; rfl
  have f1 := blockIs.free h 1
  clear h
  by_cases he : e = 0
  · subst he
    by_cases hL : L = []
    · have E1 : endErr L 0 = 0 := by unfold endErr; rw [if_neg (fun h => h.2 hL)]
      have sb : ((str L).toList == ([] : List UInt8)) = true := by rw [hL, Lib.toList_data]; rfl
      rw [E1]
      clear E1 hL
      go_enter Try.func41, Try.ntmps41
      go_wp2_with fail
      go_ret
      exact ⟨rfl, H.out, But.refl _ _⟩
    · have E1 : endErr L 0 = 2 := by unfold endErr; rw [if_pos ⟨rfl, hL⟩]
      have sb : ((str L).toList == ([] : List UInt8)) = false := by
        rw [Lib.toList_data]
        cases L with
        | nil => exact absurd rfl hL
        | cons x L => rfl
      rw [E1]
      have HF := Lib.hid (H.out.fault 2)
      clear E1 hL
      go_enter Try.func41, Try.ntmps41
      go_wp2_with fail
      go_ret
      exact ⟨rfl, HF.out, (But.refl k w).setCell _ _ (Or.inl rfl)⟩
  · have E1 : endErr L e = e := by unfold endErr; rw [if_neg (fun h => he h.1)]
    rw [E1]
    have b0 : (e == 0) = false := by simpa using he
    clear E1
    go_enter Try.func41, Try.ntmps41
    go_wp2_with fail
    go_ret
    exact ⟨rfl, H.out, But.refl _ _⟩
/-- A text, copied into a row of bytes. -/
theorem copy_text {P : Program} {w : World} {ops : Array Oper} {rest : List Oper} {o : Oper} {a : Act} {Q : Exit → Act → World → Prop} (hgd : o.guard = none) (d s : Operand) (dT sT : TypeId)
    (ho : o.op = .call { callee := .builtin .copy, args := #[d, s], argTypes := #[dT, sT] }) (elem : TypeId) (hu : P.underlying dT = some (.slice elem)) (hsz : (P.info? elem).map (·.size) = some 1)
    (g off dLen dCap : Nat) (hd : a.eval d = .slice (some ⟨g, off, none⟩) dLen dCap) (l : List UInt8) (hs : a.eval s = .string (str l)) (cur : List Value) (t : TypeId) (hg : blockIs w g cur t) (hn : l.length ≤ dLen)
    (hfit : off + l.length ≤ cur.length)
    (h : ∀ w', Hid (blockIs w' g (splice cur off (bvals l)) t) → Hid (But g w w') → wpList P ops Q rest (a.put o.dst (goInt l.length)) w') : wpList P ops Q (o :: rest) a w := by
  refine wpList_plain hgd fun K hK => ?_
  have hst := run_storeCells_at P g off t (bvals l) 0 cur.toArray w hg (by simpa [bvals_length] using hfit) (bvals_one l)
  have hz : ∀ w, (Go.sizeOf elem).run P w = .ok 1 w := fun w => by
    cases hq : P.info? elem with
    | none => simp [hq] at hsz
    | some i =>
      have : i.size = 1 := by simpa [hq] using hsz
      simp [sizeOf, typeInfo, hq, this]
  have hmin : Nat.min (str l).size dLen = l.length := by rw [str_size]; exact Nat.min_eq_left hn
  have hcs : ((str l).data.toList.map fun x => Value.int .u8 (x.toNat : Int)) = bvals l := rfl
  have hrun : (Builtin.copy_ #[dT, sT] o.type #[.slice (some ⟨g, off, none⟩) dLen dCap, .string (str l)]).run P w = .ok (goInt l.length) (w.setRow g (splice cur off (bvals l)).toArray) := by
    simp only [Nat.add_zero] at hst
    simp [Builtin.copy_, run_underlying hu, Builtin.lenOf, Builtin.firstCells, hz, hmin]
    rw [hcs, List.take_of_length_le (by rw [bvals_length]; exact Nat.le_refl _), hst]
    simp [splice]
  unfold Oper.wp
  simp [execOp, ho, resolve, invoke, builtin, hd, hs, hrun, Result.andThen]
  exact hK _ _ (h _ (show _ = _ by simpa using setRow_heap w g _ _ t _ hg) ⟨rfl, rfl, rfl, by simp [World.setRow], fun k _ hk => setRow_other w g k _ hk⟩)
theorem u8_one : (Try.prog.info? 5).map (·.size) = some 1 := by kernel_rfl
theorem info_id1 : (Try.prog.info? 24).map (·.size) = some 32 := by kernel_rfl
theorem did_ret (tmps : Array Value) (w : World) (g : Nat) (cs : List Value) (hp : tmps.getD 2 undef = .pointer (some ⟨g, 0, none⟩)) (hc : blockIs w g cs 24) (hl : cs.length = 32) : (results Try.f40 tmps).run Try.prog w = .ok (.agg cs.toArray) w :=
  results_cell_row rfl tmps w g 24 cs.toArray (0, 0) _ hp hc Try.underlying24 rfl (by rw [List.size_toArray, hl]; kernel_rfl)
set_option maxRecDepth 100000 in
set_option maxHeartbeats 4000000 in
theorem did_any (k : Nat) (L : List UInt8) (e : Int) (w : World) (h : DAt w k L e) (hl : L.length ≤ 100000000) :
    Calls Try.prog 40 #[.pointer (some ⟨k, 0, none⟩)] w fun r w' => ∃ t, r = .returned (.agg (bvals t).toArray) ∧ t.length = 32 ∧ Hid (tErr L e 32 = 0 → t = tOut L e 32) ∧ Hid (DAt w' k (tLeft L e 32) (tErr L e 32)) ∧ Hid (But k w w') := by
  have hz : ∀ w, (zeroValue 24).run Try.prog w = .ok (.agg (bvals noughts).toArray) w := fun w => by rw [id_zero]
  have HZ : Hid ((bvals noughts).length = 32) := Lib.hid (by rw [bvals_length]; rfl)
  have A0 := alloc_below w (.cells (bvals noughts).toArray 24 (0, 0))
  have HB0 := Lib.hid (blockIs.new w (bvals noughts) 24)
  have PR := draw_any k L e 32 _ (h.below A0) hl
  have HA0 := Lib.hid A0
  have HK := Lib.hid h.lt
  have T5 := Lib.hid (rd_raw L e 32)
  generalize hzs : bvals noughts = zs at *
  generalize tOut L e 32 = TR at *
  generalize tLeft L e 32 = L1 at *
  generalize tErr L e 32 = e1 at *
  clear h hl A0
  have HZO : Hid (∀ v ∈ zs, v.oneCell' = true) := Lib.hid (by rw [← hzs]; exact fun v hv => bvals_one _ v hv)
  have HZS := Lib.hid hzs
  clear hzs
  go_enter Try.func40, Try.ntmps40
  go_wp2_with fail
  with_reducible refine PR.mono ?_
  clear PR
  rintro r w1 ⟨rfl, hr, hb⟩
  have HNE : Hid (w.heap.size ≠ k) := Lib.hid (by have := HK.out; omega)
  have HB1 := Lib.hid (HB0.out.but hb.out HNE.out)
  have BU1 := Lib.hid ((But.of_below (b := k) HA0.out).trans hb.out)
  clear HB0 HA0 hb
  generalize w.alloc (.cells zs.toArray 24 (0, 0)) = w0 at *
  have A1 := alloc_below w1 (.cells zs.toArray 24 (0, 0))
  have HB2 := Lib.hid (HB1.out.below A1 HB1.out.lt)
  have HN2 := Lib.hid (blockIs.new w1 zs 24)
  have HR2 := Lib.hid (hr.out.below A1)
  have BU2 := Lib.hid (BU1.out.then (A1.mono BU1.out.size))
  have HG : Hid (w.heap.size < w1.heap.size) := Lib.hid HB1.out.lt
  have HGK : Hid (w1.heap.size ≠ k) := Lib.hid (by have := HK.out; have := HG.out; omega)
  have HGW : Hid (w.heap.size ≠ w1.heap.size) := Lib.hid (by have := HG.out; omega)
  clear A1 HB1 hr BU1
  have c1 : (w1.alloc (.cells zs.toArray 24 (0, 0))).cell? ⟨k, 1, none⟩ = some (.int .i64 e1) := by rw [blockIs.cell HR2.out]; rfl
  by_cases h0 : e1 = 0
  · subst h0
    have htl : TR.length = 32 := by have := (T5.out.fine rfl).2.1; omega
    have HTL := Lib.hid htl
    have HSP : Hid (splice zs 0 (bvals TR) = bvals TR) := Lib.hid (splice_all zs (bvals TR) (by rw [HZ.out, bvals_length, htl]))
    clear htl
    go_wp2_with (refine copy_text rfl _ _ 40 9 rfl 5 (by kernel_rfl) u8_one w1.heap.size 0 32 32 rfl TR rfl zs 24 HN2.out (by have := HTL.out; omega) (by have := HTL.out; have := HZ.out; omega) ?_)
    intro w3 k1 k2
    have hk1 := k1.out
    rw [HSP.out] at hk1
    have HK3 := Lib.hid hk1
    have HB3 := Lib.hid (HB2.out.but k2.out HGW.out)
    have HR3 := Lib.hid (blockIs.but k2.out HR2.out (fun e => HGK.out e.symm))
    have BU3 := Lib.hid (BU2.out.then (k2.out.below (Nat.le_of_lt HG.out) BU2.out.size))
    clear k1 k2 hk1 HB2 HR2 BU2 HN2 c1
    generalize w1.heap.size = g at *
    have R3 := Lib.hid (block_range HK3.out)
    obtain ⟨cs, hcs⟩ : ∃ cs, cs = bvals TR := ⟨_, rfl⟩
    have HCL : Hid (cs.length = 32) := Lib.hid (by rw [hcs, bvals_length]; exact HTL.out)
    have HCO : Hid (∀ v ∈ cs, v.oneCell' = true) := Lib.hid (by rw [hcs]; exact fun v hv => bvals_one _ v hv)
    rw [← hcs] at R3
    have HCS := Lib.hid hcs
    have HIN : Hid ((Try.prog.info? 24).map (·.size) = some cs.length) := Lib.hid (by rw [HCL.out]; exact info_id1)
    clear hcs HK3
    go_wp2_with (first | (refine load_many (by rfl) 24 _ rfl g 0 rfl cs _ R3.out Try.underlying24 rfl HIN.out ?_) | (refine wpList_store_block rfl 24 _ _ rfl w.heap.size 0 cs rfl rfl zs 24 HB3.out HIN.out (by rw [HCL.out, HZ.out]; omega) HCO.out ?_))
    intro w5 k1 k2 k3
    have hk1 := k1.out
    rw [splice_all zs cs (by rw [HCL.out, HZ.out])] at hk1
    have HK5 := Lib.hid hk1
    have HR5 := Lib.hid (blockIs.but k2.out HR3.out (fun e => HNE.out e.symm))
    have BU5 := Lib.hid (BU3.out.then (k2.out.below (Nat.le_refl _) BU3.out.size))
    clear k1 k2 k3 hk1 HR3 BU3 HB3
    go_wp2_with fail
    refine bodyPost_ret (did_ret _ _ w.heap.size cs rfl HK5.out HCL.out) rfl ?_
    exact ⟨TR, by rw [HCS.out], HTL.out, (by first | exact Lib.hid rfl | exact Lib.hid (fun _ => rfl)), HR5, BU5⟩
  · have b0 : (e1 == 0) = false := by simpa using h0
    have R3 := Lib.hid (block_range HN2.out)
    have HIN : Hid ((Try.prog.info? 24).map (·.size) = some zs.length) := Lib.hid (by rw [HZ.out]; exact info_id1)
    have hwe : (w1.alloc (.cells zs.toArray 24 (0, 0))) = (w1.alloc (.cells zs.toArray 24)) := rfl
    clear hwe
    go_wp2_with (first | (refine load_many (by rfl) 24 _ rfl w1.heap.size 0 rfl zs _ R3.out Try.underlying24 rfl HIN.out ?_) | (refine wpList_store_block rfl 24 _ _ rfl w.heap.size 0 zs rfl rfl zs 24 HB2.out HIN.out (by rw [HZ.out]; omega) HZO.out ?_))
    intro w5 k1 k2 k3
    have hk1 := k1.out
    rw [splice_all zs zs rfl] at hk1
    have HK5 := Lib.hid hk1
    have HR5 := Lib.hid (blockIs.but k2.out HR2.out (fun e => HNE.out e.symm))
    have BU5 := Lib.hid (BU2.out.then (k2.out.below (Nat.le_refl _) BU2.out.size))
    clear k1 k2 k3 hk1 HR2 BU2 HB2
    go_wp2_with fail
    refine bodyPost_ret (did_ret _ _ w.heap.size zs rfl HK5.out HZ.out) rfl ?_
    exact ⟨noughts, by rw [HZS.out], rfl, Lib.hid (fun h => absurd h h0), HR5, BU5⟩


theorem din_zero (w : World) : (zeroValue 73).run Try.prog w = .ok (.agg #[.string ⟨#[]⟩, .int .i64 0]) w := by kernel_rfl
theorem take3 {L : List UInt8} {j : Nat} {x : UInt8} (hj : j < 3) (hl : j < L.length) (h : L.take j = [72, 89, x].take j) (he : L.getD j 0 = [72, 89, x].getD j 0) : L.take (j + 1) = [72, 89, x].take (j + 1) := by
  rw [take_next L j hl, take_next [72, 89, x] j hj, h, he]
theorem not3 {L : List UInt8} {j : Nat} {x : UInt8} (hj : j < 3) (he : L.length ≤ j ∨ L.getD j 0 ≠ [72, 89, x].getD j 0) (F : List UInt8) : L ≠ [72, 89, x] ++ F := fun e => by
  rcases he with he | he
  · rw [e, List.length_append] at he
    simp at he
    omega
  · refine he ?_
    rw [e, List.getD_eq_getElem?_getD, List.getElem?_append_left (by exact hj), ← List.getD_eq_getElem?_getD]
def DOpened (w : World) (x : UInt8) (L : List UInt8) (r : Ending) (w' : World) : Prop := ∃ k F e, r = .returned (.pointer (some ⟨k, 0, none⟩)) ∧ w.heap.size ≤ k ∧ Hid (DAt w' k F e) ∧ Hid (OpenIs x L F e) ∧ F.length ≤ L.length ∧ Hid (Below w.heap.size w w')
set_option maxRecDepth 100000 in
set_option maxHeartbeats 4000000 in
theorem dopen_any (x : UInt8) (L : List UInt8) (w : World) (hl : L.length ≤ 100000000) :
    Calls Try.prog 37 #[.int .u8 (V x), .string (str L)] w (DOpened w x L) := by
  have PB := refBegin_any x w
  have hz := din_zero
  have hsz := str_size L
  have hs3 : (str [72, 89, x]).size = 3 := str_size [72, 89, x]
  go_enter Try.func37, Try.ntmps37
  go_wp2_with fail
  with_reducible refine PB.mono ?_
  clear PB
  rintro r w1 ⟨rfl, b1⟩
  have B1 := Lib.hid b1
  clear b1
  go_wp2_with fail
  go_loopw [6] (fun i wr => ∃ j : Nat, j ≤ 3 ∧ j ≤ L.length ∧ i = .int .i64 j ∧ Hid (L.take j = [72, 89, x].take j) ∧ Hid (Below w.heap.size w wr)) (fun i _ => 3 - (intOf i).toNat)
  case atStart => exact ⟨0, by omega, Nat.zero_le _, rfl, Lib.hid rfl, B1⟩
  case round =>
    clear B1
    obtain ⟨j, hj3, hjl, rfl, HT, B1⟩ := hrel
    have p0 : 0 ≤ (j : Int) := by omega
    by_cases h3 : j < 3
    · have q3 : (j : Int) < 3 := by omega
      by_cases hj : j < L.length
      · have qj : ¬ (L.length : Int) ≤ (j : Int) := by omega
        have xi := str_index L j hj
        have yi := str_index [72, 89, x] j h3
        obtain ⟨u, hu⟩ : ∃ u, u = L.getD j 0 := ⟨_, rfl⟩
        obtain ⟨v, hv⟩ : ∃ v, v = [72, 89, x].getD j 0 := ⟨_, rfl⟩
        rw [← hu] at xi
        rw [← hv] at yi
        have HU := Lib.hid hu
        have HV := Lib.hid hv
        clear hu hv
        by_cases huv : u = v
        · have HN := Lib.hid (take3 h3 hj HT.out (by rw [← HU.out, ← HV.out, huv]))
          have hb : (V u != V v) = false := by rw [huv]; simp
          clear huv
          go_upto_region 7 with fail
          refine wp_region_noPanic ?_
          refine wp_region_held_drew (S := fun _ => True) (by kernel_rfl) trivial (fun hH => ?_)
          have BD : Hid (Below w.heap.size w wr.drew) := Lib.hid (B1.out.drew)
          generalize wr.drew = wd at *
          refine wpAnyH_take (i := 0) (oi := { dst := some 19, op := Op.move (Operand.tmp 1), type := 9, pos := "ref.go:45", after := #[], guard := none }) (v := .string (str L)) rfl (by kernel_rfl) (by kernel_rfl) (by kernel_rfl) (fun _ _ _ h => h) (Or.inl ⟨by rfl, fun wx hS => ?_⟩) hH ?_
          · go_simp
          simp only [Act.put, List.setIfInBounds_toArray, List.set_cons_zero, List.set_cons_succ]
          refine wpAnyH_take (i := 1) (oi := { dst := some 20, op := Op.move (Operand.tmp 6), type := 3, pos := "ref.go:45", after := #[], guard := none }) (v := .int .i64 (j : Int)) rfl (by kernel_rfl) (by kernel_rfl) (by kernel_rfl) (fun _ _ _ h => h) (Or.inl ⟨by rfl, fun wx hS => ?_⟩) hH ?_
          · go_simp
          simp only [Act.put, List.setIfInBounds_toArray, List.set_cons_zero, List.set_cons_succ]
          refine wpAnyH_take (i := 2) (oi := { dst := some 21, op := Op.index 9 (Operand.tmp 19) (Operand.tmp 20), type := 5, pos := "ref.go:45", after := #[{ on := 0, ground := Ground.data }, { on := 1, ground := Ground.data }], guard := none }) (v := .int .u8 (V u)) rfl (by kernel_rfl) (by kernel_rfl) (by kernel_rfl) (fun _ _ _ h => h) (Or.inl ⟨by rfl, fun wx hS => ?_⟩) hH ?_
          · have e1 := xi wx; go_simp
          simp only [Act.put, List.setIfInBounds_toArray, List.set_cons_zero, List.set_cons_succ]
          refine wpAnyH_take (i := 3) (oi := { dst := some 22, op := Op.move (Operand.tmp 5), type := 9, pos := "ref.go:45", after := #[], guard := none }) (v := .string (str [72, 89, x])) rfl (by kernel_rfl) (by kernel_rfl) (by kernel_rfl) (fun _ _ _ h => h) (Or.inl ⟨by rfl, fun wx hS => ?_⟩) hH ?_
          · go_simp
          simp only [Act.put, List.setIfInBounds_toArray, List.set_cons_zero, List.set_cons_succ]
          refine wpAnyH_take (i := 4) (oi := { dst := some 23, op := Op.move (Operand.tmp 6), type := 3, pos := "ref.go:45", after := #[], guard := none }) (v := .int .i64 (j : Int)) rfl (by kernel_rfl) (by kernel_rfl) (by kernel_rfl) (fun _ _ _ h => h) (Or.inl ⟨by rfl, fun wx hS => ?_⟩) hH ?_
          · go_simp
          simp only [Act.put, List.setIfInBounds_toArray, List.set_cons_zero, List.set_cons_succ]
          refine wpAnyH_take (i := 5) (oi := { dst := some 24, op := Op.index 9 (Operand.tmp 22) (Operand.tmp 23), type := 5, pos := "ref.go:45", after := #[{ on := 3, ground := Ground.data }, { on := 4, ground := Ground.data }], guard := none }) (v := .int .u8 (V v)) rfl (by kernel_rfl) (by kernel_rfl) (by kernel_rfl) (fun _ _ _ h => h) (Or.inl ⟨by rfl, fun wx hS => ?_⟩) hH ?_
          · have e1 := yi wx; go_simp
          simp only [Act.put, List.setIfInBounds_toArray, List.set_cons_zero, List.set_cons_succ]
          refine wpAnyH_take (i := 6) (oi := { dst := some 25, op := Op.binOp BinOp.neq 5 (Operand.tmp 21) (Operand.tmp 24) 5, type := 4, pos := "ref.go:45", after := #[{ on := 2, ground := Ground.data }, { on := 5, ground := Ground.data }], guard := none }) (v := .bool false) rfl (by kernel_rfl) (by kernel_rfl) (by kernel_rfl) (fun _ _ _ h => h) (Or.inl ⟨by rfl, fun wx hS => ?_⟩) hH ?_
          · go_simp
          simp only [Act.put, List.setIfInBounds_toArray, List.set_cons_zero, List.set_cons_succ]
          refine wpAnyH_done (by kernel_rfl) ?_ _
          refine NoPanic.normal ?_
          go_wp2_with fail
          go_roundw
          case rel => exact ⟨j + 1, by omega, hj, by go_num, HN, BD⟩
          case measure => simp [intOf]; omega
        · have hb : (V u != V v) = true := by
            have : V u ≠ V v := fun e => huv (by
              have e : ((u.toNat : Nat) : Int) = ((v.toNat : Nat) : Int) := e
              exact UInt8.toNat_inj.1 (by omega))
            simpa using this
          have HNO : Hid (∀ F, L ≠ [72, 89, x] ++ F) := Lib.hid (not3 h3 (Or.inr (by rw [← HU.out, ← HV.out]; exact huv)))
          go_upto_region 7 with fail
          refine wp_region_noPanic ?_
          refine wp_region_held_drew (S := fun _ => True) (by kernel_rfl) trivial (fun hH => ?_)
          have BD : Hid (Below w.heap.size w wr.drew) := Lib.hid (B1.out.drew)
          generalize wr.drew = wd at *
          refine wpAnyH_take (i := 0) (oi := { dst := some 19, op := Op.move (Operand.tmp 1), type := 9, pos := "ref.go:45", after := #[], guard := none }) (v := .string (str L)) rfl (by kernel_rfl) (by kernel_rfl) (by kernel_rfl) (fun _ _ _ h => h) (Or.inl ⟨by rfl, fun wx hS => ?_⟩) hH ?_
          · go_simp
          simp only [Act.put, List.setIfInBounds_toArray, List.set_cons_zero, List.set_cons_succ]
          refine wpAnyH_take (i := 1) (oi := { dst := some 20, op := Op.move (Operand.tmp 6), type := 3, pos := "ref.go:45", after := #[], guard := none }) (v := .int .i64 (j : Int)) rfl (by kernel_rfl) (by kernel_rfl) (by kernel_rfl) (fun _ _ _ h => h) (Or.inl ⟨by rfl, fun wx hS => ?_⟩) hH ?_
          · go_simp
          simp only [Act.put, List.setIfInBounds_toArray, List.set_cons_zero, List.set_cons_succ]
          refine wpAnyH_take (i := 2) (oi := { dst := some 21, op := Op.index 9 (Operand.tmp 19) (Operand.tmp 20), type := 5, pos := "ref.go:45", after := #[{ on := 0, ground := Ground.data }, { on := 1, ground := Ground.data }], guard := none }) (v := .int .u8 (V u)) rfl (by kernel_rfl) (by kernel_rfl) (by kernel_rfl) (fun _ _ _ h => h) (Or.inl ⟨by rfl, fun wx hS => ?_⟩) hH ?_
          · have e1 := xi wx; go_simp
          simp only [Act.put, List.setIfInBounds_toArray, List.set_cons_zero, List.set_cons_succ]
          refine wpAnyH_take (i := 3) (oi := { dst := some 22, op := Op.move (Operand.tmp 5), type := 9, pos := "ref.go:45", after := #[], guard := none }) (v := .string (str [72, 89, x])) rfl (by kernel_rfl) (by kernel_rfl) (by kernel_rfl) (fun _ _ _ h => h) (Or.inl ⟨by rfl, fun wx hS => ?_⟩) hH ?_
          · go_simp
          simp only [Act.put, List.setIfInBounds_toArray, List.set_cons_zero, List.set_cons_succ]
          refine wpAnyH_take (i := 4) (oi := { dst := some 23, op := Op.move (Operand.tmp 6), type := 3, pos := "ref.go:45", after := #[], guard := none }) (v := .int .i64 (j : Int)) rfl (by kernel_rfl) (by kernel_rfl) (by kernel_rfl) (fun _ _ _ h => h) (Or.inl ⟨by rfl, fun wx hS => ?_⟩) hH ?_
          · go_simp
          simp only [Act.put, List.setIfInBounds_toArray, List.set_cons_zero, List.set_cons_succ]
          refine wpAnyH_take (i := 5) (oi := { dst := some 24, op := Op.index 9 (Operand.tmp 22) (Operand.tmp 23), type := 5, pos := "ref.go:45", after := #[{ on := 3, ground := Ground.data }, { on := 4, ground := Ground.data }], guard := none }) (v := .int .u8 (V v)) rfl (by kernel_rfl) (by kernel_rfl) (by kernel_rfl) (fun _ _ _ h => h) (Or.inl ⟨by rfl, fun wx hS => ?_⟩) hH ?_
          · have e1 := yi wx; go_simp
          simp only [Act.put, List.setIfInBounds_toArray, List.set_cons_zero, List.set_cons_succ]
          refine wpAnyH_take (i := 6) (oi := { dst := some 25, op := Op.binOp BinOp.neq 5 (Operand.tmp 21) (Operand.tmp 24) 5, type := 4, pos := "ref.go:45", after := #[{ on := 2, ground := Ground.data }, { on := 5, ground := Ground.data }], guard := none }) (v := .bool true) rfl (by kernel_rfl) (by kernel_rfl) (by kernel_rfl) (fun _ _ _ h => h) (Or.inl ⟨by rfl, fun wx hS => ?_⟩) hH ?_
          · go_simp
          simp only [Act.put, List.setIfInBounds_toArray, List.set_cons_zero, List.set_cons_succ]
          refine wpAnyH_done (by kernel_rfl) ?_ _
          refine NoPanic.normal ?_
          go_wp2_with fail
          go_ret
          exact ⟨_, [], 2, rfl, BD.out.size, Lib.hid (blockIs.new _ [.string ⟨#[]⟩, .int .i64 2] _), Lib.hid (Or.inr ⟨by decide, HNO.out⟩), Nat.zero_le _, Lib.hid (BD.out.alloc BD.out.size _)⟩
      · have qj : (L.length : Int) ≤ (j : Int) := by omega
        have HNO : Hid (∀ F, L ≠ [72, 89, x] ++ F) := Lib.hid (not3 h3 (Or.inl (by omega)))
        go_wp2_with fail
        go_ret
        exact ⟨_, [], 3, rfl, B1.out.size, Lib.hid (blockIs.new _ [.string ⟨#[]⟩, .int .i64 3] _), Lib.hid (Or.inr ⟨by decide, HNO.out⟩), Nat.zero_le _, Lib.hid (B1.out.alloc B1.out.size _)⟩
    · obtain rfl : j = 3 := by omega
      have hx : (str L).extract 3 L.length = str (L.drop 3) := by rw [← str_extract_from, str_size]
      have HX := Lib.hid hx
      clear hx
      have HF : Hid (L = [72, 89, x] ++ L.drop 3) := Lib.hid (by
        have := HT.out
        have e : [72, 89, x].take 3 = [72, 89, x] := rfl
        rw [e] at this
        rw [← this, List.take_append_drop])
      go_wp2_with fail
      go_ret
      exact ⟨_, L.drop 3, 0, rfl, B1.out.size, Lib.hid (by rw [HX.out]; exact blockIs.new _ [.string (str (L.drop 3)), .int .i64 0] _), Lib.hid (Or.inl ⟨rfl, HF.out⟩), by rw [List.length_drop]; omega, Lib.hid (B1.out.alloc B1.out.size _)⟩


/-- Rows of nodes of one's own, the lists of names apart from one another. -/
def ownB (w : World) (B : Nat) (v : Value) (Q : List (Nd × Value)) : Prop := w.ownsRow B 26 39 v Q.length (qcells Q) ∧ (∀ q ∈ Q, q.1.Wf ∧ w.ownsRow B 24 32 q.2 q.1.parts.length (idcells q.1.parts)) ∧
  Q.Pairwise fun p q => p.2.ownBlock = none ∨ p.2.ownBlock ≠ q.2.ownBlock
theorem ownB.nil (w : World) (B : Nat) : ownB w B (.slice none 0 0) [] := ⟨World.ownsRow_nil _ _ _ _, (fun q hq => absurd hq List.not_mem_nil), .nil⟩
theorem ownB.below {w w' : World} {B : Nat} {v : Value} {Q : List (Nd × Value)} (h : ownB w B v Q) (hb : Below w.heap.size w w') : ownB w' B v Q := ⟨row_below h.1 hb, fun q hq => ⟨(h.2.1 q hq).1, row_below (h.2.1 q hq).2 hb⟩, h.2.2⟩
theorem ownB.but {w w' : World} {B k : Nat} {v : Value} {Q : List (Nd × Value)} (h : ownB w B v Q) (hb : But k w w') (hk : k < B) : ownB w' B v Q := ⟨own_but h.1 hb hk, fun q hq => ⟨(h.2.1 q hq).1, own_but (h.2.1 q hq).2 hb hk⟩, h.2.2⟩
theorem ownB.R {w : World} {B : Nat} {v : Value} {Q : List (Nd × Value)} (h : ownB w B v Q) : ownR w B B 26 v Q := ⟨h.1, fun q hq => by
  obtain ⟨h1, h2⟩ := h.2.1 q hq
  obtain ⟨g1, g2, -⟩ := own_ids h2 h1.part B
  exact ⟨h1, g1, g2⟩⟩
section
variable {w : World} {ops : Array Oper} {rest : List Oper} {o : Oper} {a : Act} {Q' : Exit → Act → World → Prop}
/-- A node goes to the others. -/
theorem append_B (hw : Region.wanted o (yielded ops a.tmps) = true) (s x : Operand) (ho : o.op = .call { callee := .builtin .append, args := #[s, x], argTypes := #[29, 29] })
    (B : Nat) (v : Value) (Q : List (Nd × Value)) (hs : a.eval s = v) (hown : ownB w B v Q) (g : Nat) (n : Nd) (pv : Value) (hx : a.eval x = .slice (some ⟨g, 0, none⟩) 1 1) (hb : blockIs w g (n.cells pv) 26) (hwf : n.Wf)
    (hrow : w.ownsRow B 24 32 pv n.parts.length (idcells n.parts)) (hap : ∀ q ∈ Q, q.2.ownBlock = none ∨ q.2.ownBlock ≠ pv.ownBlock) (hn : Q.length ≤ 100000) (hbase : B ≤ w.heap.size)
    (h : ∀ v' w', Hid (ownB w' B v' (Q ++ [(n, pv)])) → Hid (Below B w w') → Hid (w.grownBy w' v.ownBlock) → wpList Try.prog ops Q' rest (a.put o.dst v') w') : wpList Try.prog ops Q' (o :: rest) a w := by
  obtain ⟨i1, i2, -⟩ := own_ids hrow hwf.part B
  refine wpList_step fun K hK => step_append_rows hw 26 29 ntR s x ho B B (Nat.le_refl _) v Q hs hown.R (some ⟨g, 0, none⟩) 1 1 [(n, pv)] rfl hx (Nat.le_refl _) (fun h => by cases h)
    ⟨fun q hq => by rw [List.mem_singleton.1 hq]; exact ⟨hwf, i1, i2⟩, .inr ⟨g, 0, rfl, by rw [show qcells [(n, pv)] = n.cells pv by simp [qcells]]; exact block_range hb⟩⟩ (by simp; omega) hbase (fun v' w' h1 h2 h3 => hK _ _ (h v' w' (Lib.hid ?_) h3 h2))
  refine ⟨h1.out.1, fun q hq => ?_, ?_⟩
  · rcases List.mem_append.1 hq with hq | hq
    · exact ⟨(hown.2.1 q hq).1, (hown.2.1 q hq).2.kept h2.out (own_apart hown.1 (hown.2.1 q hq).2 (by decide))⟩
    · rw [List.mem_singleton.1 hq]
      exact ⟨hwf, hrow.kept h2.out (own_apart hown.1 hrow (by decide))⟩
  · rw [List.pairwise_append]
    refine ⟨hown.2.2, List.pairwise_singleton _ _, fun p hp q hq => ?_⟩
    rw [List.mem_singleton.1 hq]
    exact hap p hp
end
theorem ownB.slice {w : World} {B : Nat} {v : Value} {Q : List (Nd × Value)} (h : ownB w B v Q) : ∃ a c, v = .slice a Q.length c ∧ Q.length ≤ c ∧ c ≤ 9223372036854775807 ∧ (a = none → c = 0) ∧ rowN w a (Q.map Prod.fst) := by
  obtain ⟨a, c, h1, h2, h3, h4, h5⟩ := (h.R.weak (Nat.le_refl _)).row
  rw [List.length_map] at h1 h2
  exact ⟨a, c, h1, h2, h3, h4, h5⟩
theorem ownB.le {w : World} {B B' : Nat} {v : Value} {Q : List (Nd × Value)} (h : ownB w B v Q) (hB : B' ≤ B) : ownB w B' v Q := ⟨Go.Joins.ownsRow_le h.1 hB, fun q hq => ⟨(h.2.1 q hq).1, Go.Joins.ownsRow_le (h.2.1 q hq).2 hB⟩, h.2.2⟩
/-- None of these lies in the row. -/
def Off (v : Value) (Q : List (Nd × Value)) (row : Option Nat) : Prop := (v.ownBlock = none ∨ v.ownBlock ≠ row) ∧ ∀ q ∈ Q, q.2.ownBlock = none ∨ q.2.ownBlock ≠ row
theorem Off.none (v : Value) (Q : List (Nd × Value)) : Off v Q none := by
  have key : ∀ x : Option Nat, x = Option.none ∨ x ≠ Option.none := fun x => by cases x <;> simp
  exact ⟨key _, fun q _ => key _⟩
theorem ownB.fresh {w : World} {B : Nat} {v : Value} {Q : List (Nd × Value)} (h : ownB w B v Q) {g : Nat} (hg : w.heap.size ≤ g) : Off v Q (some g) := by
  have key : ∀ {t : TypeId} {s n : Nat} {xs : List Value} {u : Value}, w.ownsRow B t s u n xs → u.ownBlock = Option.none ∨ u.ownBlock ≠ some g := fun {t s n xs u} hu => by
    cases hv : u.ownBlock with
    | none => exact Or.inl rfl
    | some b => exact Or.inr (fun e => by cases e; have := (hu.lt _ hv).2; omega)
  exact ⟨key h.1, fun q hq => key (h.2.1 q hq).2⟩
theorem ownB.grown {w w' : World} {B : Nat} {v : Value} {Q : List (Nd × Value)} (h : ownB w B v Q) {row : Option Nat} (hg : w.grownBy w' row) (ho : Off v Q row) : ownB w' B v Q :=
  ⟨h.1.kept hg ho.1, fun q hq => ⟨(h.2.1 q hq).1, (h.2.1 q hq).2.kept hg (ho.2 q hq)⟩, h.2.2⟩
theorem But.grow {g : Nat} {w w' : World} (hb : But g w w') : w.grownBy w' (some g) := ⟨hb.os, hb.tape, hb.output, hb.size, fun k hk hn => hb.block k hk (fun e => hn (by rw [e]))⟩
theorem blockIs.grown {w w' : World} {g : Nat} {cs : List Value} {t : TypeId} (h : blockIs w g cs t) {row : Option Nat} (hg : w.grownBy w' row) (hn : row ≠ some g) : blockIs w' g cs t := by
  have h1 := h
  unfold blockIs at h1 ⊢
  rw [hg.block g h.lt (fun e => hn e.symm)]
  exact h1
theorem not_block {w : World} {B g n s : Nat} {t t' : TypeId} {v : Value} {xs cs : List Value} (hx : w.ownsRow B t s v n xs) (hb : blockIs w g cs t') (ht : t ≠ t') : v.ownBlock ≠ some g := fun e => by
  rcases hx.2 with ⟨rfl, -⟩ | ⟨g', cap, cur, rfl, -, h1, -⟩
  · cases e
  · cases e
    unfold blockIs at hb
    rw [h1] at hb
    simp at hb
    exact ht hb.2
section
variable {w : World} {ops : Array Oper} {o : Oper} {a : Act} {K : Act → World → Prop} {Q : Exit → Act → World → Prop} {E : Prop}
theorem step_push_id (hw : Region.wanted o (yielded ops a.tmps) = true) (s x : Operand) (ho : o.op = .call { callee := .builtin .append, args := #[s, x], argTypes := #[22, 22] })
    (B : Nat) (v : Value) (P0 : List (List UInt8)) (hs : a.eval s = v) (hown : w.ownsRow B 24 32 v P0.length (idcells P0)) (gl : Nat) (hx : a.eval x = .slice (some ⟨gl, 0, none⟩) 1 1) (t : List UInt8) (ht : t.length = 32) (hb : blockIs w gl (bvals t) 24)
    (hn : P0.length ≤ 2000000) (hbase : B ≤ w.heap.size)
    (h : ∀ v' w', w'.ownsRow B 24 32 v' (P0 ++ [t]).length (idcells (P0 ++ [t])) → w.grownBy w' v.ownBlock → (v'.ownBlock = v.ownBlock ∨ v'.ownBlock = some w.heap.size) → K (a.put o.dst v') w') : if Region.wanted o (yielded ops a.tmps) = true then Oper.wp Try.prog o a w K Q else E := by
  rw [if_pos hw]
  obtain ⟨i0, hi, hz0, hz1, hz2⟩ := info_parts info_ids
  have hbl : (bvals t).length = 32 := by rw [bvals_length, ht]
  obtain ⟨v', w', hr, h2, h3, -, h5⟩ := run_append_own_at (P := Try.prog) w B 22 o.type 24 i0 _ 32 32 Try.underlying22 hi hz0 hz1 hz2 (by simp [Value.cells, bvals, noughts]) (by decide) v P0.length (idcells P0) hown ⟨gl, 0, none⟩ 1 1 (bvals t) (by rw [hbl]) (fun i u hu => by rw [Addr.add_lit, Nat.zero_add, hb.cell]; exact hu) (fun u hu => bvals_one t u hu) (by unfold maxLen; omega) (by omega) hbase
  unfold Oper.wp execOp
  simp only [ho, resolve, invoke, builtin, Sem.run_bind, Sem.run_pure, Result.andThen_ok, List.map_toArray, List.map_cons, List.map_nil, hs, hx, hr]
  refine h _ _ ?_ h3 h5
  rw [show idcells (P0 ++ [t]) = idcells P0 ++ bvals t by simp [idcells], List.length_append]
  exact h2
end
theorem build_zero_rn {w : World} {ops : Array Oper} {rest : List Oper} {o : Oper} {a : Act} {Q : Exit → Act → World → Prop} (hw : Region.wanted o (yielded ops a.tmps) = true) (ho : o.op = .build 26 #[])
    (zs : List Value) (hzs : zeroNd.cells (.slice none 0 0) = zs) (h : wpList Try.prog ops Q rest (a.put o.dst (.agg zs.toArray)) w) : wpList Try.prog ops Q (o :: rest) a w := by
  refine BigFrame.wpList_want hw fun K hK => ?_
  have hrun : (Instr.build 26 #[]).run Try.prog w = .ok (.agg (zeroNd.cells (.slice none 0 0)).toArray) w := by kernel_rfl
  unfold Oper.wp execOp
  simp only [ho, Sem.run_bind, List.map_toArray, List.map_nil, hrun, Result.andThen_ok, Sem.run_pure]
  rw [hzs]
  exact hK _ _ h


theorem ids_prefix : ∀ (P x : List (List UInt8)), (∀ p ∈ P, p.length = 32) → (∀ p ∈ x, p.length = 32) → P.length ≤ x.length → ∀ R R', P.flatten ++ R = x.flatten ++ R' → R = (x.drop P.length).flatten ++ R'
  | [], _, _, _, _, R, R', h => h
  | _ :: _, [], _, _, h, _, _, _ => by simp at h
  | p :: P, q :: x, h1, h2, h3, R, R', h => by
    rw [List.flatten_cons, List.flatten_cons, List.append_assoc, List.append_assoc] at h
    obtain ⟨-, e2⟩ := List.append_inj h (by rw [h1 p (by simp), h2 q (by simp)])
    rw [List.length_cons, List.drop_succ_cons]
    exact ids_prefix P x (fun y hy => h1 y (by simp [hy])) (fun y hy => h2 y (by simp [hy])) (by simpa using h3) R R' e2
/-- Names, one by one. -/
def IdsInv (c : Int) (L6 : List UInt8) (e6 : Int) (P : List (List UInt8)) (Lm : List UInt8) (em : Int) : Prop := (∀ p ∈ P, p.length = 32) ∧ (em = 0 → e6 = 0 ∧ L6 = P.flatten ++ Lm) ∧ (em ≠ 0 → e6 = 0 → ∀ x R, ¬ IdsIs c L6 x R)
theorem IdsInv.start (c : Int) (L6 : List UInt8) (e6 : Int) : IdsInv c L6 e6 [] L6 e6 := ⟨(fun p hp => by cases hp), fun h => ⟨h, rfl⟩, fun h h' => absurd h' h⟩
theorem IdsInv.next {c : Int} {L6 : List UInt8} {e6 : Int} {P : List (List UInt8)} {Lm : List UInt8} (h : IdsInv c L6 e6 P Lm 0) (hc : (P.length : Int) < c) {TR L' : List UInt8} {e' : Int} (hr : Rd (RawIs 32) [] Lm 0 TR L' e') {t : List UInt8} (ht : t.length = 32) (hte : e' = 0 → t = TR) : IdsInv c L6 e6 (P ++ [t]) L' e' := by
  obtain ⟨h1, h2, -⟩ := h
  obtain ⟨h0, hL⟩ := h2 rfl
  refine ⟨fun p hp => ?_, fun he => ⟨h0, ?_⟩, fun he _ x R hx => ?_⟩
  · rcases List.mem_append.1 hp with hp | hp
    · exact h1 p hp
    · rw [List.mem_singleton.1 hp]; exact ht
  · rw [hL, hte he, (hr.fine he).2.2]
    simp
  · obtain ⟨x1, x2, x3⟩ := hx
    have hlt : P.length < x.length := by omega
    have e := ids_prefix P x h1 x2 (by omega) Lm R (by rw [← hL, x3])
    rw [List.drop_eq_getElem_cons hlt, List.flatten_cons, List.append_assoc] at e
    have h32 := x2 _ (List.getElem_mem hlt)
    exact he (hr.step rfl ⟨by omega, e⟩ RawIs.det).1
theorem NdRd.fail {L : List UInt8} {n n' : Nd} {L1 L1' : List UInt8} {e1 : Int} (h : NdRd L n L1 e1) (he : e1 ≠ 0) : NdRd L n' L1' e1 := by
  rcases h with ⟨h, -⟩ | ⟨-, h⟩
  · exact absurd h he
  · exact .inr ⟨he, h⟩
theorem doc_file {L : List UInt8} {t : List UInt8} {k m i : Int} {L4 : List UInt8} {e4 : Int} (h : HdRd L t k m i L4 e4) (hk : k = 0) {L5 L6 : List UInt8} {e5 e6 : Int} {sz c : Int} (h5 : Rd (NumIs 1048576) 0 L4 e4 sz L5 e5) (h6 : Rd (NumIs sz) 0 L5 e5 c L6 e6)
    {P : List (List UInt8)} {L7 : List UInt8} {e7 : Int} (h7 : IdsInv c L6 e6 P L7 e7) (hl : e7 = 0 → (P.length : Int) = c) : NdRd L ⟨t, k, m, i, sz, [], P, noughts⟩ L7 e7 := by
  obtain ⟨h1, h2, h3⟩ := h7
  by_cases he : e7 = 0
  · obtain ⟨g1, g2⟩ := h2 he
    exact rd_file h hk h5 h6 (.inl ⟨he, g1, hl he, h1, g2⟩)
  · exact (rd_file h hk h5 h6 (P := []) (L7 := L7) (e7 := e7) (.inr ⟨he, rfl, h3 he⟩)).fail he
/-- What the document's Decode knows behind so many nodes. -/
def DocInv (L L1 : List UInt8) (e1 : Int) (Q : List (Nd × Value)) (Lj : List UInt8) (ej : Int) : Prop := (ej = 0 → e1 = 0 ∧ L1 = (Q.map Prod.fst).flatMap ndBytes ++ Lj ∧ ∀ q ∈ Q, q.1.Shape) ∧ (ej ≠ 0 → ∀ S, ¬ DecIs L S)
section
variable {L F L1 : List UInt8} {e0 e1 c : Int}
theorem DocInv.start (ho : OpenIs 110 L F e0) (hn : Rd (NumIs 2000) 0 F e0 c L1 e1) : DocInv L L1 e1 [] L1 e1 := ⟨fun h => ⟨h, rfl, fun q hq => by cases hq⟩, fun h => dec_no ho hn h⟩
theorem mapQ (Q : List (Nd × Value)) (h : ∀ q ∈ Q, q.1.Shape) : ∀ n ∈ Q.map Prod.fst, n.Shape := fun n hn => by
  obtain ⟨q, hq, rfl⟩ := List.mem_map.1 hn
  exact h q hq
theorem DocInv.next (ho : OpenIs 110 L F e0) (hn : Rd (NumIs 2000) 0 F e0 c L1 e1) {Q : List (Nd × Value)} {Lj : List UInt8} (h : DocInv L L1 e1 Q Lj 0) (hc : (Q.length : Int) < c) {n : Nd} {pv : Value} {L' : List UInt8} {e' : Int} (hr : NdRd Lj n L' e') : DocInv L L1 e1 (Q ++ [(n, pv)]) L' e' := by
  obtain ⟨h1, h2, h3⟩ := h.1 rfl
  rcases hr with ⟨he, hi⟩ | ⟨he, hi⟩
  · refine ⟨fun _ => ⟨h1, ?_, fun q hq => ?_⟩, fun h => absurd he h⟩
    · rw [h2, hi.2, List.map_append, List.flatMap_append, List.append_assoc]
      simp
    · rcases List.mem_append.1 hq with hq | hq
      · exact h3 q hq
      · rw [List.mem_singleton.1 hq]; exact hi.1
  · exact ⟨fun h => absurd h he, fun _ => dec_no_read ho hn (S := Q.map Prod.fst) (mapQ Q h3) h2 (by rw [List.length_map]; exact hc) hi⟩
theorem weight_flat : ∀ (S : List Nd), (∀ n ∈ S, n.Shape) → 32 * weight S ≤ (S.flatMap ndBytes).length
  | [], _ => by simp [weight]
  | n :: S, h => by
    have ih := weight_flat S (fun m hm => h m (by simp [hm]))
    have hs := h n (by simp)
    have h1 : 32 * n.parts.length ≤ (ndBytes n).length := by
      unfold ndBytes
      simp only [List.length_append]
      by_cases k0 : n.kind = 0
      · obtain ⟨-, -, -, -, -, p6⟩ := hs.file k0
        have hl : ∀ P : List (List UInt8), (∀ p ∈ P, p.length = 32) → P.flatten.length = 32 * P.length := fun P => by
          induction P with
          | nil => intro _; rfl
          | cons p P ih =>
            intro hp
            rw [List.flatten_cons, List.length_append, ih (fun x hx => hp x (by simp [hx])), hp p (by simp), List.length_cons]
            omega
        rw [if_pos k0]
        simp only [List.length_append]
        rw [hl _ p6]
        omega
      · have hp : n.parts = [] := by
          by_cases k1 : n.kind = 1
          · exact (hs.dir k1).2.2.2
          · have := hs.kind
            exact (hs.link (by omega)).2.2.2
        rw [hp]
        simp
    have e : weight (n :: S) = n.parts.length + weight S := by simp [weight]
    rw [List.flatMap_cons, List.length_append, e]
    omega
end
theorem splice_tree (n : Nd) (pv : Value) (t : List UInt8) (hn : n.tree.length = 32) (ht : t.length = 32) : splice (n.cells pv) 7 (bvals t) = Nd.cells { n with tree := t } pv :=
  splice_tail (n.head pv) (bvals t) (bvals n.tree) (by rw [bvals_length, bvals_length, hn, ht])
end Go.Proofs.Ytjgmhaajcglpmaa
