/- The contracts of names and Used. -/
import Derived.Test.YthefledeoiegjaaRg
namespace Go.Proofs.Ythefledeoiegjaa
open Go.RowKit Go.MapKept

def svals (l : List (List UInt8)) : List Value := l.map fun s => .string (str s)
theorem svals_append (l m : List (List UInt8)) : svals (l ++ m) = svals l ++ svals m := by simp [svals]
theorem svals_length (l : List (List UInt8)) : (svals l).length = l.length := by simp [svals]
theorem info_str : (Try.prog.info? 9).map (fun i => (i.zero, i.size, i.bytes)) = some (some (.string ⟨#[]⟩), 1, 16) := by kernel_rfl
theorem str_list (l : List UInt8) : (str l).data.toList = l := by simp [str]
/-- The names that begin so, rising. -/
def namesIn (L : List Ent) (pre : List UInt8) : List (List UInt8) := (L.map (·.1)).filter fun n => Lib.hasPrefix n pre
def namesOf (L : List Ent) (pre : List UInt8) : List (List UInt8) := (namesIn L pre).mergeSort leB
theorem namesIn_le (L : List Ent) (pre : List UInt8) : (namesIn L pre).length ≤ L.length := by
  exact Nat.le_trans (List.length_filter_le _ _) (by simp)
theorem namesIn_perm {L L' : List Ent} (h : L.Perm L') (pre : List UInt8) : (namesIn L pre).Perm (namesIn L' pre) := (h.map _).filter _
theorem names_hit {C : List (List UInt8)} {R R' L : List Ent} {n : List UInt8} {x : Ob} {pre : List UInt8} (h : (C ++ namesIn R pre).Perm (namesIn L pre)) (hp : R.Perm ((n, x) :: R')) (hh : Lib.hasPrefix n pre = true) : ((C ++ [n]) ++ namesIn R' pre).Perm (namesIn L pre) := by
  refine List.Perm.trans ?_ h
  rw [List.append_assoc]
  refine List.Perm.append_left C ?_
  refine List.Perm.trans ?_ (namesIn_perm hp pre).symm
  simp [namesIn, hh]
theorem names_miss {C : List (List UInt8)} {R R' L : List Ent} {n : List UInt8} {x : Ob} {pre : List UInt8} (h : (C ++ namesIn R pre).Perm (namesIn L pre)) (hp : R.Perm ((n, x) :: R')) (hh : Lib.hasPrefix n pre = false) : (C ++ namesIn R' pre).Perm (namesIn L pre) := by
  refine List.Perm.trans ?_ h
  refine List.Perm.append_left C ?_
  refine List.Perm.trans ?_ (namesIn_perm hp pre).symm
  simp [namesIn, hh]
theorem prefix_any (n pre : List UInt8) (w : World) : Calls Try.prog 31 #[.string (str n), .string (str pre)] w fun e w' => e = .returned (.bool (Lib.hasPrefix n pre)) ∧ w = w' := by
  have P := Try.strings_HasPrefix (str n) (str pre) w
  rw [str_list, str_list] at P
  exact P.mono fun e w' h => ⟨h.1, h.2.symm⟩
theorem sort_none (p : Option Addr) (cap : Nat) (w : World) : Calls Try.prog 32 #[.slice p 0 cap] w fun e w' => e = .returned (.tuple #[]) ∧ w = w' :=
  (Try.slices_Sort_string_none p cap w).mono fun _e _w' h => ⟨h.1, h.2.symm⟩
set_option maxRecDepth 100000 in
set_option maxHeartbeats 4000000 in
theorem names_any (B k : Nat) (m : Option Nat) (s : Sh) (pre : List UInt8) (w : World) (h : ShAt w B k m s) (hl : s.objs.length ≤ 900000) :
    Calls Try.prog 26 #[.pointer (some ⟨k, 0, none⟩), .string (str pre)] w fun e w' => ∃ v, e = .returned v ∧ rowV w' w.heap.size 9 v (svals (namesOf s.objs pre)) ∧ Below w.heap.size w w' := by
  have H := Lib.hid h
  have c1 := h.c1
  have HL := Lib.hid hl
  clear h hl
  go_enter Try.func26, Try.ntmps26
  go_wp2_with (at_range; refine at_rng rfl _ rfl m s.objs rfl H.out.nil (fun g e => (H.out.map g e).2) ?_; intro w0 hr0 hb0)
  go_frame
  have R0 := Lib.hid hr0
  have B0 := Lib.hid hb0
  clear hr0 hb0
  have HS : Hid (w.heap.size ≤ w0.heap.size) := Lib.hid B0.out.size
  go_loopw [5] (fun v wr => ∃ (C : List (List UInt8)) (R : List Ent), Hid (rangeAt wr w.heap.size m R) ∧ Hid (rowV wr w.heap.size 9 v (svals C)) ∧ Hid ((C ++ namesIn R pre).Perm (namesIn s.objs pre)) ∧ Hid (Below w.heap.size w wr)) (fun _ wr => restOf wr w.heap.size m)
  case atStart => exact ⟨[], s.objs, R0, Lib.hid (rowV.nil _ _ _), Lib.hid (List.Perm.refl _), B0⟩
  case round =>
    obtain ⟨C, R, K1, K2, K3, K4⟩ := hrel
    have HC : Hid (C.length ≤ 900000) := Lib.hid (by
      have a1 := K3.out.length_eq
      rw [List.length_append] at a1
      have a2 := namesIn_le s.objs pre
      have a3 := HL.out
      omega)
    go_wp2_with (at_next; refine at_nxt rfl _ rfl w.heap.size m R rfl K1.out (fun hR => ?_) (fun n xb xf R' w1 N1 N2 N3 hen => ?_))
    · obtain rfl := hR.out
      clear hR
      have K5 : Hid (C.Perm (namesIn s.objs pre)) := Lib.hid (by simpa [namesIn] using K3.out)
      have ES : Hid (C.mergeSort leB = namesOf s.objs pre) := Lib.hid (mergeSort_of_perm K5.out)
      rcases K2.out.2 with ⟨hv, h0⟩ | ⟨g', cap, cur, hv, hba, hh, hn, hc, hs, ht⟩
      · subst hv
        have hC0 : C = [] := by
          rw [svals_length] at h0
          exact List.eq_nil_of_length_eq_zero h0
        have E0 : Hid (namesOf s.objs pre = []) := Lib.hid (by rw [← ES.out, hC0]; simp)
        clear hC0 h0
        go_wp2_with fail
        with_reducible refine (sort_none none 0 wr).mono ?_
        rintro e w' ⟨rfl, rfl⟩
        go_wp2_with fail
        go_ret
        exact ⟨_, rfl, by rw [E0.out]; exact rowV.nil _ _ _, K4.out⟩
      · subst hv
        rw [svals_length] at hn ht
        have hH : Sort.Holds encStr wr g' 0 C.toArray := holds_of_block hh (by rw [Nat.mul_one] at ht; exact ht)
        have HH := Lib.hid hH
        have hlt : g' < wr.heap.size := (Array.getElem?_eq_some_iff.1 hh).1
        have H1 := Lib.hid hh
        have H2 := Lib.hid hba
        have H3 := Lib.hid hn
        have H4 := Lib.hid hc
        have H5 := Lib.hid hs
        have H6 := Lib.hid hlt
        have hlen : (svals C).length = C.length := svals_length C
        rw [hlen]
        clear hH hh hba hn hc hs ht hlt hlen
        go_wp2_with fail
        with_reducible refine (Try.slices_Sort_string g' 0 cap C wr HH.out H6.out (by have := HC.out; omega)).mono ?_
        rintro e w' ⟨rfl, nn, os, rfl⟩
        have Q1 := Lib.hid (ownsRow_sorted (n := nn) (os := os) (ts := C.mergeSort leB) (by simp) H2.out H1.out H3.out H4.out H5.out)
        have Q2 := Lib.hid (grownBy_sorted (w := wr) (g := g') (n := nn) (os := os) (C.mergeSort leB).toArray)
        have Q3 : Hid ((C.mergeSort leB).length = C.length) := Lib.hid (by simp)
        have hq : (C.mergeSort fun x y => decide (x ≤ y)) = C.mergeSort leB := rfl
        rw [hq]
        clear hq
        generalize Sort.grow (Sort.putRow encStr (Sort.ahead wr nn) g' 0 (C.mergeSort leB).toArray) os = w2 at *
        go_wp2_with fail
        go_ret
        refine ⟨_, rfl, ?_, K4.out.grown Q2.out K4.out.size (fun j hj => by cases hj; exact H2.out)⟩
        rw [← ES.out]
        unfold rowV
        rw [svals_length, Q3.out]
        exact Q1.out
    · have HM := Lib.hid (K1.out.rest N2.out N1.out)
      have N4 := Lib.hid (row_but K2.out N3.out K1.out.no_cells.1)
      have N5 : Hid (Below w.heap.size w w1) := Lib.hid (K4.out.trans (N3.out.below (Nat.le_refl _) K4.out.size))
      cases hh : Lib.hasPrefix n pre with
      | true =>
        go_wp2_with (first | (go_at_call 31; (with_reducible refine (prefix_any n pre _).mono ?_); rintro e w' ⟨rfl, rfl⟩; rw [hh]) | (at_builtin; refine append_vals rfl _ _ 22 9 rfl Try.underlying22 (.string ⟨#[]⟩) 16 info_str rfl (by decide) w.heap.size _ (svals C) rfl (rowV.below N4.out ((Below.refl _ _).alloc (Nat.le_refl _) _) (Nat.le_refl _)) (some ⟨w1.heap.size, 0, none⟩) 1 1 [.string (str n)] rfl rfl (fun h => by cases h) (vals_one _ _) (by simp [Value.oneCell']) (by rw [svals_length]; have := HC.out; simp; omega) (Nat.le_trans N5.out.size (by simp)) ?_))
        intro v' w3 hown hgr
        have G1 := Lib.hid (N2.out.below ((Below.refl _ _).alloc (Nat.le_refl _) (.cells #[.string (str n)] 9 (0, 0))))
        have G2 := Lib.hid (G1.out.grown (rowV.below N4.out ((Below.refl _ _).alloc (Nat.le_refl _) _) (Nat.le_refl _)) hgr)
        have G3 : Hid (rowV w3 w.heap.size 9 v' (svals (C ++ [n]))) := Lib.hid (by rw [svals_append]; exact hown)
        have G4 := Lib.hid ((N5.out.alloc N5.out.size (.cells #[.string (str n)] 9 (0, 0))).trans ((rowV.below N4.out ((Below.refl _ _).alloc (Nat.le_refl _) _) (Nat.le_refl _)).grew (Nat.le_trans N5.out.size (by simp)) hgr))
        have G5 : Hid (restOf w3 w.heap.size m < restOf wr w.heap.size m) := Lib.hid (K1.out.rest G2.out N1.out)
        clear hown hgr
        go_wp2_with fail
        go_roundw
        case rel => exact ⟨C ++ [n], R', G2, G3, Lib.hid (names_hit K3.out N1.out hh), G4⟩
        case measure => exact G5.out
      | false =>
        go_wp2_with (go_at_call 31; (with_reducible refine (prefix_any n pre _).mono ?_); rintro e w' ⟨rfl, rfl⟩; rw [hh])
        go_roundw
        case rel => exact ⟨C, R', N2, N4, Lib.hid (names_miss K3.out N1.out hh), N5⟩
        case measure => exact HM.out
/-- How many bytes all have. -/
def sizeSum (L : List Ent) : Nat := (L.map fun p => p.2.1.length).sum
theorem sizeSum_perm {L L' : List Ent} (h : L.Perm L') : sizeSum L = sizeSum L' := (h.map _).sum_nat
theorem sizeSum_cons (p : Ent) (L : List Ent) : sizeSum (p :: L) = p.2.1.length + sizeSum L := by simp [sizeSum]
set_option maxRecDepth 100000 in
set_option maxHeartbeats 4000000 in
theorem used_any (B k : Nat) (m : Option Nat) (s : Sh) (w : World) (h : ShAt w B k m s) (hl : sizeSum s.objs ≤ 4611686018427387904) :
    Calls Try.prog 15 #[.pointer (some ⟨k, 0, none⟩)] w fun e w' => e = .returned (.int .i64 (sizeSum s.objs : Int)) ∧ Below w.heap.size w w' := by
  have H := Lib.hid h
  have c1 := h.c1
  have HL := Lib.hid hl
  clear h hl
  go_enter Try.func15, Try.ntmps15
  go_wp2_with (at_range; refine at_rng rfl _ rfl m s.objs rfl H.out.nil (fun g e => (H.out.map g e).2) ?_; intro w0 hr0 hb0)
  go_frame
  have R0 := Lib.hid hr0
  have B0 := Lib.hid hb0
  clear hr0 hb0
  go_loopw [3] (fun v wr => ∃ (a : Nat) (R : List Ent), v = .int .i64 (a : Int) ∧ Hid (rangeAt wr w.heap.size m R) ∧ Hid (a + sizeSum R = sizeSum s.objs) ∧ Hid (Below w.heap.size w wr)) (fun _ wr => restOf wr w.heap.size m)
  case atStart => exact ⟨0, s.objs, rfl, R0, Lib.hid (by simp), B0⟩
  case round =>
    obtain ⟨a, R, rfl, K1, K3, K4⟩ := hrel
    go_wp2_with (at_next; refine at_nxt rfl _ rfl w.heap.size m R rfl K1.out (fun hR => ?_) (fun n xb xf R' w1 N1 N2 N3 hen => ?_))
    · obtain rfl := hR.out
      clear hR
      have E : Hid (a = sizeSum s.objs) := Lib.hid (by simpa [sizeSum] using K3.out)
      go_wp2_with fail
      go_ret
      exact ⟨by rw [E.out]; rfl, K4.out⟩
    · have HM := Lib.hid (K1.out.rest N2.out N1.out)
      have E : Hid (a + xb.length + sizeSum R' = sizeSum s.objs) := Lib.hid (by
        have := K3.out
        rw [sizeSum_perm N1.out, sizeSum_cons] at this
        simp only at this
        omega)
      have hle : a + xb.length ≤ 4611686018427387904 := by have := E.out; have := HL.out; omega
      have N5 : Hid (Below w.heap.size w w1) := Lib.hid (K4.out.trans (N3.out.below (Nat.le_refl _) K4.out.size))
      have hsz := Lib.hid (str_size xb)
      have p0 : 0 ≤ (a : Int) := by omega
      have p1 : 0 ≤ ((str xb).size : Int) := by omega
      have p2 : (a : Int) + ((str xb).size : Int) ≤ 4611686018427387904 := by rw [hsz.out]; omega
      go_wp2_with fail
      have N6 := Lib.hid (N2.out.below ((Below.refl w1.heap.size w1).alloc (Nat.le_refl _) (.cells #[.string (str xb), .bool xf] 58 (0, 0))))
      have N7 := Lib.hid (N5.out.alloc N5.out.size (.cells #[.string (str xb), .bool xf] 58 (0, 0)))
      have N8 : Hid (restOf (w1.alloc (.cells #[.string (str xb), .bool xf] 58 (0, 0))) w.heap.size m < restOf wr w.heap.size m) := Lib.hid (K1.out.rest N6.out N1.out)
      go_roundw
      case rel => exact ⟨a + xb.length, R', by rw [hsz.out, IntWalk.wrap64_in _ (by omega)]; rfl, N6, E, N7⟩
      case measure => exact N8.out
end Go.Proofs.Ythefledeoiegjaa
