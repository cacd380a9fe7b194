/- The contracts of text, Text and Flag. -/
import Derived.Test.YtjgmhaajcglpmaaNum
import Derived.Lib.AppendStr
namespace Go.Proofs.Ytjgmhaajcglpmaa
open Go.RowKit

/-- Bytes as a text. -/
def str (l : List UInt8) : ByteArray := ⟨l.toArray⟩
theorem str_size (l : List UInt8) : (str l).size = l.length := by simp [str, ByteArray.size]
theorem str_cells (l : List UInt8) : Go.Lib.strCells (str l) = bvals l := by
  simp [Go.Lib.strCells, str, bvals, V]
set_option maxRecDepth 100000 in
set_option maxHeartbeats 2000000 in
theorem text_any (B k : Nat) (s : List UInt8 × Int) (l : List UInt8) (w : World) (h : OutAt w B k s) (hl : s.1.length ≤ 400000000) (ht : l.length ≤ 100000000) :
    Calls Try.prog 69 #[.pointer (some ⟨k, 0, none⟩), .string (str l)] w fun e w' => e = .returned (.tuple #[]) ∧ OutAt w' B k (outText s l) ∧ Below B w w' ∧ KeptT k w w' := by
  have H := Lib.hid h
  have hsz := str_size l
  obtain ⟨F, er⟩ := s
  by_cases h0 : er = 0
  · subst h0
    by_cases hbad : 131072 < l.length
    · have e1 : outText (F, 0) l = (F, 4) := by simp [outText, hbad]
      have c1 := h.fault
      obtain ⟨v, hv1, hv2, hv3, hv4⟩ := h
      have f1 := hv2.free 1
      have t2 : decide ((131072 : Int) < (l.length : Int)) = true := by simp; omega
      have t3 : decide (131072 < l.length) = true := by simpa using hbad
      rw [e1]
      clear hv1 hv2 hv3 hv4 e1
      go_enter Try.func69, Try.ntmps69
      go_wp2_with fail
      with_reducible refine (takes_any B k _ w H.out).mono ?_
      rintro e w' ⟨rfl, rfl⟩
      go_wp2_with fail
      (try simp only [Exit.inBlock, Exit.then])
      refine bodyPost_ret (results_none rfl _ _ _) rfl ?_
      exact ⟨rfl, H.out.setFault 4, (Below.refl B w).setCell H.out.lt.1 _, (KeptT.refl k w).setCell 1 _⟩
    · have e1 : outText (F, 0) l = ((F ++ numBytes l.length) ++ l, 0) := by simp [outText, hbad]
      have e2 : outNum (F, 0) (l.length : Int) = (F ++ numBytes l.length, 0) := by
        have : ¬ ((l.length : Int) < 0 ∨ 4611686018427387904 ≤ (l.length : Int)) := by omega
        simp [outNum, this]
      have t2 : decide ((131072 : Int) < (l.length : Int)) = false := by simp; omega
      have t3 : decide (131072 < l.length) = false := by simpa using hbad
      have n9 := numBytes_nine l.length (by omega)
      rw [e1]
      clear h e1
      go_enter Try.func69, Try.ntmps69
      go_wp2_with fail
      with_reducible refine (takes_any B k _ w H.out).mono ?_
      rintro e w' ⟨rfl, rfl⟩
      go_wp2_with fail
      with_reducible refine (number_any B k _ (l.length : Int) w H.out (by simp [Lit.wf, IntKind.min, IntKind.max, IntKind.signed, IntKind.bits]; omega) (by have : F.length ≤ 400000000 := hl; show F.length ≤ 500000000; omega)).mono ?_
      rintro e w2 ⟨rfl, ho, hb, hk⟩
      rw [e2] at ho
      obtain ⟨v, hv1, hv2, hv3, hv4⟩ := ho
      have c0 : w2.cell? ⟨k, 0, none⟩ = some v := by rw [hv2.cell]; rfl
      have V1 := Lib.hid hv1
      have V2 := Lib.hid hv2
      have V3 := Lib.hid hv3
      have V4 := Lib.hid hv4
      have K2 := Lib.hid hb
      have K3 := Lib.hid hk
      have HBW : Hid (B ≤ w2.heap.size) := Lib.hid (Nat.le_trans hv1 (Nat.le_of_lt hv2.lt))
      clear hv1 hv2 hv3 hv4 hb hk
      have hGl : (F ++ numBytes l.length).length ≤ 400000009 := by have : F.length ≤ 400000000 := hl; rw [List.length_append]; omega
      generalize hG : F ++ numBytes l.length = G at *
      have HG := Lib.hid hG
      clear hG
      obtain ⟨i0, hi, hz0, hz1, hz2⟩ := info_parts info_u8
      go_wp2_with (at_builtin; go_loud (refine Go.Lib.wpList_append_own_string w2 rfl _ _ 40 9 rfl B 5 i0 Try.underlying40 Try.underlying9 hi hz0 hz1 hz2 v _ _ rfl V3.out (str l) rfl (by rw [str_size]; unfold maxLen; omega) (by rw [str_size]; omega) HBW.out ?_))
      intro v' w' hown hgr _
      have hown : rowIs w' B v' (G ++ l) := by
        rw [str_cells] at hown
        unfold rowIs
        rw [List.length_append, bvals_append]
        exact hown
      obtain ⟨va, vl, vc, rfl⟩ : ∃ va vl vc, v' = .slice va vl vc := by
        obtain ⟨va, vc, h, -, -, -⟩ := rowIs.bytes hown
        exact ⟨va, _, vc, h⟩
      have A3 := out_kept V2.out V4.out hgr
      have d0 : w'.cell? ⟨k, 0, none⟩ = some v := by rw [A3.cell]; rfl
      have f0 := A3.free 0
      have L1 := Lib.hid (out_put V1.out V2.out V4.out hgr hown)
      have L2 := Lib.hid ((K2.out.trans (rowIs.grew V3.out HBW.out hgr)).setCell (p := ⟨k, 0, none⟩) V1.out (.slice va vl vc))
      have L3 := Lib.hid ((K3.out.trans (KeptT.grown V3.out hgr)).setCell 0 (.slice va vl vc))
      clear hown hgr A3
      go_wp2_with fail
      go_end0
      exact ⟨rfl, by rw [HG.out]; exact L1.out, L2.out, L3.out⟩
  · have t1 : decide ((F, er).2 = 0) = false := by simpa using h0
    have e1 : outText (F, er) l = (F, er) := by simp [outText, h0]
    rw [e1]
    clear h e1
    go_enter Try.func69, Try.ntmps69
    go_wp2_with fail
    with_reducible refine (takes_any B k _ w H.out).mono ?_
    rintro e w' ⟨rfl, rfl⟩
    rw [t1]
    go_wp2_with fail
    (try simp only [Exit.inBlock, Exit.then])
    refine bodyPost_ret (results_none rfl _ _ _) rfl ?_
    exact ⟨rfl, H.out, Below.refl _ _, KeptT.refl _ _⟩
theorem outText_len (s : List UInt8 × Int) (l : List UInt8) : (outText s l).1.length ≤ s.1.length + (9 + l.length) := by
  unfold outText
  split
  · omega
  · split
    · show s.1.length ≤ _
      omega
    · show (s.1 ++ (numBytes l.length ++ l)).length ≤ _
      rw [List.length_append, List.length_append]
      have := numBytes_nine l.length (by omega)
      omega
theorem outTexts_take (s : List UInt8 × Int) (ls : List (List UInt8)) (j : Nat) (h : j < ls.length) : outTexts s (ls.take (j + 1)) = outText (outTexts s (ls.take j)) (ls.getD j []) := by
  unfold outTexts
  rw [List.take_succ_eq_append_getElem h, List.foldl_append]
  simp [h]
theorem outTexts_len (s : List UInt8 × Int) (ls : List (List UInt8)) (M : Nat) (hM : ∀ l ∈ ls, l.length ≤ M) : (outTexts s ls).1.length ≤ s.1.length + (9 + M) * ls.length := by
  induction ls generalizing s with
  | nil => simp [outTexts]
  | cons l ls ih =>
    have h1 := ih (outText s l) (fun x hx => hM x (List.mem_cons_of_mem _ hx))
    have h2 := outText_len s l
    have h3 := hM l List.mem_cons_self
    show (outTexts (outText s l) ls).1.length ≤ _
    rw [List.length_cons, Nat.mul_succ]
    omega
def svals (ls : List (List UInt8)) : List Value := ls.map fun l => .string (str l)
theorem svals_length (ls : List (List UInt8)) : (svals ls).length = ls.length := by simp [svals]
set_option maxRecDepth 100000 in
set_option maxHeartbeats 2000000 in
theorem texts_any (B k : Nat) (s : List UInt8 × Int) (a : Option Addr) (ls : List (List UInt8)) (c : Nat) (w : World) (M : Nat) (hM : ∀ l ∈ ls, l.length ≤ M) (hM2 : M ≤ 100000000) (hML : s.1.length + (9 + M) * ls.length ≤ 400000000) (h : OutAt w B k s)
    (hv : ∀ w', Below B w w' → KeptT k w w' → valsIn w' a (svals ls)) :
    Calls Try.prog 52 #[.pointer (some ⟨k, 0, none⟩), .slice a ls.length c] w fun e w' => e = .returned (.pointer (some ⟨k, 0, none⟩)) ∧ OutAt w' B k (outTexts s ls) ∧ Below B w w' ∧ KeptT k w w' := by
  have H := Lib.hid h
  have HV := Lib.hid hv
  have HW := Lib.hid hM
  have hll : ls.length ≤ 400000000 := by
    have : 9 * ls.length ≤ (9 + M) * ls.length := Nat.mul_le_mul_right _ (by omega)
    omega
  clear h hv hM
  go_enter Try.func52, Try.ntmps52
  go_wp2_with fail
  go_loopw [9] (fun i wr => ∃ j : Nat, j ≤ ls.length ∧ i = .int .i64 (j : Int) ∧ Hid (OutAt wr B k (outTexts s (ls.take j))) ∧ Hid (Below B w wr) ∧ Hid (KeptT k w wr)) (fun i _ => ls.length - (intOf i).toNat)
  case atStart => exact ⟨0, Nat.zero_le _, rfl, H, Lib.hid (Below.refl _ _), Lib.hid (KeptT.refl _ _)⟩
  case round =>
    obtain ⟨j, hj, rfl, K1, K2, K3⟩ := hrel
    have p0 : 0 ≤ (j : Int) := by omega
    by_cases hlt : j < ls.length
    · have q0 : (j : Int) < (ls.length : Int) := by omega
      obtain ⟨bb, bo, rfl, d⟩ := (HV.out wr K2.out K3.out).at j (by rw [svals_length]; exact hlt)
      have e1 : (svals ls)[j]'(by rw [svals_length]; exact hlt) = .string (str (ls.getD j [])) := by simp [svals, hlt]
      rw [e1] at d
      clear e1
      have HT := Lib.hid (outTexts_take s ls j hlt)
      have HX : Hid ((ls.getD j []).length ≤ M) := Lib.hid (by
        have : ls.getD j [] = ls[j] := by simp [hlt]
        rw [this]
        exact HW.out _ (List.getElem_mem hlt))
      have HLN : Hid ((outTexts s (ls.take j)).1.length ≤ 400000000) := Lib.hid (by
        have h1 := outTexts_len s (ls.take j) M (fun l hl => HW.out l (List.mem_of_mem_take hl))
        have h2 : (9 + M) * (ls.take j).length ≤ (9 + M) * ls.length := Nat.mul_le_mul_left _ (by rw [List.length_take]; omega)
        omega)
      generalize ls.getD j [] = x at *
      go_wp2_with fail
      with_reducible refine (text_any B k _ x wr K1.out HLN.out (Nat.le_trans HX.out hM2)).mono ?_
      rintro e w2 ⟨rfl, ho, hb, hk⟩
      have L1 := Lib.hid ho
      have L2 := Lib.hid (K2.out.trans hb)
      have L3 := Lib.hid (K3.out.trans hk)
      clear ho hb hk
      rw [← HT.out] at L1
      go_wp2_with fail
      go_roundw
      case rel => exact ⟨j + 1, by omega, by go_num, L1, L2, L3⟩
      case measure => simp [intOf]; omega
    · obtain rfl : j = ls.length := by omega
      rw [List.take_length] at K1
      go_wp2_with fail
      go_ret
      exact ⟨rfl, K1.out, K2.out, K3.out⟩
theorem outFlags_take (s : List UInt8 × Int) (l : List Bool) (j : Nat) (h : j < l.length) : outFlags s (l.take (j + 1)) = outFlag (outFlags s (l.take j)) (l.getD j false) := by
  unfold outFlags
  rw [List.take_succ_eq_append_getElem h, List.foldl_append]
  simp [h]
theorem outFlags_len (s : List UInt8 × Int) (l : List Bool) : (outFlags s l).1.length ≤ s.1.length + 9 * l.length := by
  induction l generalizing s with
  | nil => simp [outFlags]
  | cons n l ih =>
    have h1 := ih (outFlag s n)
    have h2 : (outFlag s n).1.length ≤ s.1.length + 9 := outNum_len s _
    show (outFlags (outFlag s n) l).1.length ≤ _
    rw [List.length_cons]
    omega
def fvals (l : List Bool) : List Value := l.map Value.bool
theorem fvals_length (l : List Bool) : (fvals l).length = l.length := by simp [fvals]
end Go.Proofs.Ytjgmhaajcglpmaa
