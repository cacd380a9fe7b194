/- The contracts of stands and of the document's IsName. -/
import Derived.Test.YthefledeoiegjaaCk
import Derived.Test.YthefledeoiegjaaRi
namespace Go.Proofs.Ythefledeoiegjaa
open Go.RowKit Go.MapKept

theorem parts_none (w : World) : partsIn w none [] := ⟨Or.inl rfl, fun p hp => by cases hp⟩
theorem put_none (B k : Nat) (m : Option Nat) (s : Sh) (n : List UInt8) (w : World) (h : ShAt w B k m s) (ok : ShOk s) (hn : n.length ≤ 9223372036854775807) (hu : sizeSum s.objs ≤ 1000000000) (hl : s.objs.length ≤ 900000) :
    Calls Try.prog 8 #[.pointer (some ⟨k, 0, none⟩), .string (str n), .slice none 0 0] w fun e w' => e = .returned (.int .i64 (putE s n [])) ∧ ∃ m', ShAt w' B k m' (putS s n []) ∧ Step k m w m' w' :=
  put_any B k m s n none [] 0 w h ok hn (by simp [partsJoin]) (by simp) hu hl (fun _ _ _ => parts_none _)
/-- A store that is on, was never armed, and has these objects. -/
def onSh (room : Int) (L : List Ent) (t : Int) : Sh := ⟨room, L, t, false, false, 0⟩
theorem onSh_ok (room : Int) (L : List Ent) (t : Int) (h0 : 0 ≤ room) (h1 : room ≤ 1073741824) (h2 : 0 ≤ t) (h3 : t ≤ 1000000000) : ShOk (onSh room L t) :=
  ⟨⟨h0, h1⟩, ⟨h2, h3⟩, ⟨by show (0 : Int) ≤ 0; decide, by show (0 : Int) ≤ 9223372036854775807; decide⟩⟩
theorem sz100 : putS (newSh 100) [97] [120, 121, 122] = onSh 100 [([97], ([120, 121, 122], false))] 1 := by kernel_rfl
theorem sz100e : putE (newSh 100) [97] [120, 121, 122] = 0 := by decide
theorem names_one (n : List UInt8) (o : Ob) : namesOf [(n, o)] [] = [n] := by
  have : Lib.hasPrefix n [] = true := by simp [Lib.hasPrefix]
  simp [namesOf, namesIn, this]
theorem cr100 : crashed (onSh 100 [([97], ([120, 121, 122], false))] 1) [3] = onSh 100 [([97], ([120, 121], true))] 1 := by
  unfold crashed
  show ({ onSh 100 [([97], ([120, 121, 122], false))] 1 with objs := crashGo (namesOf [([97], ([120, 121, 122], false))] []) [3] [([97], ([120, 121, 122], false))], off := false, armed := false, left := 0 } : Sh) = _
  rw [names_one]
  kernel_rfl
set_option maxRecDepth 100000 in
set_option maxHeartbeats 4000000 in
theorem stands_any (w : World) : Calls Try.prog 6 #[] w fun e w' => e = .returned (.bool true) ∧ Below w.heap.size w w' := by
  go_enter Try.func6, Try.ntmps6
  go_wp2_with fail
  with_reducible refine (new_any 100 w (by decide) (by decide)).mono ?_
  rintro e w1 ⟨k, rfl, h1, b1⟩
  have H1 := Lib.hid h1
  have B1 := Lib.hid b1
  have hlt := h1.is.lt
  clear h1 b1
  have hcv1 : (convert 34 34 (.slice (some ⟨w1.heap.size, 0, none⟩) 2 2)).run Try.prog (w1.alloc (.cells #[.int .u8 120, .int .u8 121] 5)) = .ok (.slice (some ⟨w1.heap.size, 0, none⟩) 2 2) (w1.alloc (.cells #[.int .u8 120, .int .u8 121] 5 (2, 3))) := Joins.run_convert_bytes_const_at w1 34 5 _ 2 2 _ rfl Try.underlying34 Try.underlying5
  have hcv2 : (convert 34 34 (.slice (some ⟨w1.heap.size + 1, 0, none⟩) 1 1)).run Try.prog ((w1.alloc (.cells #[.int .u8 120, .int .u8 121] 5 (2, 3))).alloc (.cells #[.int .u8 122] 5)) = .ok (.slice (some ⟨w1.heap.size + 1, 0, none⟩) 1 1) ((w1.alloc (.cells #[.int .u8 120, .int .u8 121] 5 (2, 3))).alloc (.cells #[.int .u8 122] 5 (1, 2))) := Joins.run_convert_bytes_const_at _ 34 5 _ 1 1 _ (by simp) Try.underlying34 Try.underlying5
  go_wp2_with fail
  obtain ⟨W, hW⟩ : ∃ W, W = ((w1.alloc (.cells #[.int .u8 120, .int .u8 121] 5 (2, 3))).alloc (.cells #[.int .u8 122] 5 (1, 2))).alloc (.cells #[.slice (some ⟨w1.heap.size, 0, none⟩) 2 2, .slice (some ⟨w1.heap.size + 1, 0, none⟩) 1 1] 34 (0, 0)) := ⟨_, rfl⟩
  have e0 : W.heap[w1.heap.size]? = some (.cells #[.int .u8 120, .int .u8 121] 5 (2, 3)) := by
    rw [hW, Below.heap_alloc _ _ _ (by simp <;> omega), Below.heap_alloc _ _ _ (by simp), heap_alloc_new]
  have e1 : W.heap[w1.heap.size + 1]? = some (.cells #[.int .u8 122] 5 (1, 2)) := by
    rw [hW, Below.heap_alloc _ _ _ (by simp)]
    have := heap_alloc_new (w1.alloc (.cells #[.int .u8 120, .int .u8 121] 5 (2, 3))) (.cells #[.int .u8 122] 5 (1, 2))
    simpa using this
  have e2 : W.heap[w1.heap.size + 1 + 1]? = some (.cells #[.slice (some ⟨w1.heap.size, 0, none⟩) 2 2, .slice (some ⟨w1.heap.size + 1, 0, none⟩) 1 1] 34 (0, 0)) := by
    rw [hW]
    have := heap_alloc_new ((w1.alloc (.cells #[.int .u8 120, .int .u8 121] 5 (2, 3))).alloc (.cells #[.int .u8 122] 5 (1, 2))) (.cells #[.slice (some ⟨w1.heap.size, 0, none⟩) 2 2, .slice (some ⟨w1.heap.size + 1, 0, none⟩) 1 1] 34 (0, 0))
    simpa using this
  have hbel : Below w1.heap.size w1 W := by
    rw [hW]
    exact (((Below.refl _ w1).alloc (Nat.le_refl _) _).alloc (by simp) _).alloc (by simp <;> omega) _
  have H2 := Lib.hid (H1.out.below hbel)
  have hparts : partsIn W (some ⟨w1.heap.size + 1 + 1, 0, none⟩) [(some ⟨w1.heap.size, 0, none⟩, 2, [120, 121]), (some ⟨w1.heap.size + 1, 0, none⟩, 1, [122])] := by
    refine ⟨Or.inr ⟨_, _, rfl, fun j hj => ?_⟩, fun p hp => ?_⟩
    · rw [cell_of_row _ _ _ _ _ _ e2]
      match j, hj with
      | 0, _ => rfl
      | 1, _ => rfl
    · simp only [List.mem_cons, List.not_mem_nil, or_false] at hp
      rcases hp with rfl | rfl
      · refine ⟨Or.inr ⟨_, _, rfl, fun i hi => ?_⟩, fun h => by cases h⟩
        rw [cell_of_row _ _ _ _ _ _ e0]
        match i, hi with
        | 0, _ => rfl
        | 1, _ => rfl
      · refine ⟨Or.inr ⟨_, _, rfl, fun i hi => ?_⟩, fun h => by cases h⟩
        rw [cell_of_row _ _ _ _ _ _ e1]
        match i, hi with
        | 0, _ => rfl
  have PK : ∀ m' w', Step k none W m' w' → partsIn w' (some ⟨w1.heap.size + 1 + 1, 0, none⟩) [(some ⟨w1.heap.size, 0, none⟩, 2, [120, 121]), (some ⟨w1.heap.size + 1, 0, none⟩, 1, [122])] := fun m' w' hs => by
    refine ⟨H2.out.keeps_vals hs hparts.1 (fun p hp => by cases hp; show w1.heap.size + 1 + 1 ≠ k; omega), fun p hp => ⟨?_, (hparts.2 p hp).2⟩⟩
    rcases (hparts.2 p hp).1 with h0 | ⟨b, o, ha, hc⟩
    · exact Or.inl h0
    · refine Or.inr ⟨b, o, ha, fun j hj => H2.out.keeps_cell hs (hc j hj) ?_⟩
      simp only [List.mem_cons, List.not_mem_nil, or_false] at hp
      rcases hp with rfl | rfl
      · cases ha
        show w1.heap.size ≠ k
        omega
      · cases ha
        show w1.heap.size + 1 ≠ k
        omega
  have P := put_any w.heap.size k none (newSh 100) [97] (some ⟨w1.heap.size + 1 + 1, 0, none⟩) [(some ⟨w1.heap.size, 0, none⟩, 2, [120, 121]), (some ⟨w1.heap.size + 1, 0, none⟩, 1, [122])] 2 W H2.out (newSh_ok 100 (by decide) (by decide)) (by decide) (by simp [partsJoin]) (by simp) (by decide) (by decide) PK
  rw [show partsJoin [(some (⟨w1.heap.size, 0, none⟩ : Addr), 2, [120, 121]), (some ⟨w1.heap.size + 1, 0, none⟩, 1, [122])] = [120, 121, 122] from rfl, sz100, sz100e] at P
  change Calls _ _ #[.pointer (some ⟨k, 0, none⟩), .string { data := #[97] }, .slice (some ⟨w1.heap.size + 1 + 1, 0, none⟩) 2 2] _ _ at P
  have HBEL := Lib.hid (B1.out.trans (hbel.mono B1.out.size))
  rw [← hW]
  clear hcv1 hcv2 e0 e1 e2 hparts hbel hW PK
  with_reducible refine P.mono ?_
  clear P
  rintro e w2 ⟨rfl, m2, h2, s2⟩
  have H3 := Lib.hid h2
  have B3 := Lib.hid (HBEL.out.trans (H2.out.step_below s2))
  clear h2 s2
  go_wp2_with fail
  have hlt2 := H3.out.is.lt
  have H4 := Lib.hid (H3.out.below ((Below.refl _ _).alloc (Nat.le_refl _) (.cells #[.int .i64 3] 3 (0, 0))))
  have VI : ∀ m' w', Step k m2 (w2.alloc (.cells #[.int .i64 3] 3 (0, 0))) m' w' → valsIn w' (some ⟨w2.heap.size, 0, none⟩) (zvals [3]) := fun m' w' hs =>
    H4.out.keeps_vals hs (vals_one _ _) (fun p hp => by cases hp; show w2.heap.size ≠ k; omega)
  have P := crash_any w.heap.size k m2 _ (some ⟨w2.heap.size, 0, none⟩) [3] 1 _ H4.out (by decide) (fun p hp => by simp only [onSh, List.mem_cons, List.not_mem_nil, or_false] at hp; subst hp; decide) (fun z hz => by simp only [List.mem_cons, List.not_mem_nil, or_false] at hz; subst hz; decide) (by decide) (by decide) (fun h => by cases h) VI
  rw [cr100] at P
  change Calls _ _ #[.pointer (some ⟨k, 0, none⟩), .slice (some ⟨w2.heap.size, 0, none⟩) 1 1] _ _ at P
  have B4 := Lib.hid (B3.out.alloc B3.out.size (.cells #[.int .i64 3] 3 (0, 0)))
  clear VI
  with_reducible refine P.mono ?_
  clear P
  rintro e w3 ⟨rfl, m3, h3, s3⟩
  have H5 := Lib.hid h3
  have B5 := Lib.hid (B4.out.trans (H4.out.step_below s3))
  clear h3 s3 hlt hlt2
  go_wp2_with fail
  have P := get_any w.heap.size k m3 _ [97] w3 H5.out
  rw [show getB (onSh 100 [([97], ([120, 121], true))] 1) [97] = [120, 121] by decide, show getE (onSh 100 [([97], ([120, 121], true))] 1) [97] = 0 by decide] at P
  change Calls _ _ #[.pointer (some ⟨k, 0, none⟩), .string { data := #[97] }] _ _ at P
  with_reducible refine P.mono ?_
  clear P
  rintro e w4 ⟨a, c, rfl, hin, b4⟩
  have H6 := Lib.hid (H5.out.below b4)
  have B6 := Lib.hid (B5.out.trans (b4.mono B5.out.size))
  have cv : (convert 34 9 (.slice a 2 c)).run Try.prog w4 = .ok (.string { data := #[120, 121] }) w4 := conv_string w4 a [120, 121] c hin
  clear hin b4
  go_wp2_with fail
  have P := put_none w.heap.size k m3 _ [97] w4 H6.out (onSh_ok 100 _ 1 (by decide) (by decide) (by decide) (by decide)) (by decide) (by decide) (by decide)
  rw [show putE (onSh 100 [([97], ([120, 121], true))] 1) [97] [] = 7 by decide] at P
  change Calls _ _ #[.pointer (some ⟨k, 0, none⟩), .string { data := #[97] }, .slice none 0 0] _ _ at P
  with_reducible refine P.mono ?_
  clear P
  rintro e w5 ⟨rfl, m5, h5, s5⟩
  have B7 := Lib.hid (B6.out.trans (H6.out.step_below s5))
  clear h5 s5
  go_wp2_with fail
  go_ret
  exact ⟨rfl, B7.out⟩
end Go.Proofs.Ythefledeoiegjaa
