/- Does a file that replaces another one live alone? -/
import Derived.Test.YtfbekpkagncblaaLx
namespace Go.Proofs.Ytfbekpkagncblaa
open Go.RowKit

def twoE : List NmE := [([97], []), ([98], [[97]])]
theorem two_lives {L : List (List UInt8)} (h : LivesIs twoE L) : L = [[98]] :=
  risen_unique L [[98]] h.1 (by simp [risen]) fun x => by
    rw [h.2.1 x]
    simp only [alive, twoE, goneL, List.map_cons, List.map_nil, List.flatMap_cons, List.flatMap_nil, List.append_nil, List.nil_append, List.mem_cons, List.not_mem_nil, or_false]
    refine ⟨fun q => q.1.resolve_left q.2, fun q => ⟨Or.inr q, fun e => ?_⟩⟩
    rw [q] at e
    simp at e
theorem build_file1 (a : Option Addr) (n c : Nat) (w : World) : (Instr.build 27 #[(1, .slice a n c)]).run Try.prog w = .ok (.agg #[.slice none 0 0, .slice a n c]) w := by kernel_rfl
/-- The names of a row. -/
theorem row_names {w : World} {base : Nat} {v : Value} {D : List LvE} (h : w.ownsRow base 29 3 v D.length (lvCells D)) : ∃ a c, v = .slice a D.length c ∧ D.length ≤ c ∧ c ≤ 9223372036854775807 ∧ ∀ i (hi : i < D.length), ∃ g, a = some ⟨g, 0, none⟩ ∧ w.cell? ⟨g, i * 3, none⟩ = some (.string (str D[i].1)) := by
  have h1 := h
  rcases h.2 with ⟨rfl, h0⟩ | ⟨g, cap, cur, rfl, hba, hh, hn, hc, hs, ht⟩
  · exact ⟨none, 0, by rw [h0], by omega, by decide, fun i hi => by omega⟩
  · refine ⟨_, cap, rfl, hn, by unfold maxLen at hc; omega, fun i hi => ⟨g, rfl, ?_⟩⟩
    exact row_range h1 i hi 0 _ rfl
def twoW (w : World) : World := (w.alloc (.cells #[.string (str [97])] 9)).alloc (.cells #[.string (str [97]), .slice none 0 0, .slice none 0 0, .string (str [98]), .slice none 0 0, .slice (some ⟨w.heap.size, 0, none⟩) 1 1] 29)
theorem two_in (w : World) : nmIn (twoW w) (some ⟨w.heap.size + 1, 0, none⟩) twoE := by
  have KA : blockIs (twoW w) w.heap.size [.string (str [97])] 9 := (blockIs.new w [.string (str [97])] 9).alloc _
  have KB : blockIs (twoW w) (w.heap.size + 1) [.string (str [97]), .slice none 0 0, .slice none 0 0, .string (str [98]), .slice none 0 0, .slice (some ⟨w.heap.size, 0, none⟩) 1 1] 29 := by
    have := blockIs.new (w.alloc (.cells #[.string (str [97])] 9)) [.string (str [97]), .slice none 0 0, .slice none 0 0, .string (str [98]), .slice none 0 0, .slice (some ⟨w.heap.size, 0, none⟩) 1 1] 29
    rw [World.size_alloc] at this
    exact this
  refine Or.inr ⟨w.heap.size + 1, 0, rfl, fun i hi => ?_⟩
  match i, hi with
  | 0, _ =>
    refine ⟨.slice none 0 0, ⟨none, 0, rfl, Nat.le_refl _, by decide, fun _ => rfl, Or.inl rfl⟩, fun j v hj => ?_⟩
    match j, hj with
    | 0, hj => exact (KB.cell 0).trans hj
    | 1, hj => exact (KB.cell 1).trans hj
    | 2, hj => exact (KB.cell 2).trans hj
  | 1, _ =>
    refine ⟨.slice (some ⟨w.heap.size, 0, none⟩) 1 1, texts_one KA, fun j v hj => ?_⟩
    match j, hj with
    | 0, hj => exact (KB.cell 3).trans hj
    | 1, hj => exact (KB.cell 4).trans hj
    | 2, hj => exact (KB.cell 5).trans hj
theorem two_below (w : World) : Below w.heap.size w (twoW w) := (alloc_below w _).trans ((alloc_below _ _).mono (alloc_below w _).size)
theorem two_live (w : World) : Calls Try.prog 4 #[.slice (some ⟨w.heap.size + 1, 0, none⟩) 2 2] (twoW w) fun e w' => (∃ v D, e = .returned v ∧ w'.ownsRow (twoW w).heap.size 29 3 v D.length (lvCells D) ∧ LivesIs twoE (D.map Prod.fst)) ∧ Below (twoW w).heap.size (twoW w) w' :=
  live_any (some ⟨w.heap.size + 1, 0, none⟩) 2 twoE (twoW w) (by decide) (by decide) (two_in w)
set_option maxRecDepth 100000 in
set_option maxHeartbeats 2000000 in
theorem tells_any (w : World) : Calls Try.prog 5 #[] w fun e w' => e = .returned (.bool true) ∧ Below w.heap.size w w' := by
  have ea : (⟨#[97]⟩ : ByteArray) = str [97] := rfl
  have eb : (⟨#[98]⟩ : ByteArray) = str [98] := rfl
  have hb1 := build_nm1 [97]
  have hb2 := build_file1 (some ⟨w.heap.size, 0, none⟩) 1 1
  have hb3 := build_nm [98] (.slice (some ⟨w.heap.size, 0, none⟩) 1 1) rfl
  go_enter Try.func5, Try.ntmps5
  go_wp2_with fail
  have PC := two_live w
  change Calls _ _ _ (twoW w) _
  with_reducible refine PC.mono ?_
  clear PC hb1 hb2 hb3
  rintro e w5 ⟨⟨v, D, rfl, hrow, hliv⟩, hb5⟩
  have HB5 := Lib.hid ((two_below w).trans (hb5.mono (two_below w).size))
  have hD := two_lives hliv
  obtain ⟨la, lc, rfl, l1, l2, lcell⟩ := row_names hrow
  have hd1 : D.length = 1 := by have := congrArg List.length hD; simpa using this
  obtain ⟨g, rfl, hc0⟩ := lcell 0 (by omega)
  have hn0 : D[0].1 = [98] := by
    have h0 : (D.map Prod.fst)[0]'(by rw [List.length_map]; omega) = [98] := by simp [hD]
    simpa using h0
  rw [hn0, Nat.zero_mul] at hc0
  rw [hd1] at l1 ⊢
  have HLC := Lib.hid hc0
  have hc1 : w5.cell? ⟨g, 0, none⟩ = some (.string (str [98])) := hc0
  have hbb := str_eqb [98] [98]
  have hb98 : ((str [98]).toList == [98]) = true := by rw [str_toList]; rfl
  clear hrow hliv hb5 hD lcell hd1 hn0 hc0
  go_wp2_with fail
  go_ret
  exact ⟨rfl, HB5.out⟩
end Go.Proofs.Ytfbekpkagncblaa
