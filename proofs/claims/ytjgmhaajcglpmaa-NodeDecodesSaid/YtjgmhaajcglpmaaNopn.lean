/- Nodes that come in, read. -/
import Derived.Test.YtjgmhaajcglpmaaNo
import Derived.Test.YtjgmhaajcglpmaaThg
namespace Go.Proofs.Ytjgmhaajcglpmaa
open Go.RowKit
section
open Go.RowKit Go.ChangeShapes Go.WideShapes Go.ChangeAt Go.Deep Go.Joins Go.ChangeMaps
theorem byte_of {n : Int} (hw : (Lit.int .u8 n).wf = true) : n = V (UInt8.ofNat n.toNat) := by
  have hb := bounds_u8 hw
  unfold V
  rw [UInt8.toNat_ofNat']
  omega
theorem cells_bytes : ∀ (cs : List Value), (∀ i, i < cs.length → ∃ b : UInt8, cs[i]? = some (.int .u8 (V b))) → ∃ F : List UInt8, cs = bvals F
  | [], _ => ⟨[], rfl⟩
  | c :: cs, h => by
    obtain ⟨b, hb⟩ := h 0 (by simp)
    obtain ⟨F, hF⟩ := cells_bytes cs (fun i hi => by
      obtain ⟨b, hb⟩ := h (i + 1) (by simpa using hi)
      exact ⟨b, by simpa using hb⟩)
    refine ⟨b :: F, ?_⟩
    simp at hb
    rw [hb, hF]
    rfl
section
variable {H : Type} {enc : TypeId × Value → H} {w : World}
theorem open_id {fuel : Nat} {cs : List Value} {x : DataW H × List MemPlace} (h : DataW.trod enc Try.prog w 0 (fun _ => true) true fuel 24 cs = some x) : ∃ F : List UInt8, F.length = 32 ∧ cs = bvals F := by
  obtain ⟨xs, m, rfl, hx, hl, hxl, ha⟩ := DataW.trod_array Try.underlying24 h
  have h28 : Try.prog.cellsOf 24 = 32 := by kernel_rfl
  have h5 : Try.prog.cellsOf 5 = 1 := by kernel_rfl
  rw [h28] at hl
  obtain ⟨F, hF⟩ := cells_bytes cs (fun i hi => by
    have h1 := ha i (by omega)
    rw [h5, Nat.mul_one, List.getElem?_eq_getElem (by omega)] at h1
    obtain ⟨n, hn, -, hw⟩ := DataW.trod_int Try.underlying5 h1
    have hb := byte_of hw
    refine ⟨UInt8.ofNat n.toNat, ?_⟩
    have h2 : cs[i]? = some (.int .u8 n) := by
      have := congrArg (·[0]?) hn
      simpa [List.getElem?_take, List.getElem?_drop] using this
    rw [h2, ← hb])
  refine ⟨F, ?_, hF⟩
  have := congrArg List.length hF
  rw [bvals_length] at this
  omega
theorem range_of_cells {b o n : Nat} {spot : Option Nat} {cs : List Value} (hc : w.cells? 0 ⟨b, o, spot⟩ n = some cs) (hn : 0 < n) : spot = none ∧ w.rangeAt b o cs := by
  obtain ⟨-, hl, hat⟩ := World.cells?_some hc
  have h0 := hat 0 hn
  rw [List.getElem?_eq_getElem (by omega)] at h0
  have hspot : spot = none := by simpa [Addr.add] using World.cell?_spot h0
  subst hspot
  refine ⟨rfl, fun j v hj => ?_⟩
  have := hat j (by have := (List.getElem?_eq_some_iff.1 hj).1; omega)
  rw [Addr.add_lit] at this
  rw [this, hj]
theorem ids_of_rows (b o : Nat) (P : List (List UInt8)) (h32 : ∀ p ∈ P, p.length = 32) (h : ∀ i (hi : i < P.length), w.rangeAt b (o + i * 32) (bvals P[i])) : ∀ j, j < (idcells P).length → w.cell? ⟨b, o + j, none⟩ = (idcells P)[j]? := by
  intro j hj
  have hl := idcells_length P h32
  have hq : j / 32 < P.length := by omega
  have e := idcells_get P h32 (j / 32) hq (j % 32) (Nat.mod_lt _ (by decide))
  have ej : j / 32 * 32 + j % 32 = j := by omega
  rw [ej] at e
  rw [e]
  have hbl : (bvals P[j / 32]).length = 32 := by rw [bvals_length, h32 _ (List.getElem_mem hq)]
  have hm : j % 32 < (bvals P[j / 32]).length := by rw [hbl]; exact Nat.mod_lt _ (by decide)
  have := h (j / 32) hq (j % 32) _ (List.getElem?_eq_getElem hm)
  rw [List.getElem?_eq_getElem hm, ← this]
  congr 2
  omega
theorem open_ids {fuel : Nat} {v : Value} {x : DataW H × List MemPlace} (h : DataW.trod enc Try.prog w 0 (fun _ => true) true fuel 22 [v] = some x) :
    ∃ P, idsIn w v P ∧ (P.length = 0 ∨ ∃ elems spare : List (DataW H), x.1 = .slice elems spare ∧ elems.length = P.length) := by
  have h28 : Try.prog.cellsOf 24 = 32 := by kernel_rfl
  rcases open_slice Try.underlying22 h with ⟨h0, _⟩ | ⟨a, n, c, m, k0, D, Pl, hv, hb, hnc, hcm, hm, hx, hi⟩
  · obtain rfl : v = .slice none 0 0 := by simpa using h0
    exact ⟨[], ⟨none, 0, rfl, Nat.le_refl _, by decide, fun _ => rfl, fun p hp => absurd hp List.not_mem_nil, Or.inl rfl⟩, Or.inl rfl⟩
  · obtain rfl : v = .slice (some a) n c := by simpa using hv
    simp only [if_true] at hm
    rw [h28] at hi
    obtain ⟨b, o, spot⟩ := a
    rw [max_len] at hcm
    have hsp : 0 < n → spot = none := fun hn => by
      obtain ⟨cs, hc, -⟩ := hi 0 (by omega)
      rw [Nat.zero_mul] at hc
      obtain ⟨-, hl2, hat⟩ := World.cells?_some hc
      have h0 := hat 0 (by decide)
      rw [List.getElem?_eq_getElem (by omega)] at h0
      simpa [Addr.add] using World.cell?_spot h0
    obtain ⟨P, hP, hR⟩ := list_of (fun i (p : List UInt8) => p.length = 32 ∧ w.rangeAt b (o + i * 32) (bvals p) ∧ spot = none) n (fun i hin => by
      obtain ⟨cs, hc, htr⟩ := hi i (by omega)
      obtain ⟨F, hF, rfl⟩ := open_id htr
      obtain rfl := hsp (by omega)
      rw [Addr.add_lit] at hc
      exact ⟨F, hF, (range_of_cells hc (by decide)).2, rfl⟩)
    have h32 : ∀ p ∈ P, p.length = 32 := fun p hp => by
      obtain ⟨i, hi, rfl⟩ := List.getElem_of_mem hp
      exact (hR i hi).1
    refine ⟨P, ⟨some ⟨b, o, spot⟩, c, by rw [hP], by omega, hcm, fun e => (by cases e), h32, ?_⟩, Or.inr ⟨_, _, by rw [hx], by rw [List.length_map, List.length_range, hP]⟩⟩
    by_cases hp : P.length = 0
    · rw [List.eq_nil_of_length_eq_zero hp]
      exact Or.inl rfl
    · obtain ⟨-, -, rfl⟩ := hR 0 (by omega)
      exact Or.inr ⟨b, o, rfl, ids_of_rows b o P h32 (fun i hi => (hR i hi).2.1)⟩
theorem split_nd (l : List Value) (h : l.length = 39) : l = (l.drop 0).take 1 ++ ((l.drop 1).take 1 ++ ((l.drop 2).take 1 ++ ((l.drop 3).take 1 ++ ((l.drop 4).take 1 ++ ((l.drop 5).take 1 ++ ((l.drop 6).take 1 ++ (l.drop 7).take 32)))))) := by
  match l, h with
  | _ :: _ :: _ :: _ :: _ :: _ :: _ :: t, h =>
    have ht : t.length = 32 := by simp at h; omega
    simp [List.take_of_length_le, ht]
theorem one_of (l : List Value) (k : Nat) (h : k < l.length) : ∃ v, (l.drop k).take 1 = [v] := ⟨l[k], by rw [List.drop_eq_getElem_cons h]; rfl⟩
theorem open_nd {fuel : Nat} {cs : List Value} {x : DataW H × List MemPlace} (h : DataW.trod enc Try.prog w 0 (fun _ => true) true fuel 26 cs = some x) :
    ∃ (n : Nd) (pv : Value), cs = n.cells pv ∧ n.Wf ∧ idsIn w pv n.parts ∧ (n.parts.length = 0 ∨ ∃ (ds elems spare : List (DataW H)), x.1 = .agg ds ∧ ds[6]? = some (.slice elems spare) ∧ elems.length = n.parts.length) := by
  obtain ⟨xs, m, rfl, hx, hl, hxl, ha⟩ := DataW.trod_struct Try.underlying26 h
  have hxl : xs.length = 8 := hxl
  have h39 : Try.prog.cellsOf 26 = 39 := by kernel_rfl
  have h3 : Try.prog.cellsOf 3 = 1 := by kernel_rfl
  have h9 : Try.prog.cellsOf 9 = 1 := by kernel_rfl
  have h22 : Try.prog.cellsOf 22 = 1 := by kernel_rfl
  have h28 : Try.prog.cellsOf 24 = 32 := by kernel_rfl
  rw [h39] at hl
  have f0 := ha 0 _ rfl
  have f1 := ha 1 _ rfl
  have f2 := ha 2 _ rfl
  have f3 := ha 3 _ rfl
  have f4 := ha 4 _ rfl
  have f5 := ha 5 _ rfl
  have f6 := ha 6 _ rfl
  have f7 := ha 7 _ rfl
  have x6 := List.getElem?_eq_getElem (l := xs) (i := 6) (by omega)
  rw [List.getElem?_eq_getElem (by omega)] at f0 f1 f2 f3 f4 f5 f6 f7
  change DataW.trod _ _ _ _ _ _ _ 9 ((cs.drop 0).take (Try.prog.cellsOf 9)) = _ at f0
  change DataW.trod _ _ _ _ _ _ _ 3 ((cs.drop 1).take (Try.prog.cellsOf 3)) = _ at f1
  change DataW.trod _ _ _ _ _ _ _ 3 ((cs.drop 2).take (Try.prog.cellsOf 3)) = _ at f2
  change DataW.trod _ _ _ _ _ _ _ 3 ((cs.drop 3).take (Try.prog.cellsOf 3)) = _ at f3
  change DataW.trod _ _ _ _ _ _ _ 3 ((cs.drop 4).take (Try.prog.cellsOf 3)) = _ at f4
  change DataW.trod _ _ _ _ _ _ _ 9 ((cs.drop 5).take (Try.prog.cellsOf 9)) = _ at f5
  change DataW.trod _ _ _ _ _ _ _ 22 ((cs.drop 6).take (Try.prog.cellsOf 22)) = _ at f6
  change DataW.trod _ _ _ _ _ _ _ 24 ((cs.drop 7).take (Try.prog.cellsOf 24)) = _ at f7
  rw [h9] at f0 f5
  rw [h3] at f1 f2 f3 f4
  rw [h22] at f6
  rw [h28] at f7
  obtain ⟨s0, e0, -, w0⟩ := DataW.trod_string Try.underlying9 f0
  obtain ⟨z1, e1, -, w1⟩ := DataW.trod_int Try.underlying3 f1
  obtain ⟨z2, e2, -, w2⟩ := DataW.trod_int Try.underlying3 f2
  obtain ⟨z3, e3, -, w3⟩ := DataW.trod_int Try.underlying3 f3
  obtain ⟨z4, e4, -, w4⟩ := DataW.trod_int Try.underlying3 f4
  obtain ⟨s5, e5, -, w5⟩ := DataW.trod_string Try.underlying9 f5
  obtain ⟨v6, e6⟩ := one_of cs 6 (by omega)
  rw [e6] at f6
  obtain ⟨P, hP, hPx⟩ := open_ids f6
  obtain ⟨T, hT, e7⟩ := open_id f7
  refine ⟨⟨s0.data.toList, z1, z2, z3, z4, s5.data.toList, P, T⟩, v6, ?_, ⟨hT, w1, w2, w3, w4, ?_, ?_, ?_⟩, hP, ?_⟩
  · rw [split_nd cs hl, e0, e1, e2, e3, e4, e5, e6, e7]
    unfold Nd.cells Nd.head
    rw [← str_data, ← str_data]
    rfl
  · have := w0; rw [Array.length_toList]; exact this
  · have := w5; rw [Array.length_toList]; exact this
  · obtain ⟨a, c, -, -, -, -, h32, -⟩ := hP
    exact h32
  · rcases hPx with h0 | ⟨elems, spare, g1, g2⟩
    · exact Or.inl h0
    · refine Or.inr ⟨xs.map (·.1), elems, spare, by rw [hx], ?_, g2⟩
      rw [List.getElem?_map, x6]
      show some xs[6].1 = _
      rw [g1]
theorem open_nodes {fuel : Nat} {v : Value} {x : DataW H × List MemPlace} (h : DataW.trod enc Try.prog w 0 (fun _ => true) true fuel 29 [v] = some x) :
    ∃ (a : Option Addr) (c : Nat) (L : List Nd), v = .slice a L.length c ∧ L.length ≤ c ∧ c ≤ 9223372036854775807 ∧ rowN w a L := by
  have h39 : Try.prog.cellsOf 26 = 39 := by kernel_rfl
  rcases open_slice Try.underlying29 h with ⟨h0, _⟩ | ⟨a, n, c, m, k0, D, Pl, hv, hb, hnc, hcm, hm, hx, hi⟩
  · obtain rfl : v = .slice none 0 0 := by simpa using h0
    exact ⟨none, 0, [], rfl, Nat.le_refl _, by decide, Or.inl rfl⟩
  · obtain rfl : v = .slice (some a) n c := by simpa using hv
    simp only [if_true] at hm
    rw [h39] at hi
    obtain ⟨b, o, spot⟩ := a
    rw [max_len] at hcm
    have hsp : 0 < n → spot = none := fun hn => by
      obtain ⟨cs, hc, -⟩ := hi 0 (by omega)
      rw [Nat.zero_mul] at hc
      obtain ⟨-, hl2, hat⟩ := World.cells?_some hc
      have h0 := hat 0 (by decide)
      rw [List.getElem?_eq_getElem (by omega)] at h0
      simpa [Addr.add] using World.cell?_spot h0
    obtain ⟨L, hL, hR⟩ := list_of (fun i (p : Nd) => spot = none ∧ ndIn w b (o + i * 39) p) n (fun i hin => by
      obtain ⟨cs, hc, htr⟩ := hi i (by omega)
      obtain ⟨p, pv, rfl, hwf, hid, -⟩ := open_nd htr
      obtain rfl := hsp (by omega)
      rw [Addr.add_lit] at hc
      exact ⟨p, rfl, hwf, pv, hid, (range_of_cells hc (by decide)).2⟩)
    refine ⟨some ⟨b, o, spot⟩, c, L, by rw [hL], by omega, hcm, ?_⟩
    by_cases hp : L.length = 0
    · exact Or.inl (List.eq_nil_of_length_eq_zero hp)
    · obtain ⟨rfl, -⟩ := hR 0 (by omega)
      exact Or.inr ⟨b, o, rfl, fun i hi => (hR i hi).2⟩
end
end
end Go.Proofs.Ytjgmhaajcglpmaa
