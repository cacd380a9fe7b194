/- A knife that is fed byte by byte, and the row of all its pieces. -/
import Derived.Test.YtaohbpmefcdipaaDoorCtFm
namespace Go.Proofs.YtaohbpmefcdipaaDoor.Ct
open Go.RowKit

structure KfAt (w0 w : World) (W0 k g b : Nat) (r : Rl) (Wp : Nat) (ov : Value) (D P : List UInt8) (O : List (List UInt8)) (vs : List Value) : Prop where
  ex : ∃ pv L Bp, KnifeAt w k g b r pv L ∧ fitW L P ∧ rowIs w Bp pv P ∧ Wp ≤ Bp ∧ Bp ≤ w.heap.size ∧ Pieces w Wp Bp vs O
  fed : r.fed [] D = (O, P)
  out : rowV w Wp 22 ov vs
  low : Below W0 w0 w
theorem Pieces.append {w : World} {lo hi : Nat} {vs us : List Value} {O N : List (List UInt8)} (h : Pieces w lo hi vs O) (m : Pieces w lo hi us N) : Pieces w lo hi (vs ++ us) (O ++ N) := by
  refine ⟨by rw [List.length_append, List.length_append, h.1, m.1], fun i h1 h2 => ?_⟩
  by_cases hi : i < vs.length
  · rw [List.getElem_append_left hi, List.getElem_append_left (by rw [← h.1]; exact hi)]
    exact h.2 i hi _
  · have e := h.1
    rw [List.length_append] at h1
    rw [List.getElem_append_right (by omega), List.getElem_append_right (by omega)]
    have := m.2 (i - vs.length) (by omega) (by have := m.1; omega)
    have e2 : i - O.length = i - vs.length := by omega
    simp only [e2]
    exact this
theorem Pieces.map2 {w w' : World} {lo lo' hi hi' : Nat} {vs : List Value} {O : List (List UInt8)} (h : Pieces w lo hi vs O) (k : ∀ v s, PieceAt w lo hi v s → PieceAt w' lo' hi' v s) : Pieces w' lo' hi' vs O := ⟨h.1, fun i h1 h2 => k _ _ (h.2 i h1 h2)⟩
theorem KfAt.lens {w0 w : World} {W0 k g b : Nat} {r : Rl} {Wp : Nat} {ov : Value} {D P : List UInt8} {O : List (List UInt8)} {vs : List Value} (h : KfAt w0 w W0 k g b r Wp ov D P O vs) : vs.length = O.length ∧ O.length + P.length ≤ D.length := by
  obtain ⟨pv, L, Bp, _, _, _, _, _, h6⟩ := h.ex
  have h2 := r.fed_len [] D
  rw [h.fed] at h2
  have h2 : O.length + P.length ≤ 0 + D.length := h2
  exact ⟨h6.1, by omega⟩
set_option maxRecDepth 100000 in
theorem feedkf {w0 w : World} {W0 k g b : Nat} {r : Rl} {Wp : Nat} {ov : Value} {D P : List UInt8} {O : List (List UInt8)} {vs : List Value} (h : KfAt w0 w W0 k g b r Wp ov D P O vs) (a : Option Addr) (c : Nat) (l : List UInt8) (hlc : l.length ≤ c) (hcm : c ≤ 9223372036854775807) (hz : a = none → c = 0) (hin : l = [] ∨ ∃ bb bo, a = some ⟨bb, bo, none⟩ ∧ bb < W0 ∧ ∀ j, j < l.length → w.cell? ⟨bb, bo + j, none⟩ = some (.int .u8 (V (l.getD j 0)))) (hW : W0 ≤ k ∧ W0 ≤ g ∧ W0 ≤ b) (hk : k < Wp ∧ g < Wp ∧ b < Wp) (hWp : W0 ≤ Wp) (hlen : D.length + l.length ≤ 100000) :
    Calls Tryd.prog 18 #[.pointer (some ⟨k, 0, none⟩), .slice (some ⟨w.heap.size, 0, none⟩) 1 1] (w.alloc (.cells #[.slice a l.length c] 22 (0, 0))) fun e w' => ∃ fv us, e = .returned fv ∧ rowV w' Wp 22 ov vs ∧ rowV w' Wp 22 fv us ∧ Wp ≤ w'.heap.size ∧ vs.length + us.length ≤ 200000 ∧ (∀ u ∈ us, u.oneCell' = true) ∧ ∀ ov2 w2, rowV w2 Wp 22 ov2 (vs ++ us) → w'.grownBy w2 ov.ownBlock → KfAt w0 w2 W0 k g b r Wp ov2 (D ++ l) (r.fed P l).2 (O ++ (r.fed P l).1) (vs ++ us) := by
  have hls := h.lens
  obtain ⟨pv, L, Bp, h1, h2, h3, h4, h5, h6⟩ := h.ex
  have hw := (Below.refl w.heap.size w).alloc (Nat.le_refl _) (.cells #[.slice a l.length c] 22 (0, 0))
  have hfar : bytesFar w k g b Bp a l := by
    rcases hin with h0 | ⟨bb, bo, e, hb, hc⟩
    · exact Or.inl h0
    · exact Or.inr ⟨bb, bo, e, by omega, by omega, by omega, by omega, hc⟩
  have e : (([⟨a, c, l⟩] : List Pc).map Pc.l).flatten = l := by simp
  have hc := feed_any k g b r Bp Bp pv L P [⟨a, c, l⟩] w.heap.size (w.alloc (.cells #[.slice a l.length c] 22 (0, 0))) (h1.below hw) h2 (rowV.is (h3.v.below hw (Nat.le_refl _))) (Nat.le_refl _) (Nat.le_trans h5 (by simp)) (by omega) (by omega) (by omega) (blockIs.new w _ _) (fun p hp => by
    rw [List.mem_singleton.1 hp]
    exact ⟨hlc, hcm, hz, hfar.alloc _⟩) (by rw [e]; omega) (by simp)
  rw [e] at hc
  refine hc.mono ?_
  rintro e2 w' ⟨fv, pv', B', us, L', rfl, hF⟩
  have hf0 : ButF k g b Bp w w' := (ButF.of_below hw).trans hF.kept
  have hWs : Wp ≤ w'.heap.size := Nat.le_trans h4 (Nat.le_trans h5 hf0.size)
  have hfl := r.fed_len P l
  refine ⟨fv, us, rfl, h.out.butF h1 hf0 (by decide) (by decide) (by decide), rowV.mono hF.out (Nat.le_trans h4 (Nat.le_trans h5 (by simp))), hWs, by have := hF.rows.1; omega, ?_, fun ov2 w2 hr2 hg => ?_⟩
  · intro u hu
    obtain ⟨i, hi, rfl⟩ := List.getElem_of_mem hu
    obtain ⟨a, c, e, -⟩ := (hF.rows.2 i hi (by rw [← hF.rows.1]; exact hi)).1.bytes
    rw [e]
    rfl
  have hout' : rowV w' Wp 22 ov vs := h.out.butF h1 hf0 (by decide) (by decide) (by decide)
  have hbl : Below Wp w' w2 := hout'.grew hWs hg
  have move : ∀ v s lo, rowIs w' lo v s → rowIs w2 lo v s := fun v s lo hv => rowV.is (hv.v.apart hout' (by decide) hg)
  refine ⟨⟨pv', L', B', hF.knife.belowB hbl hk.1 hk.2.1 hk.2.2, hF.fit, move _ _ _ hF.piece, Nat.le_trans h4 hF.lo, Nat.le_trans hF.hi hbl.size, ?_⟩, r.fed_more h.fed rfl, hr2, ?_⟩
  · refine Pieces.append (h6.map (fun v s hv => ⟨move _ _ _ ?_, fun q hq => Nat.lt_of_lt_of_le (hv.2 q hq) hF.lo⟩)) (hF.rows.map2 (fun v s hv => ⟨move _ _ _ (rowIs.mono hv.1 h4), hv.2⟩))
    rcases hv.1.2 with ⟨e, h0⟩ | ⟨q, cap, cur, e, hba, hh, hn, hcc, hs, ht⟩
    · exact ⟨hv.1.1, Or.inl ⟨e, h0⟩⟩
    · refine ⟨hv.1.1, Or.inr ⟨q, cap, cur, e, hba, ?_, hn, hcc, hs, ht⟩⟩
      have hq : q < w.heap.size := (Array.getElem?_eq_some_iff.1 hh).1
      have hq2 : q < Bp := hv.2 q (by rw [e]; rfl)
      rw [hf0.block q hq (by omega) (by omega) (by omega) (Or.inl hq2)]
      exact hh
  · have hWs0 : W0 ≤ w.heap.size := by omega
    have hlow : Below W0 w w' := ⟨hf0.os, hf0.tape, hf0.output, hf0.size, fun q hq => hf0.block q (by omega) (by omega) (by omega) (by omega) (Or.inl (by omega))⟩
    exact (h.low.trans hlow).trans (hbl.mono hWp)
/-- The end: the knife is not needed any more. -/
theorem endkf {w0 w : World} {W0 k g b : Nat} {r : Rl} {Wp : Nat} {ov : Value} {D P : List UInt8} {O : List (List UInt8)} {vs : List Value} (h : KfAt w0 w W0 k g b r Wp ov D P O vs) (hW : W0 ≤ k ∧ W0 ≤ g ∧ W0 ≤ b) (hk : k < Wp ∧ g < Wp ∧ b < Wp) (hWp : W0 ≤ Wp) :
    Calls Tryd.prog 19 #[.pointer (some ⟨k, 0, none⟩)] w fun e w' => ∃ pv, e = .returned (.tuple #[pv, .bool (decide (0 < P.length))]) ∧ rowV w' Wp 22 ov vs ∧ Pieces w' Wp w'.heap.size vs O ∧ rowIs w' Wp pv P ∧ Below W0 w0 w' ∧ Wp ≤ w'.heap.size := by
  obtain ⟨pv, L, Bp, h1, h2, h3, h4, h5, h6⟩ := h.ex
  refine (end_any k g b Bp Bp r pv L P w h1 h2 h3 (Nat.le_refl _) (by omega) (by omega) (by omega)).mono ?_
  rintro e w' ⟨rfl, hk2, hr2, hf0⟩
  have hWs : Wp ≤ w'.heap.size := Nat.le_trans h4 (Nat.le_trans h5 hf0.size)
  refine ⟨pv, rfl, h.out.butF h1 hf0 (by decide) (by decide) (by decide), h6.map (fun v s hv => ⟨?_, fun q hq => Nat.lt_of_lt_of_le (hv.2 q hq) (Nat.le_trans h5 hf0.size)⟩), rowIs.mono hr2 h4, ?_, hWs⟩
  · rcases hv.1.2 with ⟨e, h0⟩ | ⟨q, cap, cur, e, hba, hh, hn, hcc, hs, ht⟩
    · exact ⟨hv.1.1, Or.inl ⟨e, h0⟩⟩
    · refine ⟨hv.1.1, Or.inr ⟨q, cap, cur, e, hba, ?_, hn, hcc, hs, ht⟩⟩
      have hq : q < w.heap.size := (Array.getElem?_eq_some_iff.1 hh).1
      have hq2 : q < Bp := hv.2 q (by rw [e]; rfl)
      rw [hf0.block q hq (by omega) (by omega) (by omega) (Or.inl hq2)]
      exact hh
  · exact h.low.trans ⟨hf0.os, hf0.tape, hf0.output, hf0.size, fun q hq => hf0.block q (by omega) (by omega) (by omega) (by omega) (Or.inl (by omega))⟩
set_option maxRecDepth 100000 in
theorem ruletop_any (w : World) : Calls Tryd.prog 14 #[] w fun e w' => e = .returned (.agg #[.int .i64 64, .int .i64 200, .int .i64 5, .int .u64 17349423945073011]) ∧ Below w.heap.size w w' := by
  go_enter Tryd.func14, Tryd.ntmps14
  go_wp2_with fail
  have B1 : blockIs (w.alloc (.cells #[.int .i64 64, .int .i64 200, .int .i64 5, .int .u64 17349423945073011] 40 (0, 0))) w.heap.size [.int .i64 64, .int .i64 200, .int .i64 5, .int .u64 17349423945073011] 40 := blockIs.new w _ _
  refine bodyPost_ret (v := .agg #[.int .i64 64, .int .i64 200, .int .i64 5, .int .u64 17349423945073011]) (results_cell_row rfl _ _ w.heap.size 40 _ (0, 0) _ rfl B1 Tryd.underlying40 rfl (by kernel_rfl)) rfl ?_
  exact ⟨rfl, (Below.refl _ _).alloc (Nat.le_refl _) _⟩
def ruletop : Rl := ⟨64, 200, 5, 17349423945073011#64⟩
theorem ruletop_ok : ruletop.ok := ⟨by decide, by decide, by decide, by decide, by decide, by show 24 ≤ dgw 17349423945073011#64; decide +kernel⟩
end Go.Proofs.YtaohbpmefcdipaaDoor.Ct
