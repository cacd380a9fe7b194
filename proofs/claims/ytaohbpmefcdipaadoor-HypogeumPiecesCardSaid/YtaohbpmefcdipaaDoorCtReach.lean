/- The contract of reach. -/
import Derived.Test.YtaohbpmefcdipaaDoorCtKn
namespace Go.Proofs.YtaohbpmefcdipaaDoor.Ct
open Go.RowKit

theorem one_off {w : World} {g b : Nat} {x : UInt8} (hg : g < w.heap.size) (hb : b < w.heap.size) (t : TypeId) : bytesOff (w.alloc (.cells #[.int .u8 (V x)] t (0, 0))) g b (some ⟨w.heap.size, 0, none⟩) [x] := by
  refine Or.inr ⟨_, _, rfl, by omega, by omega, fun j hj => ?_⟩
  match j, hj with
  | 0, _ => rw [World.cell?_alloc_at _ _ _ _ rfl]; rfl
theorem rollIs.lt {w : World} {g b : Nat} {m : W} {L : List UInt8} (h : rollIs w g b m L) : g < w.heap.size ∧ b < w.heap.size := by
  obtain ⟨ld, p, rg, hr⟩ := h
  exact ⟨hr.cells.lt, hr.bytes.lt⟩
set_option maxRecDepth 100000 in
set_option maxHeartbeats 4000000 in
theorem reach_any (k g b : Nat) (r : Rl) (pv : Value) (L P : List UInt8) (a : Option Addr) (l : List UInt8) (c : Nat) (w : World) (h : KnifeAt w k g b r pv L) (hf : fitW L P) (hlc : l.length ≤ c) (hc : l.length ≤ 1000000) (hp : P.length ≤ 1000000) (hb : bytesOff w g b a l) :
    Calls Tryd.prog 28 #[.pointer (some ⟨k, 0, none⟩), .int .i64 (P.length : Int), .slice a l.length c] w fun e w' => e = .returned (.tuple #[.int .i64 ((r.reach P l).1 : Int), .bool (r.reach P l).2]) ∧ ∃ L', KnifeAt w' k g b r pv L' ∧ fitW L' (P ++ l.take (r.reach P l).1) ∧ But2 g b w w' := by
  have HK := Lib.hid h
  have HF := Lib.hid hf
  have HB := Lib.hid hb
  clear h hf hb
  go_enter Tryd.func28, Tryd.ntmps28
  go_wp2_with fail
  go_loopw [12] (fun i wr => ∃ j : Nat, j ≤ l.length ∧ i = .int .i64 j ∧ r.goes P l j ∧ ∃ L', Hid (KnifeAt wr k g b r pv L') ∧ Hid (fitW L' (P ++ l.take j)) ∧ Hid (But2 g b w wr)) (fun i _ => l.length - (intOf i).toNat)
  case atStart => exact ⟨0, Nat.zero_le _, rfl, fun j hj => by omega, L, HK, Lib.hid (by simpa using HF.out), Lib.hid (But2.refl _ _ _)⟩
  case round =>
    obtain ⟨j, hj, rfl, hg, L1, K1, F1, B1⟩ := hrel
    have HG := Lib.hid hg
    clear hg HK HF
    have p0 : 0 ≤ (j : Int) := by omega
    by_cases hlt : j < l.length
    · have q0 : (j : Int) < (l.length : Int) := by omega
      rcases HB.out.but B1.out with h0 | ⟨bb, bo, rfl, hbg, hbb, hcell⟩
      · rw [h0] at hlt; simp at hlt
      have d := hcell j hlt
      clear hcell
      have HT : Hid (l.take (j + 1) = l.take j ++ [l.getD j 0]) := Lib.hid (by rw [List.take_succ_eq_append_getElem hlt]; simp [hlt])
      have HLN : Hid ((P ++ l.take j).length = P.length + j) := Lib.hid (by simp; omega)
      generalize l.getD j 0 = x at *
      have PA : Hid (∀ w' a, KnifeAt w' k g b r pv L1 → bytesOff w' g b a [x] → Calls Tryd.prog 41 #[.pointer (some ⟨k, 0, none⟩), .slice a 1 1] w' fun e w'' => e = .returned (.int .u64 (U (ofW r.poly (slides L1 [x])))) ∧ KnifeAt w'' k g b r pv (slides L1 [x]) ∧ But2 g b w' w'') := Lib.hid (fun w' a hk hb => kpush_any k g b r pv L1 a [x] 1 w' hk (Nat.le_refl 1) (by simp) hb)
      have PE : Hid (∀ w', Calls Tryd.prog 40 #[.agg #[.int .i64 (r.least : Int), .int .i64 (r.most : Int), .int .i64 (r.bits : Int), .int .u64 (U r.poly)], .int .i64 (IntKind.i64.wrap (IntKind.i64.wrap ((P.length : Int) + (j : Int)) + 1)), .int .u64 (U (ofW r.poly (slides L1 [x])))] w' fun e w'' => e = .returned (.bool (r.stop (P ++ l.take (j + 1)))) ∧ Below w'.heap.size w' w'') := Lib.hid (fun w' => by
        have hw : IntKind.i64.wrap (IntKind.i64.wrap ((P.length : Int) + (j : Int)) + 1) = ((P.length + j + 1 : Nat) : Int) := by rw [IntKind.wrap_i64, IntKind.wrap_i64]; omega
        rw [hw]
        have := ends_any r K1.out.ok (P.length + j + 1) (ofW r.poly (slides L1 [x])) w'
        have e2 := stop_of_window r K1.out.ok (fitW_slide F1.out x)
        rw [List.append_assoc, ← HT.out] at e2
        have e3 : (P ++ l.take (j + 1)).length = P.length + j + 1 := by simp; omega
        rw [e3] at e2
        have e4 : slides L1 [x] = slide L1 x := rfl
        rw [e4, ← e2]
        rw [e4] at this
        exact this)
      generalize hst : r.stop (P ++ l.take (j + 1)) = st at *
      have HST := Lib.hid hst
      clear hst
      generalize ofW r.poly (slides L1 [x]) = S at *
      obtain ⟨c0, c1, c2, c3, c4, -⟩ := kn_cells K1.out.kn
      clear c0
      go_wp2_with fail
      go_region_held3 (fun w' => w'.cell? ⟨k, 1, none⟩ = some (.int .i64 (r.least : Int)) ∧ w'.cell? ⟨k, 2, none⟩ = some (.int .i64 (r.most : Int)) ∧ w'.cell? ⟨k, 3, none⟩ = some (.int .i64 (r.bits : Int)) ∧ w'.cell? ⟨k, 4, none⟩ = some (.int .u64 (U r.poly)))
        (first | assumption | go_keep)
        (first
        | (go_at_call 40
           with_reducible refine (PE.out _).mono ?_
           rintro e w3 ⟨rfl, hb3⟩
           have K3 := Lib.hid (K2.out.below hb3)
           have B3 := Lib.hid (B2.out.trans (But2.of_below hb3))
           obtain ⟨-, s1, s2, s3, s4, -⟩ := kn_cells K3.out.kn
           clear hb3)
        | (go_at_call 41
           with_reducible refine (PA.out _ _ ?_ ?_).mono ?_
           · exact K1.out.below ((Below.refl _ _).alloc (Nat.le_refl _) _).drew
           · exact (one_off K1.out.roll.lt.1 K1.out.roll.lt.2 _).but ((But2.refl _ _ _).drew)
           rintro e w2 ⟨rfl, hk2, hb2⟩
           have K2 := Lib.hid hk2
           have B2 := Lib.hid (B1.out.trans ((But2.of_below ((Below.refl _ _).alloc (Nat.le_refl _) _).drew).trans hb2))
           obtain ⟨-, s1, s2, s3, s4, -⟩ := kn_cells hk2.kn
           clear hk2 hb2))
      clear c1 c2 c3 c4 s1 s2 s3 s4 d PA PE K2 B2
      have F3 : Hid (fitW (slides L1 [x]) (P ++ l.take (j + 1))) := Lib.hid (by
        have := fitW_slide F1.out x
        rw [List.append_assoc, ← HT.out] at this
        exact this)
      cases st with
      | true =>
        have HR : Hid (r.reach P l = (j + 1, true)) := Lib.hid (r.reach_hit P l j hlt HG.out HST.out)
        go_wp2_with fail
        go_ret2
        rw [HR.out]
        exact ⟨by simp, _, K3.out, F3.out, B3.out⟩
      | false =>
        go_wp2_with fail
        go_roundw
        case rel =>
          refine ⟨j + 1, by omega, by go_num, fun i hi => ?_, _, K3, F3, B3⟩
          rcases Nat.lt_or_ge i j with h | h
          · exact HG.out i h
          · obtain rfl : i = j := by omega
            exact HST.out
        case measure => simp [intOf]; omega
    · obtain rfl : j = l.length := by omega
      have HR : Hid (r.reach P l = (l.length, false)) := Lib.hid (r.reach_end P l HG.out)
      go_wp2_with fail
      go_ret2
      rw [HR.out]
      exact ⟨rfl, _, K1.out, F1.out, B1.out⟩
end Go.Proofs.YtaohbpmefcdipaaDoor.Ct
