/- The law's own nodes, to and fro; few; one link's bytes. -/
import Derived.Test.YtjgmhaajcglpmaaNb2
namespace Go.Proofs.Ytjgmhaajcglpmaa
open Go.RowKit

theorem idsIn.form {w : World} {v : Value} {P : List (List UInt8)} (h : idsIn w v P) : ∃ a c, v = .slice a P.length c := by
  obtain ⟨a, c, e, -⟩ := h
  exact ⟨a, c, e⟩
theorem ndIn.form {w : World} {b o : Nat} {n : Nd} (h : ndIn w b o n) : ∃ pa pc, n.Wf ∧ idsIn w (.slice pa n.parts.length pc) n.parts ∧ w.rangeAt b o (n.cells (.slice pa n.parts.length pc)) := by
  obtain ⟨h0, pv, h1, h2⟩ := h
  obtain ⟨pa, pc, rfl⟩ := h1.form
  exact ⟨pa, pc, h0, h1, h2⟩
theorem alloc_below2 (w : World) (cs : List Value) (t : TypeId) : Below w.heap.size w (w.alloc (.cells cs.toArray t)) := alloc_below w _
set_option maxRecDepth 100000 in
set_option maxHeartbeats 4000000 in
theorem from_any (a : Option Addr) (c : Nat) (L : List Nd) (w : World) (hl : L.length ≤ 100000) (h : rowN w a L) :
    Calls Try.prog 20 #[.slice a L.length c] w fun e w' => (∃ v, e = .returned v ∧ ownN w' w.heap.size 26 v L) ∧ Below w.heap.size w w' := by
  have H := Lib.hid h
  clear h
  go_enter Try.func20, Try.ntmps20
  go_wp2_with fail
  go_loopw [4, 3] (fun i v wr => ∃ j : Nat, j ≤ L.length ∧ i = .int .i64 j ∧ Hid (ownN wr w.heap.size 26 v (L.take j)) ∧ Hid (Below w.heap.size w wr)) (fun i _ _ => L.length - (intOf i).toNat)
  case atStart => exact ⟨0, Nat.zero_le _, rfl, Lib.hid (ownN.nil _ _ _), Lib.hid (Below.refl _ _)⟩
  case round =>
    obtain ⟨j, hj, rfl, OR, BR⟩ := hrel
    have p0 : 0 ≤ (j : Int) := by omega
    by_cases hlt : j < L.length
    · have q0 : (j : Int) < (L.length : Int) := by omega
      obtain ⟨b, o, rfl, hn⟩ := (H.out.below BR.out (Nat.le_refl _)).at j hlt
      have hn0 := H.out.at j hlt
      have HTK : Hid (L.take (j + 1) = L.take j ++ [L[j]]) := Lib.hid (List.take_succ_eq_append_getElem hlt)
      have HTL : Hid ((L.take j).length ≤ 1000000) := Lib.hid (by rw [List.length_take]; omega)
      generalize L[j] = n at *
      obtain ⟨pa, pc, wf, hid, hr⟩ := hn.form
      have HSF : Hid (∀ w', safe w' w.heap.size (.slice pa n.parts.length pc) ∧ (Below w.heap.size w w' → idsIn w' (.slice pa n.parts.length pc) n.parts)) := Lib.hid (by
        obtain ⟨b', o', e', hn1⟩ := hn0
        cases e'
        obtain ⟨pa', pc', -, hid', hr'⟩ := hn1.form
        have e1 := range_below hr' BR.out (Nat.le_refl _) 6 _ rfl
        have e2 := hr 6 _ rfl
        rw [e1] at e2
        injection e2 with e2
        injection e2 with g1 g2 g3
        subst g1 g3
        exact fun w' => ⟨old_safe hid' (Nat.le_refl _) w', fun hb => hid'.below hb (Nat.le_refl _)⟩)
      have R1 := Lib.hid hr
      have WF := Lib.hid wf
      clear hn hn0 wf hid hr
      have HCL := Lib.hid (n.cells_length (.slice pa n.parts.length pc) WF.out.tree)
      have HC1 := Lib.hid (cells_one n (.slice pa n.parts.length pc) rfl)
      have HZ := Lib.hid (zeroNd.cells_length (.slice none 0 0) rfl)
      have hz := zero_nd
      have BN := build_R n (.slice pa n.parts.length pc) rfl WF.out.tree
      have HTL2 : Hid ((bvals n.tree).length = 32) := Lib.hid (by rw [bvals_length, WF.out.tree])
      generalize hcs : n.cells (.slice pa n.parts.length pc) = cs at *
      have HCS := Lib.hid hcs
      clear hcs
      generalize zeroNd.cells (.slice none 0 0) = zs at *
      go_wp2_with (first | (refine load_nd (by rfl) _ rfl b (o + j * 39) rfl cs R1.out HCL.out ?_) | (refine store_new 33 info_nd rfl _ _ rfl cs zs rfl rfl HCL.out HZ.out HC1.out ?_))
      intro w5 h1 h2
      have O5 := Lib.hid (OR.out.below h2.out)
      have B5 := Lib.hid (BR.out.trans (h2.out.mono BR.out.size))
      have hbk := h1.out
      rw [← HCS.out] at hbk
      obtain ⟨c0, c1, c2, c3, c4, c5, c6⟩ := nd_block hbk
      have R7 := Lib.hid (nd_tree hbk)
      clear h1 h2 hz R1 OR BR hbk
      generalize wr.heap.size = g at *
      have A6 := Lib.hid (alloc_below w5 (.cells cs.toArray 26 (0, 0)))
      have O6 := Lib.hid (O5.out.below A6.out)
      have B6 := Lib.hid (B5.out.trans (A6.out.mono B5.out.size))
      have HB6 : Hid (blockIs (w5.alloc (.cells cs.toArray 26 (0, 0))) w5.heap.size (n.cells (.slice pa n.parts.length pc)) 26) := Lib.hid (by rw [HCS.out]; exact blockIs.new w5 cs _)
      generalize bvals n.tree = tb at *
      go_wp2_with (first | (refine load_id (by rfl) _ rfl g 7 rfl tb R7.out HTL2.out ?_) | (refine build_op (by rfl) 26 _ _ _ _ _ _ _ _ rfl (.string (str n.name)) (.int .i64 n.kind) (.int .i64 n.mode) (.int .i64 n.time) (.int .i64 n.size) (.string (str n.target)) (.slice pa n.parts.length pc) (.agg tb.toArray) rfl rfl rfl rfl rfl rfl rfl rfl (.agg cs.toArray) (BN _) ?_) | (refine build_one (by rfl) 26 29 ntR _ rfl cs HCL.out rfl ?_) | (at_builtin; refine Hid.out ?_))
      refine Lib.hid ?_
      refine append_nd (by rfl) 26 29 ntR _ _ rfl w.heap.size u3 (L.take j) rfl O6.out w5.heap.size 1 n (.slice pa n.parts.length pc) rfl HB6.out WF.out ((HSF.out _).2 B6.out) (HSF.out _).1 rfl HTL.out B6.out.size ?_
      intro v' w7 o7 _ b7
      have o7 := o7.out
      rw [← HTK.out] at o7
      have O7 := Lib.hid o7
      have B7 := Lib.hid (B6.out.trans (b7.out.mono (Nat.le_refl _)))
      clear o7 b7 O6 B6 HB6 A6 R7 BN c0 c1 c2 c3 c4 c5 c6
      go_wp2_with fail
      go_roundw
      case rel => exact ⟨j + 1, by omega, by go_num, O7, B7⟩
      case measure => simp [intOf]; omega
    · obtain rfl : j = L.length := by omega
      rw [List.take_length] at OR
      have q0 : ¬ ((L.length : Int) < (L.length : Int)) := by omega
      go_wp2_with fail
      go_ret
      exact ⟨⟨_, rfl, OR.out⟩, BR.out⟩
def fewOk (n : Nd) : Bool := decide (n.parts.length ≤ 300) && decide (n.target.length < 10000)
def fewL (L : List Nd) : List Nd := (L.take 60).filter fewOk
theorem few_take (L : List Nd) (j : Nat) (h : j < L.length) : (L.take (j + 1)).filter fewOk = if fewOk L[j] = true then (L.take j).filter fewOk ++ [L[j]] else (L.take j).filter fewOk := by
  rw [List.take_succ_eq_append_getElem h, List.filter_append]
  by_cases q : fewOk L[j] = true <;> simp [q]
set_option maxRecDepth 100000 in
set_option maxHeartbeats 4000000 in
theorem few_any (a : Option Addr) (c : Nat) (L : List Nd) (w : World) (hl : L.length ≤ 9223372036854775807) (h : rowN w a L) :
    Calls Try.prog 16 #[.slice a L.length c] w fun e w' => (∃ v, e = .returned v ∧ ownN w' w.heap.size 26 v (fewL L)) ∧ Below w.heap.size w w' := by
  have H := Lib.hid h
  clear h
  go_enter Try.func16, Try.ntmps16
  go_wp2_with fail
  go_loopw [4, 3] (fun i v wr => ∃ j : Nat, j ≤ L.length ∧ j ≤ 60 ∧ i = .int .i64 j ∧ Hid (ownN wr w.heap.size 26 v ((L.take j).filter fewOk)) ∧ Hid (Below w.heap.size w wr)) (fun i _ _ => 60 - (intOf i).toNat)
  case atStart => exact ⟨0, Nat.zero_le _, by omega, rfl, Lib.hid (ownN.nil _ _ _), Lib.hid (Below.refl _ _)⟩
  case round =>
    obtain ⟨j, hj, h60, rfl, OR, BR⟩ := hrel
    have p0 : 0 ≤ (j : Int) := by omega
    by_cases hlt : j < L.length
    · have q0 : (j : Int) < (L.length : Int) := by omega
      by_cases hlt6 : j < 60
      · have q6 : (j : Int) < 60 := by omega
        obtain ⟨b, o, rfl, hn⟩ := H.out.at j hlt
        have HTK := Lib.hid (few_take L j hlt)
        have HTL : Hid (((L.take j).filter fewOk).length ≤ 1000000) := Lib.hid (Nat.le_trans (List.length_filter_le _ _) (by rw [List.length_take]; omega))
        generalize L[j] = n at *
        obtain ⟨pa, pc, wf, hid, hr⟩ := hn.form
        have HSF : Hid (∀ w', safe w' w.heap.size (.slice pa n.parts.length pc) ∧ (Below w.heap.size w w' → idsIn w' (.slice pa n.parts.length pc) n.parts)) := Lib.hid (fun w' => ⟨old_safe hid (Nat.le_refl _) w', fun hb => hid.below hb (Nat.le_refl _)⟩)
        have R1 := Lib.hid (range_below hr BR.out (Nat.le_refl _))
        have c6 := R1.out 6 _ rfl
        have c5 := R1.out 5 _ rfl
        have WF := Lib.hid wf
        clear hn wf hid hr
        have hts := str_size n.target
        have HCL := Lib.hid (n.cells_length (.slice pa n.parts.length pc) WF.out.tree)
        by_cases h3 : n.parts.length ≤ 300
        · have h3i : (n.parts.length : Int) ≤ 300 := by omega
          by_cases h4 : n.target.length < 10000
          · have h4i : (n.target.length : Int) < 10000 := by omega
            have hq : fewOk n = true := by simp [fewOk, h3, h4]
            rw [if_pos hq] at HTK
            have A6 := Lib.hid (alloc_below wr (.cells (n.cells (.slice pa n.parts.length pc)).toArray 26 (0, 0)))
            have O6 := Lib.hid (OR.out.below A6.out)
            have B6 := Lib.hid (BR.out.trans (A6.out.mono BR.out.size))
            have HB6 := Lib.hid (blockIs.new wr (n.cells (.slice pa n.parts.length pc)) 26)
            generalize hcs : n.cells (.slice pa n.parts.length pc) = cs at *
            have HCS := Lib.hid hcs
            clear hcs h3 h4 hq
            go_wp2_with (first | (refine load_rn (by rfl) _ rfl b (o + j * 39) rfl cs R1.out HCL.out ?_) | (refine build_one (by rfl) 26 29 ntR _ rfl cs HCL.out rfl ?_; refine Hid.out ?_))
            refine Lib.hid ?_
            rw [← HCS.out] at HB6
            refine append_nd (by rfl) 26 29 ntR _ _ rfl w.heap.size u3 ((L.take j).filter fewOk) rfl O6.out wr.heap.size 1 n (.slice pa n.parts.length pc) rfl (by rw [← HCS.out]; exact HB6.out) WF.out ((HSF.out _).2 B6.out) (HSF.out _).1 rfl HTL.out B6.out.size ?_
            intro v' w7 o7 _ b7
            have o7 := o7.out
            rw [← HTK.out] at o7
            have O7 := Lib.hid o7
            have B7 := Lib.hid (B6.out.trans (b7.out.mono (Nat.le_refl _)))
            clear o7 b7 O6 B6 HB6 A6
            go_wp2_with fail
            go_roundw
            case rel => exact ⟨j + 1, by omega, by omega, by go_num, O7, B7⟩
            case measure => simp [intOf]; omega
          · have h4i : ¬ (n.target.length : Int) < 10000 := by omega
            have hq : ¬ fewOk n = true := by simp [fewOk, h4]
            rw [if_neg hq] at HTK
            rw [← HTK.out] at OR
            clear h3 h4 hq
            go_wp2_with fail
            go_roundw
            case rel => exact ⟨j + 1, by omega, by omega, by go_num, OR, BR⟩
            case measure => simp [intOf]; omega
        · have h3i : ¬ (n.parts.length : Int) ≤ 300 := by omega
          have hq : ¬ fewOk n = true := by simp [fewOk, h3]
          rw [if_neg hq] at HTK
          rw [← HTK.out] at OR
          clear h3 hq
          go_wp2_with fail
          go_roundw
          case rel => exact ⟨j + 1, by omega, by omega, by go_num, OR, BR⟩
          case measure => simp [intOf]; omega
      · have q6 : ¬ (j : Int) < 60 := by omega
        obtain rfl : j = 60 := by omega
        go_wp2_with fail
        go_ret
        exact ⟨⟨_, rfl, OR.out⟩, BR.out⟩
    · obtain rfl : j = L.length := by omega
      have q0 : ¬ ((L.length : Int) < (L.length : Int)) := by omega
      have HF : Hid (fewL L = (L.take L.length).filter fewOk) := Lib.hid (by unfold fewL; rw [List.take_of_length_le h60, List.take_length])
      rw [← HF.out] at OR
      go_wp2_with fail
      go_ret
      exact ⟨⟨_, rfl, OR.out⟩, BR.out⟩
end Go.Proofs.Ytjgmhaajcglpmaa
