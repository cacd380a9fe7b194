/- The document's IsName and Check. -/
import Derived.Test.YtjgmhaajcglpmaaNt
namespace Go.Proofs.Ytjgmhaajcglpmaa
open Go.RowKit

theorem str_index (l : List UInt8) (j : Nat) (hj : j < l.length) (w : World) : (Instr.index 9 (.string (str l)) (.int .i64 (j : Int))).run Try.prog w = .ok (.int .u8 (V (l.getD j 0))) w := by
  have hs := str_size l
  rw [run_index_string w 9 (str l) .i64 (j : Int) Try.underlying9, dif_pos (by omega)]
  simp [str, V, hj]
  rfl
theorem eq_id_op {w : World} {ops : Array Oper} {rest : List Oper} {o : Oper} {a : Act} {Q : Exit → Act → World → Prop} (hw : Region.wanted o (yielded ops a.tmps) = true) (x y : Operand) (ho : o.op = .binOp .eql 24 x y 24)
    (A B : List Value) (hx : a.eval x = .agg A.toArray) (hy : a.eval y = .agg B.toArray) (r : Bool) (hr : (binOp .eql 24 (.agg A.toArray) (.agg B.toArray)).run Try.prog w = .ok (.bool r) w)
    (h : wpList Try.prog ops Q rest (a.put o.dst (.bool r)) w) : wpList Try.prog ops Q (o :: rest) a w := by
  refine BigFrame.wpList_want hw fun K hK => ?_
  unfold Oper.wp execOp
  simp only [ho, hx, hy, Sem.run_bind, hr, run_eqGuard_agg _ _ _ _ _ _ _ egt_id, Result.andThen_ok, Sem.run_pure]
  exact hK _ _ h
set_option maxRecDepth 100000 in
set_option maxHeartbeats 4000000 in
theorem refIsName_any (l : List UInt8) (w : World) :
    Calls Try.prog 15 #[.string (str l)] w fun e w' => e = .returned (.bool (nameOk l)) ∧ w = w' := by
  have hs := str_size l
  have hem := str_empty l
  have e1 : ((str l).toList == [46]) = decide (l = [46]) := str_is l [46]
  have e2 : ((str l).toList == [46, 46]) = decide (l = [46, 46]) := str_is l [46, 46]
  obtain ⟨R, hR⟩ : ∃ R, R = nameOk l := ⟨_, rfl⟩
  rw [← hR]
  have HR := Lib.hid hR
  clear hR
  by_cases h0 : l = []
  · have HF : Hid (R = false) := Lib.hid (by rw [HR.out]; simp [nameOk, h0])
    have d0 : decide (l = []) = true := by simp [h0]
    rw [d0] at hem
    clear h0
    go_enter Try.func15, Try.ntmps15
    go_wp2_with fail
    go_ret
    exact ⟨by rw [HF.out]; rfl, rfl⟩
  · have d0 : decide (l = []) = false := by simp [h0]
    rw [d0] at hem
    by_cases h1 : 255 < l.length
    · have HF : Hid (R = false) := Lib.hid (by rw [HR.out]; simp [nameOk]; omega)
      have q1 : (255 : Int) < (l.length : Int) := by omega
      clear h0 h1
      go_enter Try.func15, Try.ntmps15
      go_wp2_with fail
      go_ret
      exact ⟨by rw [HF.out]; rfl, rfl⟩
    · have q1 : ¬ (255 : Int) < (l.length : Int) := by omega
      by_cases h2 : l = [46]
      · have HF : Hid (R = false) := Lib.hid (by rw [HR.out]; simp [nameOk, h2])
        have d1 : decide (l = [46]) = true := by simp [h2]
        rw [d1] at e1
        clear h0 h2
        go_enter Try.func15, Try.ntmps15
        go_wp2_with fail
        go_ret
        exact ⟨by rw [HF.out]; rfl, rfl⟩
      · have d1 : decide (l = [46]) = false := by simp [h2]
        rw [d1] at e1
        by_cases h3 : l = [46, 46]
        · have HF : Hid (R = false) := Lib.hid (by rw [HR.out]; simp [nameOk, h3])
          have d2 : decide (l = [46, 46]) = true := by simp [h3]
          rw [d2] at e2
          clear h0 h2 h3
          go_enter Try.func15, Try.ntmps15
          go_wp2_with fail
          go_ret
          exact ⟨by rw [HF.out]; rfl, rfl⟩
        · have d2 : decide (l = [46, 46]) = false := by simp [h3]
          rw [d2] at e2
          have HF : Hid (R = !hasSep l) := Lib.hid (by rw [HR.out]; simp [nameOk, h0, h2, h3]; omega)
          clear h0 h2 h3
          go_enter Try.func15, Try.ntmps15
          go_wp2_with fail
          go_loopw [3] (fun i wr => ∃ j : Nat, j ≤ l.length ∧ i = .int .i64 j ∧ Hid (∀ t, t < j → isSep (l.getD t 0) = false) ∧ wr = w) (fun i _ => l.length - (intOf i).toNat)
          case atStart => exact ⟨0, Nat.zero_le _, rfl, Lib.hid (fun t ht => absurd ht (by omega)), rfl⟩
          case round =>
            obtain ⟨j, hj, rfl, hno, rfl⟩ := hrel
            have p0 : 0 ≤ (j : Int) := by omega
            by_cases hlt : j < l.length
            · have q0 : (j : Int) < (l.length : Int) := by omega
              have xi := str_index l j hlt
              obtain ⟨x, hx⟩ : ∃ x, x = l.getD j 0 := ⟨_, rfl⟩
              rw [← hx] at xi
              have HX := Lib.hid hx
              clear hx
              by_cases h47 : x = 47
              · have b1 : (V x == 47) = true := by rw [h47]; rfl
                have HS : Hid (hasSep l = true) := Lib.hid (sep_some hlt (by rw [← HX.out, h47]; rfl))
                clear h47
                go_wp2_with fail
                go_ret
                exact ⟨by rw [HF.out, HS.out]; rfl, rfl⟩
              · have b1 : (V x == 47) = false := by
                  simp [V]
                  intro e
                  exact h47 (UInt8.toNat_inj.1 (by have e2 : (47 : UInt8).toNat = 47 := rfl; omega))
                by_cases h00 : x = 0
                · have b2 : (V x == 0) = true := by rw [h00]; rfl
                  have HS : Hid (hasSep l = true) := Lib.hid (sep_some hlt (by rw [← HX.out, h00]; rfl))
                  clear h47 h00
                  go_wp2_with fail
                  go_ret
                  exact ⟨by rw [HF.out, HS.out]; rfl, rfl⟩
                · have b2 : (V x == 0) = false := by
                    simp [V]
                    intro e
                    exact h00 (UInt8.toNat_inj.1 (by simpa using e))
                  have HN : Hid (isSep x = false) := Lib.hid (by simp [isSep, h47, h00])
                  clear h47 h00
                  go_wp2_with fail
                  go_roundw
                  case rel => exact ⟨j + 1, by omega, by go_num, Lib.hid (fun t ht => by
                    by_cases htj : t = j
                    · subst htj; rw [← HX.out]; exact HN.out
                    · exact hno.out t (by omega)), trivial⟩
                  case measure => simp [intOf]; omega
            · obtain rfl : j = l.length := by omega
              have q0 : ¬ ((l.length : Int) < (l.length : Int)) := by omega
              have HS : Hid (hasSep l = false) := Lib.hid (sep_none hno.out)
              go_wp2_with fail
              go_ret
              exact ⟨by rw [HF.out, HS.out]; rfl, rfl⟩
set_option maxRecDepth 100000 in
set_option maxHeartbeats 8000000 in
theorem refCheck_any (n : Nd) (a : Option Addr) (c : Nat) (w : World) (ht : n.tree.length = 32) :
    Calls Try.prog 13 #[.agg (n.cells (.slice a n.parts.length c)).toArray] w fun e w' => e = .returned (.int .i64 n.check) ∧ Below w.heap.size w w' := by
  have B1 := Lib.hid ((Below.refl w.heap.size w).alloc (Nat.le_refl _) (.cells (n.cells (.slice a n.parts.length c)).toArray 26 (0, 0)))
  have HB := blockIs.new w (n.cells (.slice a n.parts.length c)) 26
  obtain ⟨c0, c1, c2, c3, c4, c5, c6⟩ := nd_block HB
  have R1 := Lib.hid (nd_tree HB)
  have H1 : Hid ((bvals n.tree).length = 32) := Lib.hid (by rw [bvals_length, ht])
  have IN := fun w => Lib.hid (refIsName_any n.name w)
  have EQ := fun w => eql_ids n.tree noughts ht rfl w
  have hg := egt_id
  have hem := str_empty n.target
  have hts := str_size n.target
  have hb0 := nat_beq0 n.parts.length
  obtain ⟨R, hR⟩ : ∃ R, R = n.check := ⟨_, rfl⟩
  rw [← hR]
  have HR := Lib.hid hR
  clear HB hR
  generalize n.cells (.slice a n.parts.length c) = cs at *
  cases q0 : nameOk n.name with
  | false =>
    rw [q0] at IN
    have HV : Hid (R = 5) := Lib.hid (by rw [HR.out]; simp [Nd.check, q0])
    go_enter Try.func13, Try.ntmps13
    go_wp2_with fail
    with_reducible refine (IN _).out.mono ?_
    rintro e w' ⟨rfl, rfl⟩
    go_wp2_with fail
    go_ret
    exact ⟨by rw [HV.out]; rfl, B1.out⟩
  | true =>
    rw [q0] at IN
    by_cases m0 : n.mode < 0
    · skip
      have HV : Hid (R = 2) := Lib.hid (by rw [HR.out]; unfold Nd.check; rw [if_pos q0, if_neg (by omega)])
      go_enter Try.func13, Try.ntmps13
      go_wp2_with fail
      with_reducible refine (IN _).out.mono ?_
      rintro e w' ⟨rfl, rfl⟩
      go_wp2_with fail
      go_ret
      exact ⟨by rw [HV.out]; rfl, B1.out⟩
    · have m0d : decide (n.mode < 0) = false := by simp; omega
      by_cases m1 : 4095 < n.mode
      · skip
        have HV : Hid (R = 2) := Lib.hid (by rw [HR.out]; unfold Nd.check; rw [if_pos q0, if_neg (by omega)])
        go_enter Try.func13, Try.ntmps13
        go_wp2_with fail
        with_reducible refine (IN _).out.mono ?_
        rintro e w' ⟨rfl, rfl⟩
        go_wp2_with fail
        go_ret
        exact ⟨by rw [HV.out]; rfl, B1.out⟩
      · by_cases t0 : n.time < 0
        · skip
          have HV : Hid (R = 2) := Lib.hid (by rw [HR.out]; unfold Nd.check; rw [if_pos q0, if_neg (by omega)])
          go_enter Try.func13, Try.ntmps13
          go_wp2_with fail
          with_reducible refine (IN _).out.mono ?_
          rintro e w' ⟨rfl, rfl⟩
          go_wp2_with fail
          go_ret
          exact ⟨by rw [HV.out]; rfl, B1.out⟩
        · have t0d : decide (n.time < 0) = false := by simp; omega
          by_cases t1 : 1099511627776 < n.time
          · skip
            have HV : Hid (R = 2) := Lib.hid (by rw [HR.out]; unfold Nd.check; rw [if_pos q0, if_neg (by omega)])
            go_enter Try.func13, Try.ntmps13
            go_wp2_with fail
            with_reducible refine (IN _).out.mono ?_
            rintro e w' ⟨rfl, rfl⟩
            go_wp2_with fail
            go_ret
            exact ⟨by rw [HV.out]; rfl, B1.out⟩
          · have HC : Hid (n.check = if n.kindOk = true then 0 else 2) := Lib.hid (by
                unfold Nd.check
                rw [if_pos q0]
                by_cases hk : n.kindOk = true
                · rw [if_pos hk, if_pos ⟨by omega, by omega, hk⟩]
                · rw [if_neg hk, if_neg (fun h => hk h.2.2)])
            rw [HC.out] at HR
            by_cases k0 : n.kind = 0
            · have HK0 := Lib.hid k0
              rw [k0] at c1
              clear k0
              cases q1 : decide (n.target = []) with
              | false =>
                rw [q1] at hem
                have HK : Hid (n.kindOk = false) := Lib.hid (by simp [Nd.kindOk, HK0.out, q1])
                have HV : Hid (R = 2) := Lib.hid (by rw [HR.out]; rw [HK.out]; rfl)
                go_enter Try.func13, Try.ntmps13
                go_wp2_with fail
                with_reducible refine (IN _).out.mono ?_
                rintro e w' ⟨rfl, rfl⟩
                go_wp2_with fail
                go_ret
                exact ⟨by rw [HV.out]; rfl, B1.out⟩
              | true =>
                rw [q1] at hem
                cases q2 : (n.tree == noughts) with
                | false =>
                  rw [q2] at EQ
                  have HK : Hid (n.kindOk = false) := Lib.hid (by unfold Nd.kindOk; rw [if_pos HK0.out, q1, q2]; rfl)
                  have HV : Hid (R = 2) := Lib.hid (by rw [HR.out]; rw [HK.out]; rfl)
                  generalize bvals n.tree = tb at *
                  go_enter Try.func13, Try.ntmps13
                  go_wp2_with fail
                  with_reducible refine (IN _).out.mono ?_
                  rintro e w' ⟨rfl, rfl⟩
                  go_wp2_with (first | (refine load_id (by rfl) _ rfl w.heap.size 7 rfl tb R1.out H1.out ?_) | (refine build_id (by rfl) rfl ?_) | (refine eq_id_op (by rfl) _ _ rfl tb (bvals noughts) rfl rfl _ (EQ _) ?_; refine Hid.out ?_))
                  refine Lib.hid ?_
                  go_wp2_with fail
                  go_ret
                  exact ⟨by rw [HV.out]; rfl, B1.out⟩
                | true =>
                  rw [q2] at EQ
                  by_cases s0 : 0 ≤ n.size
                  · by_cases s1 : n.size ≤ 1048576
                    · by_cases s2 : (n.parts.length : Int) ≤ n.size
                      · by_cases s3 : (n.parts.length = 0) ↔ n.size = 0
                        · have hy : ((decide (n.parts.length = 0)) == (n.size == 0)) = true := by
                            by_cases z1 : n.parts.length = 0
                            · have z2 := s3.1 z1
                              simp [z1, z2]
                            · have z2 : ¬ n.size = 0 := fun h => z1 (s3.2 h)
                              rw [decide_eq_false z1, show (n.size == 0) = false by simpa using z2]
                              rfl
                          have HP : Hid (decide n.partsOk = true) := Lib.hid (decide_eq_true ⟨⟨s0, s1⟩, s2, s3⟩)
                          have hx : (((n.parts.length : Int) == 0) == (n.size == 0)) = true := by rw [hb0]; exact hy
                          clear hb0 hy
                          have HK : Hid (n.kindOk = true) := Lib.hid (by unfold Nd.kindOk; rw [if_pos HK0.out, q1, q2, HP.out]; rfl)
                          have HV : Hid (R = 0) := Lib.hid (by rw [HR.out]; rw [HK.out]; rfl)
                          clear s3
                          generalize bvals n.tree = tb at *
                          go_enter Try.func13, Try.ntmps13
                          go_wp2_with fail
                          with_reducible refine (IN _).out.mono ?_
                          rintro e w' ⟨rfl, rfl⟩
                          go_wp2_with (first | (refine load_id (by rfl) _ rfl w.heap.size 7 rfl tb R1.out H1.out ?_) | (refine build_id (by rfl) rfl ?_) | (refine eq_id_op (by rfl) _ _ rfl tb (bvals noughts) rfl rfl _ (EQ _) ?_; refine Hid.out ?_))
                          refine Lib.hid ?_
                          go_wp2_with fail
                          go_ret
                          exact ⟨by rw [HV.out]; rfl, B1.out⟩
                        · have hy : ((decide (n.parts.length = 0)) == (n.size == 0)) = false := by
                            by_cases z1 : n.parts.length = 0
                            · have z2 : ¬ n.size = 0 := fun h => s3 ⟨fun _ => h, fun _ => z1⟩
                              rw [decide_eq_true z1, show (n.size == 0) = false by simpa using z2]
                              rfl
                            · have z2 : n.size = 0 := Classical.byContradiction fun h => s3 ⟨fun h2 => absurd h2 z1, fun h2 => absurd h2 h⟩
                              rw [decide_eq_false z1, z2]
                              rfl
                          have HP : Hid (decide n.partsOk = false) := Lib.hid (decide_eq_false fun h => s3 h.2.2)
                          have hx : (((n.parts.length : Int) == 0) == (n.size == 0)) = false := by rw [hb0]; exact hy
                          clear hb0 hy
                          have HK : Hid (n.kindOk = false) := Lib.hid (by unfold Nd.kindOk; rw [if_pos HK0.out, q1, q2, HP.out]; rfl)
                          have HV : Hid (R = 2) := Lib.hid (by rw [HR.out]; rw [HK.out]; rfl)
                          clear s3
                          generalize bvals n.tree = tb at *
                          go_enter Try.func13, Try.ntmps13
                          go_wp2_with fail
                          with_reducible refine (IN _).out.mono ?_
                          rintro e w' ⟨rfl, rfl⟩
                          go_wp2_with (first | (refine load_id (by rfl) _ rfl w.heap.size 7 rfl tb R1.out H1.out ?_) | (refine build_id (by rfl) rfl ?_) | (refine eq_id_op (by rfl) _ _ rfl tb (bvals noughts) rfl rfl _ (EQ _) ?_; refine Hid.out ?_))
                          refine Lib.hid ?_
                          go_wp2_with fail
                          go_ret
                          exact ⟨by rw [HV.out]; rfl, B1.out⟩
                      · have HP : Hid (decide n.partsOk = false) := Lib.hid (decide_eq_false fun h => s2 h.2.1)
                        have HK : Hid (n.kindOk = false) := Lib.hid (by unfold Nd.kindOk; rw [if_pos HK0.out, q1, q2, HP.out]; rfl)
                        have HV : Hid (R = 2) := Lib.hid (by rw [HR.out]; rw [HK.out]; rfl)
                        generalize bvals n.tree = tb at *
                        go_enter Try.func13, Try.ntmps13
                        go_wp2_with fail
                        with_reducible refine (IN _).out.mono ?_
                        rintro e w' ⟨rfl, rfl⟩
                        go_wp2_with (first | (refine load_id (by rfl) _ rfl w.heap.size 7 rfl tb R1.out H1.out ?_) | (refine build_id (by rfl) rfl ?_) | (refine eq_id_op (by rfl) _ _ rfl tb (bvals noughts) rfl rfl _ (EQ _) ?_; refine Hid.out ?_))
                        refine Lib.hid ?_
                        go_wp2_with fail
                        go_ret
                        exact ⟨by rw [HV.out]; rfl, B1.out⟩
                    · have HP : Hid (decide n.partsOk = false) := Lib.hid (decide_eq_false fun h => s1 h.1.2)
                      have HK : Hid (n.kindOk = false) := Lib.hid (by unfold Nd.kindOk; rw [if_pos HK0.out, q1, q2, HP.out]; rfl)
                      have HV : Hid (R = 2) := Lib.hid (by rw [HR.out]; rw [HK.out]; rfl)
                      generalize bvals n.tree = tb at *
                      go_enter Try.func13, Try.ntmps13
                      go_wp2_with fail
                      with_reducible refine (IN _).out.mono ?_
                      rintro e w' ⟨rfl, rfl⟩
                      go_wp2_with (first | (refine load_id (by rfl) _ rfl w.heap.size 7 rfl tb R1.out H1.out ?_) | (refine build_id (by rfl) rfl ?_) | (refine eq_id_op (by rfl) _ _ rfl tb (bvals noughts) rfl rfl _ (EQ _) ?_; refine Hid.out ?_))
                      refine Lib.hid ?_
                      go_wp2_with fail
                      go_ret
                      exact ⟨by rw [HV.out]; rfl, B1.out⟩
                  · have HP : Hid (decide n.partsOk = false) := Lib.hid (decide_eq_false fun h => s0 h.1.1)
                    have s0d : decide (0 ≤ n.size) = false := by simp; omega
                    have HK : Hid (n.kindOk = false) := Lib.hid (by unfold Nd.kindOk; rw [if_pos HK0.out, q1, q2, HP.out]; rfl)
                    have HV : Hid (R = 2) := Lib.hid (by rw [HR.out]; rw [HK.out]; rfl)
                    generalize bvals n.tree = tb at *
                    go_enter Try.func13, Try.ntmps13
                    go_wp2_with fail
                    with_reducible refine (IN _).out.mono ?_
                    rintro e w' ⟨rfl, rfl⟩
                    go_wp2_with (first | (refine load_id (by rfl) _ rfl w.heap.size 7 rfl tb R1.out H1.out ?_) | (refine build_id (by rfl) rfl ?_) | (refine eq_id_op (by rfl) _ _ rfl tb (bvals noughts) rfl rfl _ (EQ _) ?_; refine Hid.out ?_))
                    refine Lib.hid ?_
                    go_wp2_with fail
                    go_ret
                    exact ⟨by rw [HV.out]; rfl, B1.out⟩
            · by_cases k1 : n.kind = 1
              · have HK0 := Lib.hid k1
                rw [k1] at c1
                clear k0 k1
                cases q1 : decide (n.target = []) with
                | false =>
                  rw [q1] at hem
                  have HK : Hid (n.kindOk = false) := Lib.hid (by simp [Nd.kindOk, HK0.out, q1])
                  have HV : Hid (R = 2) := Lib.hid (by rw [HR.out]; rw [HK.out]; rfl)
                  go_enter Try.func13, Try.ntmps13
                  go_wp2_with fail
                  with_reducible refine (IN _).out.mono ?_
                  rintro e w' ⟨rfl, rfl⟩
                  go_wp2_with fail
                  go_ret
                  exact ⟨by rw [HV.out]; rfl, B1.out⟩
                | true =>
                  rw [q1] at hem
                  by_cases z1 : n.parts.length = 0
                  · have HZ := Lib.hid z1
                    rw [decide_eq_true z1] at hb0
                    clear z1
                    by_cases z2 : n.size = 0
                    · have z2b : (n.size == 0) = true := by simp [z2]
                      have HZ2 := Lib.hid z2
                      clear z2
                      have HK : Hid (n.kindOk = true) := Lib.hid (by have h1 := HZ.out; have h2 := HZ2.out; unfold Nd.kindOk; rw [if_neg (by rw [HK0.out]; decide), if_pos HK0.out, q1, decide_eq_true ⟨h2, h1⟩]; rfl)
                      have HV : Hid (R = 0) := Lib.hid (by rw [HR.out]; rw [HK.out]; rfl)
                      go_enter Try.func13, Try.ntmps13
                      go_wp2_with fail
                      with_reducible refine (IN _).out.mono ?_
                      rintro e w' ⟨rfl, rfl⟩
                      go_wp2_with fail
                      go_ret
                      exact ⟨by rw [HV.out]; rfl, B1.out⟩
                    · have z2b : (n.size == 0) = false := by simpa using z2
                      have HZ2 := Lib.hid z2
                      clear z2
                      have HK : Hid (n.kindOk = false) := Lib.hid (by unfold Nd.kindOk; rw [if_neg (by rw [HK0.out]; decide), if_pos HK0.out, q1, decide_eq_false fun h => HZ2.out h.1]; rfl)
                      have HV : Hid (R = 2) := Lib.hid (by rw [HR.out]; rw [HK.out]; rfl)
                      go_enter Try.func13, Try.ntmps13
                      go_wp2_with fail
                      with_reducible refine (IN _).out.mono ?_
                      rintro e w' ⟨rfl, rfl⟩
                      go_wp2_with fail
                      go_ret
                      exact ⟨by rw [HV.out]; rfl, B1.out⟩
                  · have HZ := Lib.hid z1
                    rw [decide_eq_false z1] at hb0
                    clear z1
                    have HK : Hid (n.kindOk = false) := Lib.hid (by unfold Nd.kindOk; rw [if_neg (by rw [HK0.out]; decide), if_pos HK0.out, q1, decide_eq_false fun h => HZ.out h.2]; rfl)
                    have HV : Hid (R = 2) := Lib.hid (by rw [HR.out]; rw [HK.out]; rfl)
                    go_enter Try.func13, Try.ntmps13
                    go_wp2_with fail
                    with_reducible refine (IN _).out.mono ?_
                    rintro e w' ⟨rfl, rfl⟩
                    go_wp2_with fail
                    go_ret
                    exact ⟨by rw [HV.out]; rfl, B1.out⟩
              · by_cases k2 : n.kind = 2
                · have HK0 := Lib.hid k2
                  rw [k2] at c1
                  clear k0 k1 k2
                  by_cases g0 : 1 ≤ n.target.length
                  · have g0i : 1 ≤ (n.target.length : Int) := by omega
                    have HT : Hid (decide (n.target = []) = false) := Lib.hid (decide_eq_false fun h => by rw [h] at g0; simp at g0)
                    by_cases g1 : n.target.length ≤ 4095
                    · have g1i : (n.target.length : Int) ≤ 4095 := by omega
                      have HG : Hid (decide (n.target.length ≤ 4095) = true) := Lib.hid (decide_eq_true g1)
                      by_cases z1 : n.parts.length = 0
                      · have HZ := Lib.hid z1
                        rw [decide_eq_true z1] at hb0
                        clear z1
                        by_cases z2 : n.size = 0
                        · have z2b : (n.size == 0) = true := by simp [z2]
                          have HZ2 := Lib.hid z2
                          clear z2
                          cases q2 : (n.tree == noughts) with
                          | false =>
                            rw [q2] at EQ
                            have HK : Hid (n.kindOk = false) := Lib.hid (by unfold Nd.kindOk; rw [if_neg (by rw [HK0.out]; decide), if_neg (by rw [HK0.out]; decide), if_pos HK0.out, q2, HT.out, HG.out]; rfl)
                            have HV : Hid (R = 2) := Lib.hid (by rw [HR.out]; rw [HK.out]; rfl)
                            generalize bvals n.tree = tb at *
                            go_enter Try.func13, Try.ntmps13
                            go_wp2_with fail
                            with_reducible refine (IN _).out.mono ?_
                            rintro e w' ⟨rfl, rfl⟩
                            go_wp2_with (first | (refine load_id (by rfl) _ rfl w.heap.size 7 rfl tb R1.out H1.out ?_) | (refine build_id (by rfl) rfl ?_) | (refine eq_id_op (by rfl) _ _ rfl tb (bvals noughts) rfl rfl _ (EQ _) ?_; refine Hid.out ?_))
                            refine Lib.hid ?_
                            go_wp2_with fail
                            go_ret
                            exact ⟨by rw [HV.out]; rfl, B1.out⟩
                          | true =>
                            rw [q2] at EQ
                            have HK : Hid (n.kindOk = true) := Lib.hid (by have h1 := HZ.out; have h2 := HZ2.out; unfold Nd.kindOk; rw [if_neg (by rw [HK0.out]; decide), if_neg (by rw [HK0.out]; decide), if_pos HK0.out, q2, HT.out, HG.out, decide_eq_true ⟨h2, h1⟩]; rfl)
                            have HV : Hid (R = 0) := Lib.hid (by rw [HR.out]; rw [HK.out]; rfl)
                            generalize bvals n.tree = tb at *
                            go_enter Try.func13, Try.ntmps13
                            go_wp2_with fail
                            with_reducible refine (IN _).out.mono ?_
                            rintro e w' ⟨rfl, rfl⟩
                            go_wp2_with (first | (refine load_id (by rfl) _ rfl w.heap.size 7 rfl tb R1.out H1.out ?_) | (refine build_id (by rfl) rfl ?_) | (refine eq_id_op (by rfl) _ _ rfl tb (bvals noughts) rfl rfl _ (EQ _) ?_; refine Hid.out ?_))
                            refine Lib.hid ?_
                            go_wp2_with fail
                            go_ret
                            exact ⟨by rw [HV.out]; rfl, B1.out⟩
                        · have z2b : (n.size == 0) = false := by simpa using z2
                          have HZ2 := Lib.hid z2
                          clear z2
                          have HK : Hid (n.kindOk = false) := Lib.hid (by unfold Nd.kindOk; rw [if_neg (by rw [HK0.out]; decide), if_neg (by rw [HK0.out]; decide), if_pos HK0.out, decide_eq_false (p := n.size = 0 ∧ n.parts.length = 0) fun h => HZ2.out h.1]; simp)
                          have HV : Hid (R = 2) := Lib.hid (by rw [HR.out]; rw [HK.out]; rfl)
                          go_enter Try.func13, Try.ntmps13
                          go_wp2_with fail
                          with_reducible refine (IN _).out.mono ?_
                          rintro e w' ⟨rfl, rfl⟩
                          go_wp2_with fail
                          go_ret
                          exact ⟨by rw [HV.out]; rfl, B1.out⟩
                      · have HZ := Lib.hid z1
                        rw [decide_eq_false z1] at hb0
                        clear z1
                        have HK : Hid (n.kindOk = false) := Lib.hid (by unfold Nd.kindOk; rw [if_neg (by rw [HK0.out]; decide), if_neg (by rw [HK0.out]; decide), if_pos HK0.out, decide_eq_false (p := n.size = 0 ∧ n.parts.length = 0) fun h => HZ.out h.2]; simp)
                        have HV : Hid (R = 2) := Lib.hid (by rw [HR.out]; rw [HK.out]; rfl)
                        go_enter Try.func13, Try.ntmps13
                        go_wp2_with fail
                        with_reducible refine (IN _).out.mono ?_
                        rintro e w' ⟨rfl, rfl⟩
                        go_wp2_with fail
                        go_ret
                        exact ⟨by rw [HV.out]; rfl, B1.out⟩
                    · have g1i : ¬ (n.target.length : Int) ≤ 4095 := by omega
                      have HG : Hid (decide (n.target.length ≤ 4095) = false) := Lib.hid (decide_eq_false g1)
                      have HK : Hid (n.kindOk = false) := Lib.hid (by unfold Nd.kindOk; rw [if_neg (by rw [HK0.out]; decide), if_neg (by rw [HK0.out]; decide), if_pos HK0.out, HG.out]; simp)
                      have HV : Hid (R = 2) := Lib.hid (by rw [HR.out]; rw [HK.out]; rfl)
                      go_enter Try.func13, Try.ntmps13
                      go_wp2_with fail
                      with_reducible refine (IN _).out.mono ?_
                      rintro e w' ⟨rfl, rfl⟩
                      go_wp2_with fail
                      go_ret
                      exact ⟨by rw [HV.out]; rfl, B1.out⟩
                  · have g0i : decide (1 ≤ (n.target.length : Int)) = false := by simp; omega
                    have HT : Hid (decide (n.target = []) = true) := Lib.hid (decide_eq_true (List.eq_nil_of_length_eq_zero (by omega)))
                    have g0j : ¬ 1 ≤ (n.target.length : Int) := by omega
                    have HK : Hid (n.kindOk = false) := Lib.hid (by unfold Nd.kindOk; rw [if_neg (by rw [HK0.out]; decide), if_neg (by rw [HK0.out]; decide), if_pos HK0.out, HT.out]; rfl)
                    have HV : Hid (R = 2) := Lib.hid (by rw [HR.out]; rw [HK.out]; rfl)
                    go_enter Try.func13, Try.ntmps13
                    go_wp2_with fail
                    with_reducible refine (IN _).out.mono ?_
                    rintro e w' ⟨rfl, rfl⟩
                    go_wp2_with fail
                    go_ret
                    exact ⟨by rw [HV.out]; rfl, B1.out⟩
                · have b0 : (n.kind == 0) = false := by simpa using k0
                  have b1 : (n.kind == 1) = false := by simpa using k1
                  have b2 : (n.kind == 2) = false := by simpa using k2
                  have HK : Hid (n.kindOk = false) := Lib.hid (by unfold Nd.kindOk; rw [if_neg k0, if_neg k1, if_neg k2])
                  have HV : Hid (R = 2) := Lib.hid (by rw [HR.out]; rw [HK.out]; rfl)
                  clear k0 k1 k2
                  go_enter Try.func13, Try.ntmps13
                  go_wp2_with fail
                  with_reducible refine (IN _).out.mono ?_
                  rintro e w' ⟨rfl, rfl⟩
                  go_wp2_with fail
                  go_ret
                  exact ⟨by rw [HV.out]; rfl, B1.out⟩
end Go.Proofs.Ytjgmhaajcglpmaa
