/- The law's nodes, sorted. -/
import Derived.Test.YtjgmhaajcglpmaaNsa
import Derived.Test.YtjgmhaajcglpmaaNc
namespace Go.Proofs.Ytjgmhaajcglpmaa
open Go.RowKit

theorem join3 {α β γ : Type} {Q H : α → β → γ → World → Prop} {G : Prop} (main : (∀ x y z w, H x y z w → Q x y z w) → G) (rest : ∀ x y z w, H x y z w → Q x y z w) : G := main rest
set_option maxRecDepth 100000 in
set_option maxHeartbeats 4000000 in
theorem sorted_any (a : Option Addr) (c : Nat) (L : List Nd) (w : World) (hl : L.length ≤ 100000) (h : rowN w a L) :
    Calls Try.prog 23 #[.slice a L.length c] w fun e w' => (∃ v, e = .returned v ∧ ∃ S, S.length ≤ L.length ∧ inOrder L S ∧ ownN w' w.heap.size 26 v S) ∧ Below w.heap.size w w' := by
  have H := Lib.hid h
  clear h
  go_enter Try.func23, Try.ntmps23
  go_wp2_with fail
  go_loopw [4, 3] (fun i v wr => ∃ (j : Nat) (S : List Nd), j ≤ L.length ∧ i = .int .i64 j ∧ S.length ≤ j ∧ Hid (inOrder L S) ∧ Hid (ownN wr w.heap.size 26 v S) ∧ Hid (Below w.heap.size w wr)) (fun i _ _ => L.length - (intOf i).toNat)
  case atStart => exact ⟨0, [], Nat.zero_le _, rfl, Nat.le_refl _, Lib.hid ⟨fun n hn => absurd hn List.not_mem_nil, rfl⟩, Lib.hid (ownN.nil _ _ _), Lib.hid (Below.refl _ _)⟩
  case round =>
    obtain ⟨j, S, hj, rfl, hSj, IO, OR, BR⟩ := hrel
    have p0 : 0 ≤ (j : Int) := by omega
    by_cases hlt : j < L.length
    · have q0 : (j : Int) < (L.length : Int) := by omega
      obtain ⟨b, o, rfl, hn⟩ := H.out.at j hlt
      have HMEM := Lib.hid (List.getElem_mem hlt)
      generalize L[j] = n at *
      obtain ⟨pa, pc, wf, hid, hr⟩ := hn.form
      have HID : Hid (∀ w', Below w.heap.size w w' → idsIn w' (.slice pa n.parts.length pc) n.parts) := Lib.hid (fun w' hb => hid.below hb (Nat.le_refl _))
      have HSF := Lib.hid (old_safe hid (Nat.le_refl _))
      have R1 := Lib.hid (range_below hr BR.out (Nat.le_refl _))
      have R0 := Lib.hid hr
      have WF := Lib.hid wf
      clear hn wf hid hr
      have HCL := Lib.hid (n.cells_length (.slice pa n.parts.length pc) WF.out.tree)
      have CK := Lib.hid (refCheck_any n pa pc wr WF.out.tree)
      have N0 : Hid (∀ w', Below w.heap.size w w' → w'.cell? ⟨b, o + j * 39, none⟩ = some (.string (str n.name))) := Lib.hid (fun w' hb => range_below R0.out hb (Nat.le_refl _) 0 (.string (str n.name)) rfl)
      obtain ⟨cs, hcs⟩ : ∃ cs, cs = n.cells (.slice pa n.parts.length pc) := ⟨_, rfl⟩
      rw [← hcs] at R1 R0 HCL CK
      have HCS := Lib.hid hcs
      clear hcs
      go_wp2_with (refine load_rn (by rfl) _ rfl b (o + j * 39) rfl cs R1.out HCL.out ?_)
      with_reducible refine CK.out.mono ?_
      rintro e w2 ⟨rfl, b2⟩
      have B2 := Lib.hid (BR.out.trans (b2.mono BR.out.size))
      have O2 := Lib.hid (OR.out.below b2)
      clear b2 CK R1 OR BR
      obtain ⟨ck, hck⟩ : ∃ ck, ck = n.check := ⟨_, rfl⟩
      rw [← hck]
      have HCK := Lib.hid hck
      clear hck
      by_cases h0 : ck = 0
      · have hb0 : (ck != 0) = false := by simp [h0]
        have HC0 : Hid (n.check = 0) := Lib.hid (by rw [← HCK.out]; exact h0)
        clear h0 HCK
        go_wp2_with fail
        go_loopw [5] (fun i wx => ∃ k : Nat, k ≤ S.length ∧ i = .int .i64 k ∧ Hid (k = 0 ∨ ∃ hk' : k - 1 < S.length, Op.bytesLess S[k - 1].name n.name = true) ∧ Hid (ownN wx w.heap.size 26 u3 S) ∧ Hid (Below w.heap.size w wx)) (fun i _ => S.length - (intOf i).toNat)
        case atStart => exact ⟨0, Nat.zero_le _, rfl, Lib.hid (Or.inl rfl), O2, B2⟩
        case round =>
          clear B2 O2
          obtain ⟨k, hk, rfl, HK, OS, BS⟩ := hrel
          have pk : 0 ≤ (k : Int) := by omega
          have c2 := N0.out _ BS.out
          obtain ⟨AS, cS, Q, hv, hQ, hc1, hc2, hz, hrow, s1, s2⟩ := OS.out.open
          subst hv
          have SC1 := Lib.hid (s1 k hk)
          have SC2 := Lib.hid (s2 k hk)
          have HQ := Lib.hid hQ
          have HZ := Lib.hid hz
          have HRW := Lib.hid hrow
          clear s1 s2 hQ hz hrow
          by_cases hlk : k < S.length
          · have qk : (k : Int) < (S.length : Int) := by omega
            obtain ⟨gS, oS, rfl, hnS⟩ := HRW.out.at k hlk
            have c1 := hnS.name
            obtain ⟨NK, hNK⟩ : ∃ NK, NK = S[k].name := ⟨_, rfl⟩
            rw [← hNK] at c1
            have HNK := Lib.hid hNK
            clear hNK hnS
            obtain ⟨q, hq⟩ : ∃ q, q = Op.bytesLess NK n.name := ⟨_, rfl⟩
            have cmp : Op.bytesLess (str NK).toList (str n.name).toList = q := by rw [Lib.toList_data, Lib.toList_data, hq]; rfl
            have HQQ := Lib.hid hq
            clear hq
            obtain ⟨r, hr⟩ : ∃ r, r = (NK == n.name) := ⟨_, rfl⟩
            have cmr : ((str NK).toList == (str n.name).toList) = r := by rw [Lib.toList_data, Lib.toList_data, hr]; rfl
            have HRR := Lib.hid hr
            clear hr
            go_upto_region 7 with fail
            go_quiet (fail)
            have kd := below_drewN (Below.refl wr.heap.size wr) nq
            have B3 := Lib.hid (BS.out.trans (kd.mono BS.out.size))
            have O3 := Lib.hid (OS.out.below kd)
            have SD1 := Lib.hid (SC1.out.below kd (Nat.le_refl _))
            have SD2 := Lib.hid (SC2.out.below kd (Nat.le_refl _))
            have RW3 := Lib.hid (HRW.out.below kd (Nat.le_refl _))
            clear kd
            generalize wr.drewN nq = w3 at *
            clear c1 c2 HRW OS BS SC1 SC2
            cases q with
            | true =>
              have HK1 : Hid (k + 1 = 0 ∨ ∃ hk' : k + 1 - 1 < S.length, Op.bytesLess S[k + 1 - 1].name n.name = true) := Lib.hid (Or.inr ⟨hlk, by
                show Op.bytesLess S[k].name n.name = true
                rw [← HNK.out, ← HQQ.out]⟩)
              go_wp2_with fail
              go_roundw
              case rel => exact ⟨k + 1, by omega, by go_num, HK1, O3, B3⟩
              case measure => simp [intOf]; omega
            | false =>
              have c1 := (RW3.out.at k hlk)
              obtain ⟨gS', oS', e', hn3⟩ := c1
              cases e'
              have c1 := hn3.name
              rw [← HNK.out] at c1
              have c2 := N0.out _ B3.out
              have hne0 : ((k : Int) == (S.length : Int)) = false := by simp; omega
              clear hn3 RW3
              cases r with
              | true =>
                go_upto_region 9 with fail
                go_quiet (fail)
                have kd := below_drewN (Below.refl w3.heap.size w3) nq
                have B4 := Lib.hid (B3.out.trans (kd.mono B3.out.size))
                have O4 := Lib.hid (O3.out.below kd)
                clear kd
                generalize w3.drewN nq = w4 at *
                clear c1 c2 SD1 SD2
                go_wp2_with fail
                go_roundw
                case rel => exact ⟨j + 1, S, by omega, by go_num, by omega, IO, O4, B4⟩
                case measure => simp [intOf]; omega
              | false =>
                go_upto_region 9 with fail
                go_quiet (fail)
                have kd := below_drewN (Below.refl w3.heap.size w3) nq
                have B4 := Lib.hid (B3.out.trans (kd.mono B3.out.size))
                have O4 := Lib.hid (O3.out.below kd)
                have SD1 := Lib.hid (SD1.out.below kd (Nat.le_refl _))
                have SD2 := Lib.hid (SD2.out.below kd (Nat.le_refl _))
                clear kd
                generalize w3.drewN nq = w4 at *
                have IN4 : Hid (inOrder L (S.take k ++ [n] ++ S.drop k)) := Lib.hid (IO.out.insert n HMEM.out HC0.out k hk HK.out (Or.inr ⟨hlk, by rw [← HNK.out, ← HQQ.out], by rw [← HNK.out]; have := HRR.out; simpa using this⟩))
                have R4 := Lib.hid (range_below R0.out B4.out (Nat.le_refl _))
                clear c1 c2 IO HK HNK HQQ HRR cmp cmr O3 B3 HMEM HC0
                generalize (some ⟨gS, oS, none⟩ : Option Addr) = AS at *
                have HSL : Hid (S.length ≤ 100000) := Lib.hid (by omega)
                have HMAP : Hid ((Q.take k ++ [(n, Value.slice pa n.parts.length pc)] ++ Q.drop k).map Prod.fst = S.take k ++ [n] ++ S.drop k) := Lib.hid (by rw [← HQ.out]; simp [List.map_take, List.map_drop])
                have HLEN : Hid ((S.take k ++ [n] ++ S.drop k).length = S.length + 1) := Lib.hid (by simp only [List.length_append, List.length_take, List.length_drop, List.length_cons, List.length_nil]; omega)
                have HQL : Q.length = S.length := by rw [← HQ.out, List.length_map]
                have HTL : Hid ((Q.take k).length = k) := Lib.hid (by rw [List.length_take, HQL]; omega)
                have HDL : Hid ((Q.drop k).length = S.length - k) := Lib.hid (by rw [List.length_drop, HQL])
                have RF := run_from AS S.length cS k hk hc1
                have HZ3 : Hid ((if cS = k then AS else AS.map (fun x => x.add (k * 39))) = none → cS - k = 0) := Lib.hid (fun h => by
                  by_cases hcn : cS = k
                  · omega
                  · rw [if_neg hcn] at h
                    cases hAS : AS with
                    | none => rw [HZ.out hAS]; omega
                    | some _ => rw [hAS] at h; cases h)
                obtain ⟨A3, hA3⟩ : ∃ A3, A3 = (if cS = k then AS else AS.map (fun x => x.add (k * 39))) := ⟨_, rfl⟩
                rw [← hA3] at RF HZ3 SD2
                clear hA3 HQL
                go_upto_region 10 with fail
                have hB4 := B4.out.size
                refine wp_region_noPanic ?_
                refine wp_region_held_drew (S := fun x => Below w4.heap.size w4 x) (by kernel_rfl) (below_drewN (Below.refl w4.heap.size w4) 1) (fun hH => ?_)
                generalize w4.drew = y0 at *
                refine wpAnyH_take (i := 1) (oi := { dst := some 55, op := Op.move (Operand.tmp 3), type := 29, pos := "law.go:90", after := #[], guard := none }) (v := .slice AS S.length cS) rfl (by kernel_rfl) (by kernel_rfl) (by kernel_rfl) (fun _ _ _ h => h) (Or.inl ⟨by rfl, fun wx hS => ?_⟩) hH ?_
                · go_simp
                simp only [Act.put, List.setIfInBounds_toArray, List.set_cons_zero, List.set_cons_succ]
                refine wpAnyH_take (i := 2) (oi := { dst := some 56, op := Op.move (Operand.tmp 5), type := 3, pos := "law.go:90", after := #[], guard := none }) (v := .int .i64 (k : Int)) rfl (by kernel_rfl) (by kernel_rfl) (by kernel_rfl) (fun _ _ _ h => h) (Or.inl ⟨by rfl, fun wx hS => ?_⟩) hH ?_
                · go_simp
                simp only [Act.put, List.setIfInBounds_toArray, List.set_cons_zero, List.set_cons_succ]
                refine wpAnyH_take (i := 3) (oi := { dst := some 57, op := Op.slice 29 (Operand.tmp 55) none (some (Operand.tmp 56)) none, type := 29, pos := "law.go:90", after := #[{ on := 1, ground := Ground.data }, { on := 2, ground := Ground.data }], guard := none }) (v := .slice AS k cS) rfl (by kernel_rfl) (by kernel_rfl) (by kernel_rfl) (fun _ _ _ h => h) (Or.inl ⟨by rfl, fun wx hS => ?_⟩) hH ?_
                · have e1 := run_upto AS S.length cS k hk hc1; go_simp
                simp only [Act.put, List.setIfInBounds_toArray, List.set_cons_zero, List.set_cons_succ]
                refine wpAnyH_take (i := 5) (oi := { dst := some 59, op := Op.move (Operand.tmp 0), type := 29, pos := "law.go:90", after := #[], guard := none }) (v := .slice (some ⟨b, o, none⟩) L.length c) rfl (by kernel_rfl) (by kernel_rfl) (by kernel_rfl) (fun _ _ _ h => h) (Or.inl ⟨by rfl, fun wx hS => ?_⟩) hH ?_
                · go_simp
                simp only [Act.put, List.setIfInBounds_toArray, List.set_cons_zero, List.set_cons_succ]
                refine wpAnyH_take (i := 6) (oi := { dst := some 60, op := Op.move (Operand.tmp 4), type := 3, pos := "law.go:90", after := #[], guard := none }) (v := .int .i64 (j : Int)) rfl (by kernel_rfl) (by kernel_rfl) (by kernel_rfl) (fun _ _ _ h => h) (Or.inl ⟨by rfl, fun wx hS => ?_⟩) hH ?_
                · go_simp
                simp only [Act.put, List.setIfInBounds_toArray, List.set_cons_zero, List.set_cons_succ]
                refine wpAnyH_take (i := 7) (oi := { dst := some 61, op := Op.indexAddr 29 (Operand.tmp 59) (Operand.tmp 60), type := 0, pos := "law.go:90", after := #[{ on := 5, ground := Ground.data }, { on := 6, ground := Ground.data }], guard := none }) (v := .pointer (some ⟨b, o + j * 39, none⟩)) rfl (by kernel_rfl) (by kernel_rfl) (by kernel_rfl) (fun _ _ _ h => h) (Or.inl ⟨by rfl, fun wx hS => ?_⟩) hH ?_
                · go_simp
                simp only [Act.put, List.setIfInBounds_toArray, List.set_cons_zero, List.set_cons_succ]
                refine wpAnyH_take (i := 8) (oi := { dst := some 62, op := Op.load 26 (Operand.tmp 61), type := 26, pos := "law.go:90", after := #[{ on := 7, ground := Ground.data }], guard := none }) (v := .agg (cs).toArray) rfl (by kernel_rfl) (by kernel_rfl) (by kernel_rfl) (fun _ _ _ h => h) (yieldsIf_load_mid (by rfl) 26 _ rfl (b) (o + j * 39) rfl (cs) _ (fun wx hS => range_below R4.out hS (Nat.le_refl _)) Try.underlying26 rfl (by rw [HCL.out]; kernel_rfl)) hH ?_
                simp only [Act.put, List.setIfInBounds_toArray, List.set_cons_zero, List.set_cons_succ]
                refine wpAnyH_take (i := 11) (oi := { dst := some 65, op := Op.move (Operand.tmp 3), type := 29, pos := "law.go:90", after := #[], guard := none }) (v := .slice AS S.length cS) rfl (by kernel_rfl) (by kernel_rfl) (by kernel_rfl) (fun _ _ _ h => h) (Or.inl ⟨by rfl, fun wx hS => ?_⟩) hH ?_
                · go_simp
                simp only [Act.put, List.setIfInBounds_toArray, List.set_cons_zero, List.set_cons_succ]
                refine wpAnyH_take (i := 12) (oi := { dst := some 66, op := Op.move (Operand.tmp 5), type := 3, pos := "law.go:90", after := #[], guard := none }) (v := .int .i64 (k : Int)) rfl (by kernel_rfl) (by kernel_rfl) (by kernel_rfl) (fun _ _ _ h => h) (Or.inl ⟨by rfl, fun wx hS => ?_⟩) hH ?_
                · go_simp
                simp only [Act.put, List.setIfInBounds_toArray, List.set_cons_zero, List.set_cons_succ]
                refine wpAnyH_take (i := 13) (oi := { dst := some 67, op := Op.slice 29 (Operand.tmp 65) (some (Operand.tmp 66)) none none, type := 29, pos := "law.go:90", after := #[{ on := 11, ground := Ground.data }, { on := 12, ground := Ground.data }], guard := none }) (v := .slice A3 (S.length - k) (cS - k)) rfl (by kernel_rfl) (by kernel_rfl) (by kernel_rfl) (fun _ _ _ h => h) (Or.inl ⟨by rfl, fun wx hS => ?_⟩) hH ?_
                · have e1 := RF; go_simp
                simp only [Act.put, List.setIfInBounds_toArray, List.set_cons_zero, List.set_cons_succ]
                revert hH
                refine join3 (α := Value) (β := Nat) (γ := Nat) (Q := ?QJ16) (H := fun v4 ga gb wx => Below w4.heap.size w4 wx ∧ ownR wx w.heap.size w4.heap.size 26 v4 (Q.take k) ∧ blockIs wx gb cs 26) (fun REST => ?mainJ16) ?restJ16
                case mainJ16 =>
                  intro hH
                  refine wpAnyH_ready (rs := [0, 9]) (by kernel_rfl) (by simp) ?_
                  refine AllReadyH.cons (o := { dst := some 54, op := Op.buildSlice 29 0 #[], type := 29, pos := "law.go:90", after := #[], guard := none }) rfl (fun KK hKK => ?_) (AllReadyH.cons (o := { dst := some 63, op := Op.buildSlice 29 1 #[(0, Operand.tmp 62)], type := 29, pos := "law.go:90", after := #[{ on := 8, ground := Ground.data }], guard := none }) rfl (fun KK hKK => ?_) AllReadyH.nil)
                  · have kb := alloc_below y0 (.cells #[] 26 (0, 0))
                    have qa : ownR (y0.alloc (.cells #[] 26 (0, 0))) w.heap.size w4.heap.size 26 (.slice (some ⟨y0.heap.size, 0, none⟩) 0 0) [] := ⟨World.ownsRow_lit y0 #[] 0 hH.size (by decide) (by simp), fun q hq => absurd hq List.not_mem_nil⟩
                    have hN := hH.trans (kb.mono hH.size)
                    clear hH kb
                    go_simp
                    refine hKK.out _ _ hN (fun hH => ?_)
                    clear hKK KK hN
                    try simp only [Act.put, List.setIfInBounds_toArray, List.set_cons_zero, List.set_cons_succ]
                    generalize y0.alloc (.cells #[] 26 (0, 0)) = y1 at *
                    generalize y0.heap.size = ga at *
                    refine wpAnyH_ready (rs := [4, 9]) (by kernel_rfl) (by simp) ?_
                    refine AllReadyH.cons (o := { dst := some 58, op := Op.call { callee := Callee.builtin Builtin.append, args := #[Operand.tmp 54, Operand.tmp 57], argTypes := #[29, 29] }, type := 29, pos := "law.go:90", after := #[{ on := 0, ground := Ground.data }, { on := 3, ground := Ground.data }], guard := none }) rfl (fun KK hKK => ?_) (AllReadyH.cons (o := { dst := some 63, op := Op.buildSlice 29 1 #[(0, Operand.tmp 62)], type := 29, pos := "law.go:90", after := #[{ on := 8, ground := Ground.data }], guard := none }) rfl (fun KK hKK => ?_) AllReadyH.nil)
                    · refine step_append_rows (by rfl) 26 29 ntR _ _ rfl w.heap.size w4.heap.size hB4 (.slice (some ⟨ga, 0, none⟩) 0 0) [] rfl qa AS k cS (Q.take k) HTL.out rfl (by omega) HZ.out (SD1.out.below hH (Nat.le_refl _)) (by have := HTL.out; simp; omega) hH.size ?_
                      intro v4 y2 r4 g4 b4
                      have r4 := r4.out
                      rw [List.nil_append] at r4
                      have hN := hH.trans b4.out
                      clear hH b4 g4 qa
                      refine hKK.out _ _ hN (fun hH => ?_)
                      clear hKK KK hN
                      try simp only [Act.put, List.setIfInBounds_toArray, List.set_cons_zero, List.set_cons_succ]
                      refine wpAnyH_ready (rs := [9]) (by kernel_rfl) (by simp) ?_
                      refine AllReadyH.cons (o := { dst := some 63, op := Op.buildSlice 29 1 #[(0, Operand.tmp 62)], type := 29, pos := "law.go:90", after := #[{ on := 8, ground := Ground.data }], guard := none }) rfl (fun KK hKK => ?_) AllReadyH.nil
                      have kb := alloc_below y2 (.cells cs.toArray 26 (0, 0))
                      have qb := blockIs.new y2 cs 26
                      replace r4 := r4.below kb
                      refine step_build_one (by rfl) 26 29 ntR _ rfl cs HCL.out rfl ?_
                      have hN := hH.trans (kb.mono hH.size)
                      clear hH kb
                      refine hKK.out _ _ hN (fun hH => ?_)
                      clear hKK KK hN
                      try simp only [Act.put, List.setIfInBounds_toArray, List.set_cons_zero, List.set_cons_succ]
                      change blockIs (y2.alloc (.cells cs.toArray 26 (0, 0))) _ _ _ at qb
                      generalize y2.alloc (.cells cs.toArray 26 (0, 0)) = y3 at *
                      generalize y2.heap.size = gb at *
                      refine wpAnyH_listed (L2 := #[true, true, true, true, true, true, true, true, true, true, false, true, true, true, false, false]) (by kernel_rfl) ?_
                      exact REST v4 ga gb y3 ⟨hH, r4, qb⟩
                    · have kb := alloc_below y1 (.cells cs.toArray 26 (0, 0))
                      have qb := blockIs.new y1 cs 26
                      have hne : y1.heap.size ≠ ga := by have := (qa.1.lt ga rfl).2; omega
                      replace qa := qa.below kb
                      refine step_build_one (by rfl) 26 29 ntR _ rfl cs HCL.out rfl ?_
                      have hN := hH.trans (kb.mono hH.size)
                      clear hH kb
                      refine hKK.out _ _ hN (fun hH => ?_)
                      clear hKK KK hN
                      try simp only [Act.put, List.setIfInBounds_toArray, List.set_cons_zero, List.set_cons_succ]
                      change blockIs (y1.alloc (.cells cs.toArray 26 (0, 0))) _ _ _ at qb
                      generalize y1.alloc (.cells cs.toArray 26 (0, 0)) = y2 at *
                      generalize y1.heap.size = gb at *
                      refine wpAnyH_ready (rs := [4]) (by kernel_rfl) (by simp) ?_
                      refine AllReadyH.cons (o := { dst := some 58, op := Op.call { callee := Callee.builtin Builtin.append, args := #[Operand.tmp 54, Operand.tmp 57], argTypes := #[29, 29] }, type := 29, pos := "law.go:90", after := #[{ on := 0, ground := Ground.data }, { on := 3, ground := Ground.data }], guard := none }) rfl (fun KK hKK => ?_) AllReadyH.nil
                      refine step_append_rows (by rfl) 26 29 ntR _ _ rfl w.heap.size w4.heap.size hB4 (.slice (some ⟨ga, 0, none⟩) 0 0) [] rfl qa AS k cS (Q.take k) HTL.out rfl (by omega) HZ.out (SD1.out.below hH (Nat.le_refl _)) (by have := HTL.out; simp; omega) hH.size ?_
                      intro v4 y3 r4 g4 b4
                      have r4 := r4.out
                      rw [List.nil_append] at r4
                      replace qb : blockIs y3 gb cs 26 := by
                        have hgl := qb.lt
                        unfold blockIs at qb ⊢
                        rw [g4.out.block gb hgl (fun e => hne (by cases e; rfl))]
                        exact qb
                      have hN := hH.trans b4.out
                      clear hH b4 g4 qa
                      refine hKK.out _ _ hN (fun hH => ?_)
                      clear hKK KK hN
                      try simp only [Act.put, List.setIfInBounds_toArray, List.set_cons_zero, List.set_cons_succ]
                      refine wpAnyH_listed (L2 := #[true, true, true, true, true, true, true, true, true, true, false, true, true, true, false, false]) (by kernel_rfl) ?_
                      exact REST v4 ga gb y3 ⟨hH, r4, qb⟩
                  · have kb := alloc_below y0 (.cells cs.toArray 26 (0, 0))
                    have qb := blockIs.new y0 cs 26
                    refine step_build_one (by rfl) 26 29 ntR _ rfl cs HCL.out rfl ?_
                    have hN := hH.trans (kb.mono hH.size)
                    clear hH kb
                    refine hKK.out _ _ hN (fun hH => ?_)
                    clear hKK KK hN
                    try simp only [Act.put, List.setIfInBounds_toArray, List.set_cons_zero, List.set_cons_succ]
                    change blockIs (y0.alloc (.cells cs.toArray 26 (0, 0))) _ _ _ at qb
                    generalize y0.alloc (.cells cs.toArray 26 (0, 0)) = y1 at *
                    generalize y0.heap.size = gb at *
                    refine wpAnyH_ready (rs := [0]) (by kernel_rfl) (by simp) ?_
                    refine AllReadyH.cons (o := { dst := some 54, op := Op.buildSlice 29 0 #[], type := 29, pos := "law.go:90", after := #[], guard := none }) rfl (fun KK hKK => ?_) AllReadyH.nil
                    have kb := alloc_below y1 (.cells #[] 26 (0, 0))
                    have hgl := qb.lt
                    replace qb := qb.below kb hgl
                    have qa : ownR (y1.alloc (.cells #[] 26 (0, 0))) w.heap.size w4.heap.size 26 (.slice (some ⟨y1.heap.size, 0, none⟩) 0 0) [] := ⟨World.ownsRow_lit y1 #[] 0 hH.size (by decide) (by simp), fun q hq => absurd hq List.not_mem_nil⟩
                    have hne : gb ≠ y1.heap.size := by omega
                    clear hgl
                    have hN := hH.trans (kb.mono hH.size)
                    clear hH kb
                    go_simp
                    refine hKK.out _ _ hN (fun hH => ?_)
                    clear hKK KK hN
                    try simp only [Act.put, List.setIfInBounds_toArray, List.set_cons_zero, List.set_cons_succ]
                    generalize y1.alloc (.cells #[] 26 (0, 0)) = y2 at *
                    generalize y1.heap.size = ga at *
                    refine wpAnyH_ready (rs := [4]) (by kernel_rfl) (by simp) ?_
                    refine AllReadyH.cons (o := { dst := some 58, op := Op.call { callee := Callee.builtin Builtin.append, args := #[Operand.tmp 54, Operand.tmp 57], argTypes := #[29, 29] }, type := 29, pos := "law.go:90", after := #[{ on := 0, ground := Ground.data }, { on := 3, ground := Ground.data }], guard := none }) rfl (fun KK hKK => ?_) AllReadyH.nil
                    refine step_append_rows (by rfl) 26 29 ntR _ _ rfl w.heap.size w4.heap.size hB4 (.slice (some ⟨ga, 0, none⟩) 0 0) [] rfl qa AS k cS (Q.take k) HTL.out rfl (by omega) HZ.out (SD1.out.below hH (Nat.le_refl _)) (by have := HTL.out; simp; omega) hH.size ?_
                    intro v4 y3 r4 g4 b4
                    have r4 := r4.out
                    rw [List.nil_append] at r4
                    replace qb : blockIs y3 gb cs 26 := by
                      have hgl := qb.lt
                      unfold blockIs at qb ⊢
                      rw [g4.out.block gb hgl (fun e => hne (by cases e; rfl))]
                      exact qb
                    have hN := hH.trans b4.out
                    clear hH b4 g4 qa
                    refine hKK.out _ _ hN (fun hH => ?_)
                    clear hKK KK hN
                    try simp only [Act.put, List.setIfInBounds_toArray, List.set_cons_zero, List.set_cons_succ]
                    refine wpAnyH_listed (L2 := #[true, true, true, true, true, true, true, true, true, true, false, true, true, true, false, false]) (by kernel_rfl) ?_
                    exact REST v4 ga gb y3 ⟨hH, r4, qb⟩
                case restJ16 =>
                  rintro v4 ga gb y3 ⟨hH, r4, qb⟩
                  have BH := B4.out.trans (hH.mono B4.out.size)
                  rw [HCS.out] at qb
                  refine wpAnyH_ready (rs := [10]) (by kernel_rfl) (by simp) ?_
                  refine AllReadyH.cons (o := { dst := some 64, op := Op.call { callee := Callee.builtin Builtin.append, args := #[Operand.tmp 58, Operand.tmp 63], argTypes := #[29, 29] }, type := 29, pos := "law.go:90", after := #[{ on := 4, ground := Ground.data }, { on := 9, ground := Ground.data }, { on := 4, ground := Ground.chain }], guard := none }) rfl (fun KK hKK => ?_) AllReadyH.nil
                  refine step_append_rows (by rfl) 26 29 ntR _ _ rfl w.heap.size w4.heap.size hB4 v4 (Q.take k) rfl r4 (some ⟨gb, 0, none⟩) 1 1 [(n, .slice pa n.parts.length pc)] rfl rfl (Nat.le_refl _) (fun h => by cases h) (srcQ.one qb WF.out (HID.out _ BH) (HSF.out _)) (by have := HTL.out; simp; omega) hH.size ?_
                  intro v5 y4 r5 g5 b5
                  have r5 := r5.out
                  have hN := hH.trans b5.out
                  clear hH b5 g5 r4 qb BH
                  refine hKK.out _ _ hN (fun hH => ?_)
                  clear hKK KK hN
                  try simp only [Act.put, List.setIfInBounds_toArray, List.set_cons_zero, List.set_cons_succ]
                  refine wpAnyH_ready (rs := [14]) (by kernel_rfl) (by simp) ?_
                  refine AllReadyH.cons (o := { dst := some 68, op := Op.call { callee := Callee.builtin Builtin.append, args := #[Operand.tmp 64, Operand.tmp 67], argTypes := #[29, 29] }, type := 29, pos := "law.go:90", after := #[{ on := 10, ground := Ground.data }, { on := 13, ground := Ground.data }, { on := 10, ground := Ground.chain }], guard := none }) rfl (fun KK hKK => ?_) AllReadyH.nil
                  refine step_append_rows (by rfl) 26 29 ntR _ _ rfl w.heap.size w4.heap.size hB4 v5 (Q.take k ++ [(n, .slice pa n.parts.length pc)]) rfl r5 A3 (S.length - k) (cS - k) (Q.drop k) HDL.out rfl (by omega) HZ3.out (SD2.out.below hH (Nat.le_refl _)) (by have := HTL.out; have := HDL.out; simp only [List.length_append, List.length_cons, List.length_nil]; omega) hH.size ?_
                  intro v6 y5 r6 g6 b6
                  have r6 := r6.out
                  have hN := hH.trans b6.out
                  have hB6 := hN
                  clear hH b6 g6 r5
                  refine hKK.out _ _ hN (fun hH => ?_)
                  clear hKK KK hN
                  try simp only [Act.put, List.setIfInBounds_toArray, List.set_cons_zero, List.set_cons_succ]
                  refine wpAnyH_take (i := 15) (oi := { dst := some 3, op := Op.assign (Operand.tmp 68), type := 29, pos := "law.go:90", after := #[{ on := 14, ground := Ground.data }, { on := 14, ground := Ground.chain }, { on := 0, ground := Ground.phase }, { on := 1, ground := Ground.phase }, { on := 2, ground := Ground.phase }, { on := 3, ground := Ground.phase }, { on := 4, ground := Ground.phase }, { on := 5, ground := Ground.phase }, { on := 6, ground := Ground.phase }, { on := 7, ground := Ground.phase }, { on := 8, ground := Ground.phase }, { on := 9, ground := Ground.phase }, { on := 10, ground := Ground.phase }, { on := 11, ground := Ground.phase }, { on := 12, ground := Ground.phase }, { on := 13, ground := Ground.phase }, { on := 14, ground := Ground.phase }], guard := none }) (v := v6) rfl (by kernel_rfl) (by kernel_rfl) (by kernel_rfl) (fun _ _ _ h => h) (Or.inl ⟨by rfl, fun wx hS => ?_⟩) hH ?_
                  · go_simp
                  simp only [Act.put, List.setIfInBounds_toArray, List.set_cons_zero, List.set_cons_succ]
                  refine wpAnyH_done (by kernel_rfl) ?_ _
                  refine NoPanic.normal ?_
                  have O6 := Lib.hid (r6.weak hB4)
                  rw [HMAP.out] at O6
                  have B6 := Lib.hid (B4.out.trans (hB6.mono hB4))
                  clear r6 hH hB6 SD1 SD2 R4
                  go_wp2_with fail
                  go_roundw
                  case rel => exact ⟨j + 1, S.take k ++ [n] ++ S.drop k, by omega, by go_num, by have := HLEN.out; omega, IN4, O6, B6⟩
                  case measure => simp [intOf]; omega
          · have qk : ¬ (k : Int) < (S.length : Int) := by omega
            have hne0 : ((k : Int) == (S.length : Int)) = true := by simp; omega
            go_upto_region 7 with fail
            go_quiet (fail)
            have kd := below_drewN (Below.refl wr.heap.size wr) nq
            have B3 := Lib.hid (BS.out.trans (kd.mono BS.out.size))
            have O3 := Lib.hid (OS.out.below kd)
            have SD1 := Lib.hid (SC1.out.below kd (Nat.le_refl _))
            have SD2 := Lib.hid (SC2.out.below kd (Nat.le_refl _))
            clear kd
            generalize wr.drewN nq = w3 at *
            clear c2 HRW OS BS SC1 SC2
            go_upto_region 9 with fail
            go_quiet (fail)
            have kd := below_drewN (Below.refl w3.heap.size w3) nq
            have B4 := Lib.hid (B3.out.trans (kd.mono B3.out.size))
            have O4 := Lib.hid (O3.out.below kd)
            have SD1 := Lib.hid (SD1.out.below kd (Nat.le_refl _))
            have SD2 := Lib.hid (SD2.out.below kd (Nat.le_refl _))
            clear kd
            generalize w3.drewN nq = w4 at *
            have IN4 : Hid (inOrder L (S.take k ++ [n] ++ S.drop k)) := Lib.hid (IO.out.insert n HMEM.out HC0.out k hk HK.out (Or.inl (by omega)))
            have R4 := Lib.hid (range_below R0.out B4.out (Nat.le_refl _))
            clear IO HK O3 B3 HMEM HC0
            have HSL : Hid (S.length ≤ 100000) := Lib.hid (by omega)
            have HMAP : Hid ((Q.take k ++ [(n, Value.slice pa n.parts.length pc)] ++ Q.drop k).map Prod.fst = S.take k ++ [n] ++ S.drop k) := Lib.hid (by rw [← HQ.out]; simp [List.map_take, List.map_drop])
            have HLEN : Hid ((S.take k ++ [n] ++ S.drop k).length = S.length + 1) := Lib.hid (by simp only [List.length_append, List.length_take, List.length_drop, List.length_cons, List.length_nil]; omega)
            have HQL : Q.length = S.length := by rw [← HQ.out, List.length_map]
            have HTL : Hid ((Q.take k).length = k) := Lib.hid (by rw [List.length_take, HQL]; omega)
            have HDL : Hid ((Q.drop k).length = S.length - k) := Lib.hid (by rw [List.length_drop, HQL])
            have RF := run_from AS S.length cS k hk hc1
            have HZ3 : Hid ((if cS = k then AS else AS.map (fun x => x.add (k * 39))) = none → cS - k = 0) := Lib.hid (fun h => by
              by_cases hcn : cS = k
              · omega
              · rw [if_neg hcn] at h
                cases hAS : AS with
                | none => rw [HZ.out hAS]; omega
                | some _ => rw [hAS] at h; cases h)
            obtain ⟨A3, hA3⟩ : ∃ A3, A3 = (if cS = k then AS else AS.map (fun x => x.add (k * 39))) := ⟨_, rfl⟩
            rw [← hA3] at RF HZ3 SD2
            clear hA3 HQL
            go_upto_region 10 with fail
            have hB4 := B4.out.size
            refine wp_region_noPanic ?_
            refine wp_region_held_drew (S := fun x => Below w4.heap.size w4 x) (by kernel_rfl) (below_drewN (Below.refl w4.heap.size w4) 1) (fun hH => ?_)
            generalize w4.drew = y0 at *
            refine wpAnyH_take (i := 1) (oi := { dst := some 55, op := Op.move (Operand.tmp 3), type := 29, pos := "law.go:90", after := #[], guard := none }) (v := .slice AS S.length cS) rfl (by kernel_rfl) (by kernel_rfl) (by kernel_rfl) (fun _ _ _ h => h) (Or.inl ⟨by rfl, fun wx hS => ?_⟩) hH ?_
            · go_simp
            simp only [Act.put, List.setIfInBounds_toArray, List.set_cons_zero, List.set_cons_succ]
            refine wpAnyH_take (i := 2) (oi := { dst := some 56, op := Op.move (Operand.tmp 5), type := 3, pos := "law.go:90", after := #[], guard := none }) (v := .int .i64 (k : Int)) rfl (by kernel_rfl) (by kernel_rfl) (by kernel_rfl) (fun _ _ _ h => h) (Or.inl ⟨by rfl, fun wx hS => ?_⟩) hH ?_
            · go_simp
            simp only [Act.put, List.setIfInBounds_toArray, List.set_cons_zero, List.set_cons_succ]
            refine wpAnyH_take (i := 3) (oi := { dst := some 57, op := Op.slice 29 (Operand.tmp 55) none (some (Operand.tmp 56)) none, type := 29, pos := "law.go:90", after := #[{ on := 1, ground := Ground.data }, { on := 2, ground := Ground.data }], guard := none }) (v := .slice AS k cS) rfl (by kernel_rfl) (by kernel_rfl) (by kernel_rfl) (fun _ _ _ h => h) (Or.inl ⟨by rfl, fun wx hS => ?_⟩) hH ?_
            · have e1 := run_upto AS S.length cS k hk hc1; go_simp
            simp only [Act.put, List.setIfInBounds_toArray, List.set_cons_zero, List.set_cons_succ]
            refine wpAnyH_take (i := 5) (oi := { dst := some 59, op := Op.move (Operand.tmp 0), type := 29, pos := "law.go:90", after := #[], guard := none }) (v := .slice (some ⟨b, o, none⟩) L.length c) rfl (by kernel_rfl) (by kernel_rfl) (by kernel_rfl) (fun _ _ _ h => h) (Or.inl ⟨by rfl, fun wx hS => ?_⟩) hH ?_
            · go_simp
            simp only [Act.put, List.setIfInBounds_toArray, List.set_cons_zero, List.set_cons_succ]
            refine wpAnyH_take (i := 6) (oi := { dst := some 60, op := Op.move (Operand.tmp 4), type := 3, pos := "law.go:90", after := #[], guard := none }) (v := .int .i64 (j : Int)) rfl (by kernel_rfl) (by kernel_rfl) (by kernel_rfl) (fun _ _ _ h => h) (Or.inl ⟨by rfl, fun wx hS => ?_⟩) hH ?_
            · go_simp
            simp only [Act.put, List.setIfInBounds_toArray, List.set_cons_zero, List.set_cons_succ]
            refine wpAnyH_take (i := 7) (oi := { dst := some 61, op := Op.indexAddr 29 (Operand.tmp 59) (Operand.tmp 60), type := 0, pos := "law.go:90", after := #[{ on := 5, ground := Ground.data }, { on := 6, ground := Ground.data }], guard := none }) (v := .pointer (some ⟨b, o + j * 39, none⟩)) rfl (by kernel_rfl) (by kernel_rfl) (by kernel_rfl) (fun _ _ _ h => h) (Or.inl ⟨by rfl, fun wx hS => ?_⟩) hH ?_
            · go_simp
            simp only [Act.put, List.setIfInBounds_toArray, List.set_cons_zero, List.set_cons_succ]
            refine wpAnyH_take (i := 8) (oi := { dst := some 62, op := Op.load 26 (Operand.tmp 61), type := 26, pos := "law.go:90", after := #[{ on := 7, ground := Ground.data }], guard := none }) (v := .agg (cs).toArray) rfl (by kernel_rfl) (by kernel_rfl) (by kernel_rfl) (fun _ _ _ h => h) (yieldsIf_load_mid (by rfl) 26 _ rfl (b) (o + j * 39) rfl (cs) _ (fun wx hS => range_below R4.out hS (Nat.le_refl _)) Try.underlying26 rfl (by rw [HCL.out]; kernel_rfl)) hH ?_
            simp only [Act.put, List.setIfInBounds_toArray, List.set_cons_zero, List.set_cons_succ]
            refine wpAnyH_take (i := 11) (oi := { dst := some 65, op := Op.move (Operand.tmp 3), type := 29, pos := "law.go:90", after := #[], guard := none }) (v := .slice AS S.length cS) rfl (by kernel_rfl) (by kernel_rfl) (by kernel_rfl) (fun _ _ _ h => h) (Or.inl ⟨by rfl, fun wx hS => ?_⟩) hH ?_
            · go_simp
            simp only [Act.put, List.setIfInBounds_toArray, List.set_cons_zero, List.set_cons_succ]
            refine wpAnyH_take (i := 12) (oi := { dst := some 66, op := Op.move (Operand.tmp 5), type := 3, pos := "law.go:90", after := #[], guard := none }) (v := .int .i64 (k : Int)) rfl (by kernel_rfl) (by kernel_rfl) (by kernel_rfl) (fun _ _ _ h => h) (Or.inl ⟨by rfl, fun wx hS => ?_⟩) hH ?_
            · go_simp
            simp only [Act.put, List.setIfInBounds_toArray, List.set_cons_zero, List.set_cons_succ]
            refine wpAnyH_take (i := 13) (oi := { dst := some 67, op := Op.slice 29 (Operand.tmp 65) (some (Operand.tmp 66)) none none, type := 29, pos := "law.go:90", after := #[{ on := 11, ground := Ground.data }, { on := 12, ground := Ground.data }], guard := none }) (v := .slice A3 (S.length - k) (cS - k)) rfl (by kernel_rfl) (by kernel_rfl) (by kernel_rfl) (fun _ _ _ h => h) (Or.inl ⟨by rfl, fun wx hS => ?_⟩) hH ?_
            · have e1 := RF; go_simp
            simp only [Act.put, List.setIfInBounds_toArray, List.set_cons_zero, List.set_cons_succ]
            revert hH
            refine join3 (α := Value) (β := Nat) (γ := Nat) (Q := ?QJ12) (H := fun v4 ga gb wx => Below w4.heap.size w4 wx ∧ ownR wx w.heap.size w4.heap.size 26 v4 (Q.take k) ∧ blockIs wx gb cs 26) (fun REST => ?mainJ12) ?restJ12
            case mainJ12 =>
              intro hH
              refine wpAnyH_ready (rs := [0, 9]) (by kernel_rfl) (by simp) ?_
              refine AllReadyH.cons (o := { dst := some 54, op := Op.buildSlice 29 0 #[], type := 29, pos := "law.go:90", after := #[], guard := none }) rfl (fun KK hKK => ?_) (AllReadyH.cons (o := { dst := some 63, op := Op.buildSlice 29 1 #[(0, Operand.tmp 62)], type := 29, pos := "law.go:90", after := #[{ on := 8, ground := Ground.data }], guard := none }) rfl (fun KK hKK => ?_) AllReadyH.nil)
              · have kb := alloc_below y0 (.cells #[] 26 (0, 0))
                have qa : ownR (y0.alloc (.cells #[] 26 (0, 0))) w.heap.size w4.heap.size 26 (.slice (some ⟨y0.heap.size, 0, none⟩) 0 0) [] := ⟨World.ownsRow_lit y0 #[] 0 hH.size (by decide) (by simp), fun q hq => absurd hq List.not_mem_nil⟩
                have hN := hH.trans (kb.mono hH.size)
                clear hH kb
                go_simp
                refine hKK.out _ _ hN (fun hH => ?_)
                clear hKK KK hN
                try simp only [Act.put, List.setIfInBounds_toArray, List.set_cons_zero, List.set_cons_succ]
                generalize y0.alloc (.cells #[] 26 (0, 0)) = y1 at *
                generalize y0.heap.size = ga at *
                refine wpAnyH_ready (rs := [4, 9]) (by kernel_rfl) (by simp) ?_
                refine AllReadyH.cons (o := { dst := some 58, op := Op.call { callee := Callee.builtin Builtin.append, args := #[Operand.tmp 54, Operand.tmp 57], argTypes := #[29, 29] }, type := 29, pos := "law.go:90", after := #[{ on := 0, ground := Ground.data }, { on := 3, ground := Ground.data }], guard := none }) rfl (fun KK hKK => ?_) (AllReadyH.cons (o := { dst := some 63, op := Op.buildSlice 29 1 #[(0, Operand.tmp 62)], type := 29, pos := "law.go:90", after := #[{ on := 8, ground := Ground.data }], guard := none }) rfl (fun KK hKK => ?_) AllReadyH.nil)
                · refine step_append_rows (by rfl) 26 29 ntR _ _ rfl w.heap.size w4.heap.size hB4 (.slice (some ⟨ga, 0, none⟩) 0 0) [] rfl qa AS k cS (Q.take k) HTL.out rfl (by omega) HZ.out (SD1.out.below hH (Nat.le_refl _)) (by have := HTL.out; simp; omega) hH.size ?_
                  intro v4 y2 r4 g4 b4
                  have r4 := r4.out
                  rw [List.nil_append] at r4
                  have hN := hH.trans b4.out
                  clear hH b4 g4 qa
                  refine hKK.out _ _ hN (fun hH => ?_)
                  clear hKK KK hN
                  try simp only [Act.put, List.setIfInBounds_toArray, List.set_cons_zero, List.set_cons_succ]
                  refine wpAnyH_ready (rs := [9]) (by kernel_rfl) (by simp) ?_
                  refine AllReadyH.cons (o := { dst := some 63, op := Op.buildSlice 29 1 #[(0, Operand.tmp 62)], type := 29, pos := "law.go:90", after := #[{ on := 8, ground := Ground.data }], guard := none }) rfl (fun KK hKK => ?_) AllReadyH.nil
                  have kb := alloc_below y2 (.cells cs.toArray 26 (0, 0))
                  have qb := blockIs.new y2 cs 26
                  replace r4 := r4.below kb
                  refine step_build_one (by rfl) 26 29 ntR _ rfl cs HCL.out rfl ?_
                  have hN := hH.trans (kb.mono hH.size)
                  clear hH kb
                  refine hKK.out _ _ hN (fun hH => ?_)
                  clear hKK KK hN
                  try simp only [Act.put, List.setIfInBounds_toArray, List.set_cons_zero, List.set_cons_succ]
                  change blockIs (y2.alloc (.cells cs.toArray 26 (0, 0))) _ _ _ at qb
                  generalize y2.alloc (.cells cs.toArray 26 (0, 0)) = y3 at *
                  generalize y2.heap.size = gb at *
                  refine wpAnyH_listed (L2 := #[true, true, true, true, true, true, true, true, true, true, false, true, true, true, false, false]) (by kernel_rfl) ?_
                  exact REST v4 ga gb y3 ⟨hH, r4, qb⟩
                · have kb := alloc_below y1 (.cells cs.toArray 26 (0, 0))
                  have qb := blockIs.new y1 cs 26
                  have hne : y1.heap.size ≠ ga := by have := (qa.1.lt ga rfl).2; omega
                  replace qa := qa.below kb
                  refine step_build_one (by rfl) 26 29 ntR _ rfl cs HCL.out rfl ?_
                  have hN := hH.trans (kb.mono hH.size)
                  clear hH kb
                  refine hKK.out _ _ hN (fun hH => ?_)
                  clear hKK KK hN
                  try simp only [Act.put, List.setIfInBounds_toArray, List.set_cons_zero, List.set_cons_succ]
                  change blockIs (y1.alloc (.cells cs.toArray 26 (0, 0))) _ _ _ at qb
                  generalize y1.alloc (.cells cs.toArray 26 (0, 0)) = y2 at *
                  generalize y1.heap.size = gb at *
                  refine wpAnyH_ready (rs := [4]) (by kernel_rfl) (by simp) ?_
                  refine AllReadyH.cons (o := { dst := some 58, op := Op.call { callee := Callee.builtin Builtin.append, args := #[Operand.tmp 54, Operand.tmp 57], argTypes := #[29, 29] }, type := 29, pos := "law.go:90", after := #[{ on := 0, ground := Ground.data }, { on := 3, ground := Ground.data }], guard := none }) rfl (fun KK hKK => ?_) AllReadyH.nil
                  refine step_append_rows (by rfl) 26 29 ntR _ _ rfl w.heap.size w4.heap.size hB4 (.slice (some ⟨ga, 0, none⟩) 0 0) [] rfl qa AS k cS (Q.take k) HTL.out rfl (by omega) HZ.out (SD1.out.below hH (Nat.le_refl _)) (by have := HTL.out; simp; omega) hH.size ?_
                  intro v4 y3 r4 g4 b4
                  have r4 := r4.out
                  rw [List.nil_append] at r4
                  replace qb : blockIs y3 gb cs 26 := by
                    have hgl := qb.lt
                    unfold blockIs at qb ⊢
                    rw [g4.out.block gb hgl (fun e => hne (by cases e; rfl))]
                    exact qb
                  have hN := hH.trans b4.out
                  clear hH b4 g4 qa
                  refine hKK.out _ _ hN (fun hH => ?_)
                  clear hKK KK hN
                  try simp only [Act.put, List.setIfInBounds_toArray, List.set_cons_zero, List.set_cons_succ]
                  refine wpAnyH_listed (L2 := #[true, true, true, true, true, true, true, true, true, true, false, true, true, true, false, false]) (by kernel_rfl) ?_
                  exact REST v4 ga gb y3 ⟨hH, r4, qb⟩
              · have kb := alloc_below y0 (.cells cs.toArray 26 (0, 0))
                have qb := blockIs.new y0 cs 26
                refine step_build_one (by rfl) 26 29 ntR _ rfl cs HCL.out rfl ?_
                have hN := hH.trans (kb.mono hH.size)
                clear hH kb
                refine hKK.out _ _ hN (fun hH => ?_)
                clear hKK KK hN
                try simp only [Act.put, List.setIfInBounds_toArray, List.set_cons_zero, List.set_cons_succ]
                change blockIs (y0.alloc (.cells cs.toArray 26 (0, 0))) _ _ _ at qb
                generalize y0.alloc (.cells cs.toArray 26 (0, 0)) = y1 at *
                generalize y0.heap.size = gb at *
                refine wpAnyH_ready (rs := [0]) (by kernel_rfl) (by simp) ?_
                refine AllReadyH.cons (o := { dst := some 54, op := Op.buildSlice 29 0 #[], type := 29, pos := "law.go:90", after := #[], guard := none }) rfl (fun KK hKK => ?_) AllReadyH.nil
                have kb := alloc_below y1 (.cells #[] 26 (0, 0))
                have hgl := qb.lt
                replace qb := qb.below kb hgl
                have qa : ownR (y1.alloc (.cells #[] 26 (0, 0))) w.heap.size w4.heap.size 26 (.slice (some ⟨y1.heap.size, 0, none⟩) 0 0) [] := ⟨World.ownsRow_lit y1 #[] 0 hH.size (by decide) (by simp), fun q hq => absurd hq List.not_mem_nil⟩
                have hne : gb ≠ y1.heap.size := by omega
                clear hgl
                have hN := hH.trans (kb.mono hH.size)
                clear hH kb
                go_simp
                refine hKK.out _ _ hN (fun hH => ?_)
                clear hKK KK hN
                try simp only [Act.put, List.setIfInBounds_toArray, List.set_cons_zero, List.set_cons_succ]
                generalize y1.alloc (.cells #[] 26 (0, 0)) = y2 at *
                generalize y1.heap.size = ga at *
                refine wpAnyH_ready (rs := [4]) (by kernel_rfl) (by simp) ?_
                refine AllReadyH.cons (o := { dst := some 58, op := Op.call { callee := Callee.builtin Builtin.append, args := #[Operand.tmp 54, Operand.tmp 57], argTypes := #[29, 29] }, type := 29, pos := "law.go:90", after := #[{ on := 0, ground := Ground.data }, { on := 3, ground := Ground.data }], guard := none }) rfl (fun KK hKK => ?_) AllReadyH.nil
                refine step_append_rows (by rfl) 26 29 ntR _ _ rfl w.heap.size w4.heap.size hB4 (.slice (some ⟨ga, 0, none⟩) 0 0) [] rfl qa AS k cS (Q.take k) HTL.out rfl (by omega) HZ.out (SD1.out.below hH (Nat.le_refl _)) (by have := HTL.out; simp; omega) hH.size ?_
                intro v4 y3 r4 g4 b4
                have r4 := r4.out
                rw [List.nil_append] at r4
                replace qb : blockIs y3 gb cs 26 := by
                  have hgl := qb.lt
                  unfold blockIs at qb ⊢
                  rw [g4.out.block gb hgl (fun e => hne (by cases e; rfl))]
                  exact qb
                have hN := hH.trans b4.out
                clear hH b4 g4 qa
                refine hKK.out _ _ hN (fun hH => ?_)
                clear hKK KK hN
                try simp only [Act.put, List.setIfInBounds_toArray, List.set_cons_zero, List.set_cons_succ]
                refine wpAnyH_listed (L2 := #[true, true, true, true, true, true, true, true, true, true, false, true, true, true, false, false]) (by kernel_rfl) ?_
                exact REST v4 ga gb y3 ⟨hH, r4, qb⟩
            case restJ12 =>
              rintro v4 ga gb y3 ⟨hH, r4, qb⟩
              have BH := B4.out.trans (hH.mono B4.out.size)
              rw [HCS.out] at qb
              refine wpAnyH_ready (rs := [10]) (by kernel_rfl) (by simp) ?_
              refine AllReadyH.cons (o := { dst := some 64, op := Op.call { callee := Callee.builtin Builtin.append, args := #[Operand.tmp 58, Operand.tmp 63], argTypes := #[29, 29] }, type := 29, pos := "law.go:90", after := #[{ on := 4, ground := Ground.data }, { on := 9, ground := Ground.data }, { on := 4, ground := Ground.chain }], guard := none }) rfl (fun KK hKK => ?_) AllReadyH.nil
              refine step_append_rows (by rfl) 26 29 ntR _ _ rfl w.heap.size w4.heap.size hB4 v4 (Q.take k) rfl r4 (some ⟨gb, 0, none⟩) 1 1 [(n, .slice pa n.parts.length pc)] rfl rfl (Nat.le_refl _) (fun h => by cases h) (srcQ.one qb WF.out (HID.out _ BH) (HSF.out _)) (by have := HTL.out; simp; omega) hH.size ?_
              intro v5 y4 r5 g5 b5
              have r5 := r5.out
              have hN := hH.trans b5.out
              clear hH b5 g5 r4 qb BH
              refine hKK.out _ _ hN (fun hH => ?_)
              clear hKK KK hN
              try simp only [Act.put, List.setIfInBounds_toArray, List.set_cons_zero, List.set_cons_succ]
              refine wpAnyH_ready (rs := [14]) (by kernel_rfl) (by simp) ?_
              refine AllReadyH.cons (o := { dst := some 68, op := Op.call { callee := Callee.builtin Builtin.append, args := #[Operand.tmp 64, Operand.tmp 67], argTypes := #[29, 29] }, type := 29, pos := "law.go:90", after := #[{ on := 10, ground := Ground.data }, { on := 13, ground := Ground.data }, { on := 10, ground := Ground.chain }], guard := none }) rfl (fun KK hKK => ?_) AllReadyH.nil
              refine step_append_rows (by rfl) 26 29 ntR _ _ rfl w.heap.size w4.heap.size hB4 v5 (Q.take k ++ [(n, .slice pa n.parts.length pc)]) rfl r5 A3 (S.length - k) (cS - k) (Q.drop k) HDL.out rfl (by omega) HZ3.out (SD2.out.below hH (Nat.le_refl _)) (by have := HTL.out; have := HDL.out; simp only [List.length_append, List.length_cons, List.length_nil]; omega) hH.size ?_
              intro v6 y5 r6 g6 b6
              have r6 := r6.out
              have hN := hH.trans b6.out
              have hB6 := hN
              clear hH b6 g6 r5
              refine hKK.out _ _ hN (fun hH => ?_)
              clear hKK KK hN
              try simp only [Act.put, List.setIfInBounds_toArray, List.set_cons_zero, List.set_cons_succ]
              refine wpAnyH_take (i := 15) (oi := { dst := some 3, op := Op.assign (Operand.tmp 68), type := 29, pos := "law.go:90", after := #[{ on := 14, ground := Ground.data }, { on := 14, ground := Ground.chain }, { on := 0, ground := Ground.phase }, { on := 1, ground := Ground.phase }, { on := 2, ground := Ground.phase }, { on := 3, ground := Ground.phase }, { on := 4, ground := Ground.phase }, { on := 5, ground := Ground.phase }, { on := 6, ground := Ground.phase }, { on := 7, ground := Ground.phase }, { on := 8, ground := Ground.phase }, { on := 9, ground := Ground.phase }, { on := 10, ground := Ground.phase }, { on := 11, ground := Ground.phase }, { on := 12, ground := Ground.phase }, { on := 13, ground := Ground.phase }, { on := 14, ground := Ground.phase }], guard := none }) (v := v6) rfl (by kernel_rfl) (by kernel_rfl) (by kernel_rfl) (fun _ _ _ h => h) (Or.inl ⟨by rfl, fun wx hS => ?_⟩) hH ?_
              · go_simp
              simp only [Act.put, List.setIfInBounds_toArray, List.set_cons_zero, List.set_cons_succ]
              refine wpAnyH_done (by kernel_rfl) ?_ _
              refine NoPanic.normal ?_
              have O6 := Lib.hid (r6.weak hB4)
              rw [HMAP.out] at O6
              have B6 := Lib.hid (B4.out.trans (hB6.mono hB4))
              clear r6 hH hB6 SD1 SD2 R4
              go_wp2_with fail
              go_roundw
              case rel => exact ⟨j + 1, S.take k ++ [n] ++ S.drop k, by omega, by go_num, by have := HLEN.out; omega, IN4, O6, B6⟩
              case measure => simp [intOf]; omega
      · have hb0 : (ck != 0) = true := by simp [h0]
        clear h0
        go_wp2_with fail
        go_roundw
        case rel => exact ⟨j + 1, S, by omega, by go_num, by omega, IO, O2, B2⟩
        case measure => simp [intOf]; omega
    · obtain rfl : j = L.length := by omega
      have q0 : ¬ ((L.length : Int) < (L.length : Int)) := by omega
      go_wp2_with fail
      go_ret
      exact ⟨⟨_, rfl, S, hSj, IO.out, OR.out⟩, BR.out⟩
end Go.Proofs.Ytjgmhaajcglpmaa
