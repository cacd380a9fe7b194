/- The law of Live: its walk, over more than 20 names. -/
import Derived.Test.YtfbekpkagncblaaTl
namespace Go.Proofs.Ytfbekpkagncblaa
open Go.RowKit

set_option maxRecDepth 100000 in
set_option maxHeartbeats 40000000 in
theorem law_lives_many (nv ov : Value) (N : List (List UInt8)) (O : List (List (List UInt8))) (w : World) (hn : textsIn w nv N) (ho : oldsIn w ov O) (hN : 20 < N.length) :
    Calls Try.prog 3 #[nv, ov] w fun e w' => e = .returned (.bool true) ∧ Below w.heap.size w w' := by
  obtain ⟨na, nc, rfl, n1, n2, n3, n5⟩ := hn
  obtain ⟨oa, oc, rfl, o1, o2, o5⟩ := ho
  have HN := Lib.hid n5
  have HO := Lib.hid o5
  clear n5 o5
  go_enter Try.func3, Try.ntmps3
  go_wp2_with fail
  go_loopw [6, 5] (fun i v wr => ∃ (j : Nat) (Q : List FlE), j ≤ N.length ∧ j ≤ 20 ∧ i = .int .i64 j ∧ Hid (Q.map Prod.fst = (entsL N O).take j) ∧ Hid (flIn w.heap.size wr v Q) ∧ Hid (Below w.heap.size w wr)) (fun i _ _ => N.length - (intOf i).toNat)
  case atStart => exact ⟨0, [], Nat.zero_le _, Nat.zero_le _, rfl, Lib.hid (by simp), Lib.hid (flIn.nil _ _), Lib.hid (Below.refl _ _)⟩
  case round =>
    obtain ⟨j, Q, hj, hj20, rfl, HQ, HF, HB⟩ := hrel
    have p0 : 0 ≤ (j : Int) := by omega
    by_cases hlt : j < N.length ∧ j < 20
    · have q0 : (j : Int) < (N.length : Int) := by omega
      have q1 : (j : Int) < 20 := by omega
      obtain ⟨nb, no, rfl, nc'⟩ := (HN.out.below HB.out (Nat.le_refl _)).at j (by rw [txs_length]; exact hlt.1)
      rw [txs_get N j hlt.1] at nc'
      have hent : j < (entsL N O).length := by rw [entsL_length]; omega
      have HTK := Lib.hid ((List.take_succ_eq_append_getElem hent).trans (by rw [entsL_get N O j hent hlt.1]))
      have hql : Q.length = j := by
        have := congrArg List.length HQ.out
        rw [List.length_map, List.length_take] at this
        omega
      have HQL := Lib.hid hql
      generalize N[j] = nm at *
      have hb1 := build_nm1 nm
      have hzn := zero_nm
      have HL : Hid (wr.heap.size ≤ wr.heap.size) := Lib.hid (Nat.le_refl _)
      clear hql hent
      go_wp2_with (refine store_new rfl _ _ rfl (nmCells nm (.slice none 0 0)) [.string ⟨#[]⟩, .slice none 0 0, .slice none 0 0] rfl rfl rfl rfl (by
        intro v hv
        simp only [nmCells, List.mem_cons, List.not_mem_nil, or_false] at hv
        rcases hv with rfl | rfl | rfl <;> rfl) ?_)
      intro w1 h1 h2
      have HK1 := h1
      have HF1 := Lib.hid (HF.out.below h2.out (Nat.le_refl _))
      have HB1 := Lib.hid (HB.out.trans (h2.out.mono HB.out.size))
      have HOF := Lib.hid (HF.out.off (Nat.le_refl _))
      have HGW : Hid (w.heap.size ≤ wr.heap.size) := Lib.hid HB.out.size
      clear h1 h2 HF HB hb1 hzn HL nc'
      generalize wr.heap.size = g at *
      by_cases hol : j < O.length
      · have q2 : (j : Int) < (O.length : Int) := by omega
        obtain ⟨b2, o2, rfl, hcl⟩ : ∃ b o, oa = some ⟨b, o, none⟩ ∧ ∀ i (h : i < O.length), ∃ u, w.cell? ⟨b, o + i, none⟩ = some u ∧ textsIn w u O[i] := by
          rcases HO.out with h | h
          · subst h; exact absurd hol (Nat.not_lt_zero j)
          · exact h
        obtain ⟨u, hu, htx⟩ := hcl j hol
        have hgd : O.getD j [] = O[j] := by simp [List.getD, hol]
        rw [hgd] at HTK
        have HCU : Hid (∀ x, Below w.heap.size w x → x.cell? ⟨b2, o2 + j, none⟩ = some u) := Lib.hid (fun x hx => (hx.cell (p := ⟨b2, o2 + j, none⟩) (block_lt_of_cell hu)).trans hu)
        clear hcl hu hgd
        generalize O[j] = PL at *
        obtain ⟨ua, uc, rfl, u1, u2, u3, ux⟩ := htx
        have HUX := Lib.hid ux
        clear ux
        go_wp2_with fail
        cases ua with
        | none =>
          obtain rfl := u3 rfl
          obtain rfl : PL = [] := List.eq_nil_of_length_eq_zero (by omega)
          have HTX : Hid (textsIn w (.slice none 0 0) []) := Lib.hid ⟨none, 0, rfl, Nat.le_refl _, by decide, fun _ => rfl, Or.inl rfl⟩
          refine wp_region_noPanic ?_
          refine wp_region_held_drew (S := fun x => Below w.heap.size w x ∧ ∃ u, blockIs x g (nmCells nm u) 29) (by kernel_rfl) ⟨HB1.out.drew, _, HK1.out⟩ (fun hH => ?_)
          have HF2 := Lib.hid (flIn.drew HF1.out)
          clear HF1 HB1 HK1
          generalize w1.drew = y0 at *
          refine wpAnyH_take (i := 1) (oi := { dst := some 37, op := Op.move (Operand.tmp 1), type := 23, pos := "law.go:234", after := #[], guard := none }) (v := .slice (some ⟨b2, o2, none⟩) O.length oc) rfl (by kernel_rfl) (by kernel_rfl) (by kernel_rfl) (fun _ _ _ h => h) (Or.inl ⟨by rfl, fun wx hS => ?_⟩) hH ?_
          · go_simp
          simp only [Act.put, List.setIfInBounds_toArray, List.set_cons_zero, List.set_cons_succ]
          refine wpAnyH_take (i := 2) (oi := { dst := some 38, op := Op.move (Operand.tmp 6), type := 3, pos := "law.go:234", after := #[], guard := none }) (v := .int .i64 (j : Int)) rfl (by kernel_rfl) (by kernel_rfl) (by kernel_rfl) (fun _ _ _ h => h) (Or.inl ⟨by rfl, fun wx hS => ?_⟩) hH ?_
          · go_simp
          simp only [Act.put, List.setIfInBounds_toArray, List.set_cons_zero, List.set_cons_succ]
          refine wpAnyH_take (i := 3) (oi := { dst := some 39, op := Op.indexAddr 23 (Operand.tmp 37) (Operand.tmp 38), type := 0, pos := "law.go:234", after := #[{ on := 1, ground := Ground.data }, { on := 2, ground := Ground.data }], guard := none }) (v := .pointer (some ⟨b2, o2 + j, none⟩)) rfl (by kernel_rfl) (by kernel_rfl) (by kernel_rfl) (fun _ _ _ h => h) (Or.inl ⟨by rfl, fun wx hS => ?_⟩) hH ?_
          · go_simp
          simp only [Act.put, List.setIfInBounds_toArray, List.set_cons_zero, List.set_cons_succ]
          refine wpAnyH_take (i := 4) (oi := { dst := some 40, op := Op.load 22 (Operand.tmp 39), type := 22, pos := "law.go:234", after := #[{ on := 3, ground := Ground.data }], guard := none }) (v := .slice none 0 0) rfl (by kernel_rfl) (by kernel_rfl) (by kernel_rfl) (fun _ _ _ h => h) (Or.inl ⟨by rfl, fun wx hS => ?_⟩) hH ?_
          · have c0 := HCU.out wx hS.1; go_simp
          simp only [Act.put, List.setIfInBounds_toArray, List.set_cons_zero, List.set_cons_succ]
          refine wpAnyH_take (i := 5) (oi := { dst := some 41, op := Op.move (Operand.tmp 1), type := 23, pos := "law.go:234", after := #[], guard := none }) (v := .slice (some ⟨b2, o2, none⟩) O.length oc) rfl (by kernel_rfl) (by kernel_rfl) (by kernel_rfl) (fun _ _ _ h => h) (Or.inl ⟨by rfl, fun wx hS => ?_⟩) hH ?_
          · go_simp
          simp only [Act.put, List.setIfInBounds_toArray, List.set_cons_zero, List.set_cons_succ]
          refine wpAnyH_take (i := 6) (oi := { dst := some 42, op := Op.move (Operand.tmp 6), type := 3, pos := "law.go:234", after := #[], guard := none }) (v := .int .i64 (j : Int)) rfl (by kernel_rfl) (by kernel_rfl) (by kernel_rfl) (fun _ _ _ h => h) (Or.inl ⟨by rfl, fun wx hS => ?_⟩) hH ?_
          · go_simp
          simp only [Act.put, List.setIfInBounds_toArray, List.set_cons_zero, List.set_cons_succ]
          refine wpAnyH_take (i := 7) (oi := { dst := some 43, op := Op.indexAddr 23 (Operand.tmp 41) (Operand.tmp 42), type := 0, pos := "law.go:234", after := #[{ on := 5, ground := Ground.data }, { on := 6, ground := Ground.data }], guard := none }) (v := .pointer (some ⟨b2, o2 + j, none⟩)) rfl (by kernel_rfl) (by kernel_rfl) (by kernel_rfl) (fun _ _ _ h => h) (Or.inl ⟨by rfl, fun wx hS => ?_⟩) hH ?_
          · go_simp
          simp only [Act.put, List.setIfInBounds_toArray, List.set_cons_zero, List.set_cons_succ]
          refine wpAnyH_take (i := 8) (oi := { dst := some 44, op := Op.load 22 (Operand.tmp 43), type := 22, pos := "law.go:234", after := #[{ on := 7, ground := Ground.data }], guard := none }) (v := .slice none 0 0) rfl (by kernel_rfl) (by kernel_rfl) (by kernel_rfl) (fun _ _ _ h => h) (Or.inl ⟨by rfl, fun wx hS => ?_⟩) hH ?_
          · have c0 := HCU.out wx hS.1; go_simp
          simp only [Act.put, List.setIfInBounds_toArray, List.set_cons_zero, List.set_cons_succ]
          refine wpAnyH_take (i := 9) (oi := { dst := some 45, op := Op.call { callee := Callee.builtin Builtin.len, args := #[Operand.tmp 44], argTypes := #[22] }, type := 3, pos := "law.go:234", after := #[{ on := 8, ground := Ground.data }], guard := none }) (v := .int .i64 (0 : Nat)) rfl (by kernel_rfl) (by kernel_rfl) (by kernel_rfl) (fun _ _ _ h => h) (Or.inl ⟨by rfl, fun wx hS => ?_⟩) hH ?_
          · go_simp
          simp only [Act.put, List.setIfInBounds_toArray, List.set_cons_zero, List.set_cons_succ]
          refine wpAnyH_take (i := 10) (oi := { dst := some 46, op := Op.call { callee := Callee.builtin Builtin.min, args := #[Operand.tmp 45, Operand.const (Value.int IntKind.i64 10)], argTypes := #[3, 3] }, type := 3, pos := "law.go:234", after := #[{ on := 9, ground := Ground.data }], guard := none }) (v := .int .i64 0) rfl (by kernel_rfl) (by kernel_rfl) (by kernel_rfl) (fun _ _ _ h => h) (Or.inl ⟨by rfl, fun wx hS => ?_⟩) hH ?_
          · go_simp; rfl
          simp only [Act.put, List.setIfInBounds_toArray, List.set_cons_zero, List.set_cons_succ]
          refine wpAnyH_take (i := 11) (oi := { dst := some 47, op := Op.slice 22 (Operand.tmp 40) none (some (Operand.tmp 46)) none, type := 22, pos := "law.go:234", after := #[{ on := 4, ground := Ground.data }, { on := 10, ground := Ground.data }], guard := none }) (v := .slice none 0 0) rfl (by kernel_rfl) (by kernel_rfl) (by kernel_rfl) (fun _ _ _ h => h) (Or.inl ⟨by rfl, fun wx hS => ?_⟩) hH ?_
          · go_simp
          simp only [Act.put, List.setIfInBounds_toArray, List.set_cons_zero, List.set_cons_succ]
          refine wpAnyH_ready (rs := [0]) (by kernel_rfl) (by simp) ?_
          refine AllReadyH.cons (o := { dst := some 36, op := Op.buildSlice 22 0 #[], type := 22, pos := "law.go:234", after := #[], guard := none }) rfl (fun KK hKK => ?_) AllReadyH.nil
          have kb := alloc_below y0 (.cells #[] 9 (0, 0))
          have HL0 : Hid ((y0.alloc (.cells #[] 9 (0, 0))).ownsRow y0.heap.size 9 1 (.slice (some ⟨y0.heap.size, 0, none⟩) 0 0) ([] : List (List UInt8)).length (txs [])) := Lib.hid (World.ownsRow_lit y0 #[] 0 (Nat.le_refl _) (by decide) (by simp))
          have HGZ : Hid (g < y0.heap.size) := Lib.hid (by obtain ⟨u, hu⟩ := hH.2; exact hu.lt)
          have hN : Below w.heap.size w (y0.alloc (.cells #[] 9 (0, 0))) ∧ ∃ u, blockIs (y0.alloc (.cells #[] 9 (0, 0))) g (nmCells nm u) 29 := ⟨hH.1.trans (kb.mono hH.1.size), hH.2.imp fun u hu => hu.below kb HGZ.out⟩
          have HSZ : Hid (w.heap.size ≤ y0.heap.size) := Lib.hid hH.1.size
          have KB := Lib.hid kb
          have HSY : Hid (y0.heap.size ≤ (y0.alloc (.cells #[] 9 (0, 0))).heap.size) := Lib.hid kb.size
          clear hH kb
          go_simp
          refine hKK.out _ _ hN (fun hH => ?_)
          clear hKK KK hN
          try simp only [Act.put, List.setIfInBounds_toArray, List.set_cons_zero, List.set_cons_succ]
          generalize y0.alloc (.cells #[] 9 (0, 0)) = y1 at *
          generalize hz : y0.heap.size = z at *
          have HZ := Lib.hid hz
          clear hz
          refine wpAnyH_ready (rs := [12]) (by kernel_rfl) (by simp) ?_
          refine AllReadyH.cons (o := { dst := some 48, op := Op.call { callee := Callee.builtin Builtin.append, args := #[Operand.tmp 36, Operand.tmp 47], argTypes := #[22, 22] }, type := 22, pos := "law.go:234", after := #[{ on := 0, ground := Ground.data }, { on := 11, ground := Ground.data }], guard := none }) rfl (fun KK hKK => ?_) AllReadyH.nil
          have HT1 := Lib.hid (HTX.out.below hH.1 (Nat.le_refl _))
          refine step_append_txs (by rfl) _ _ rfl z _ [] [] rfl HL0.out _ rfl HT1.out (by first | (simp; done) | (simp; omega)) HSY.out ?_
          intro v2 y2 q1 q2 q3
          have hN : Below w.heap.size w y2 ∧ ∃ u, blockIs y2 g (nmCells nm u) 29 := ⟨hH.1.trans (q3.out.mono HSZ.out), hH.2.imp fun u hu => hu.below q3.out HGZ.out⟩
          have HF4 := Lib.hid (HF2.out.below (KB.out.trans q3.out) (Nat.le_of_eq HZ.out))
          have q1 := q1.out
          rw [List.nil_append] at q1
          obtain ⟨va, kk, vc, rfl⟩ : ∃ va kk vc, v2 = .slice va kk vc := by
            obtain ⟨a, c, e, -⟩ := own_texts q1
            exact ⟨a, _, c, e⟩
          have HR4 := Lib.hid q1
          clear hH q1 q2 q3 HF2 KB HL0 HT1
          refine hKK.out _ _ hN (fun hH => ?_)
          clear hKK KK hN
          try simp only [Act.put, List.setIfInBounds_toArray, List.set_cons_zero, List.set_cons_succ]
          refine wpAnyH_take (i := 13) (oi := { dst := some 49, op := Op.fieldAddr 29 (Operand.tmp 7) 1, type := 0, pos := "law.go:234", after := #[{ on := 0, ground := Ground.phase }, { on := 1, ground := Ground.phase }, { on := 2, ground := Ground.phase }, { on := 3, ground := Ground.phase }, { on := 4, ground := Ground.phase }, { on := 5, ground := Ground.phase }, { on := 6, ground := Ground.phase }, { on := 7, ground := Ground.phase }, { on := 8, ground := Ground.phase }, { on := 9, ground := Ground.phase }, { on := 10, ground := Ground.phase }, { on := 11, ground := Ground.phase }, { on := 12, ground := Ground.phase }], guard := none }) (v := .pointer (some ⟨g, 1, none⟩)) rfl (by kernel_rfl) (by kernel_rfl) (by kernel_rfl) (fun _ _ _ h => h) (Or.inl ⟨by rfl, fun wx hS => ?_⟩) hH ?_
          · go_simp
          simp only [Act.put, List.setIfInBounds_toArray, List.set_cons_zero, List.set_cons_succ]
          refine wpAnyH_take (i := 14) (oi := { dst := some 50, op := Op.fieldAddr 27 (Operand.tmp 49) 1, type := 0, pos := "law.go:234", after := #[{ on := 13, ground := Ground.data }, { on := 0, ground := Ground.phase }, { on := 1, ground := Ground.phase }, { on := 2, ground := Ground.phase }, { on := 3, ground := Ground.phase }, { on := 4, ground := Ground.phase }, { on := 5, ground := Ground.phase }, { on := 6, ground := Ground.phase }, { on := 7, ground := Ground.phase }, { on := 8, ground := Ground.phase }, { on := 9, ground := Ground.phase }, { on := 10, ground := Ground.phase }, { on := 11, ground := Ground.phase }, { on := 12, ground := Ground.phase }], guard := none }) (v := .pointer (some ⟨g, 2, none⟩)) rfl (by kernel_rfl) (by kernel_rfl) (by kernel_rfl) (fun _ _ _ h => h) (Or.inl ⟨by rfl, fun wx hS => ?_⟩) hH ?_
          · go_simp
          simp only [Act.put, List.setIfInBounds_toArray, List.set_cons_zero, List.set_cons_succ]
          refine wpAnyH_ready (rs := [15]) (by kernel_rfl) (by simp) ?_
          refine AllReadyH.cons (o := { dst := none, op := Op.store 22 (Operand.tmp 50) (Operand.tmp 48), type := 0, pos := "law.go:234", after := #[{ on := 14, ground := Ground.data }, { on := 12, ground := Ground.data }, { on := 12, ground := Ground.chain }, { on := 0, ground := Ground.phase }, { on := 1, ground := Ground.phase }, { on := 2, ground := Ground.phase }, { on := 3, ground := Ground.phase }, { on := 4, ground := Ground.phase }, { on := 5, ground := Ground.phase }, { on := 6, ground := Ground.phase }, { on := 7, ground := Ground.phase }, { on := 8, ground := Ground.phase }, { on := 9, ground := Ground.phase }, { on := 10, ground := Ground.phase }, { on := 11, ground := Ground.phase }, { on := 12, ground := Ground.phase }], guard := none }) rfl (fun KK hKK => ?_) AllReadyH.nil
          obtain ⟨hb2, u0, hu0⟩ := hH
          have c2 : y2.cell? ⟨g, 2, none⟩ = some u0 := by rw [hu0.cell]; rfl
          have f2 := hu0.free 2
          have HKS : Hid (blockIs (y2.setCell ⟨g, 2, none⟩ (.slice va kk vc)) g (nmCells nm (.slice va kk vc)) 29) := Lib.hid (hu0.set 2 (.slice va kk vc))
          have HFS := Lib.hid (HF4.out.set (j := 2) (u := .slice va kk vc) HOF.out)
          have HRS := Lib.hid (row_setCell (k := g) (j := 2) (u := .slice va kk vc) HR4.out (fun e => by have := (HR4.out.lt g e).1; have := HGZ.out; omega))
          have HBS := Lib.hid (hb2.setCell (p := ⟨g, 2, none⟩) HGW.out (.slice va kk vc))
          have hN : Below w.heap.size w (y2.setCell ⟨g, 2, none⟩ (.slice va kk vc)) ∧ ∃ u, blockIs (y2.setCell ⟨g, 2, none⟩ (.slice va kk vc)) g (nmCells nm u) 29 := ⟨HBS.out, _, HKS.out⟩
          clear hb2 hu0 HF4 HR4
          go_simp
          refine hKK.out _ _ hN (fun hH => ?_)
          clear hKK KK hN c2 f2
          try simp only [Act.put, List.setIfInBounds_toArray, List.set_cons_zero, List.set_cons_succ]
          generalize y2.setCell ⟨g, 2, none⟩ (.slice va kk vc) = y3 at *
          refine wpAnyH_done (by kernel_rfl) ?_ _
          refine NoPanic.normal ?_
          clear hH
          have HRW := Lib.hid (Go.Joins.ownsRow_le HRS.out HSZ.out)
          clear HRS HSZ HSY HGZ HZ
          obtain ⟨cs, hcs⟩ : ∃ cs, cs = nmCells nm (Value.slice va kk vc) := ⟨_, rfl⟩
          have hkk := HKS.out
          rw [← hcs] at hkk
          have HKK := Lib.hid hkk
          have HCS := Lib.hid hcs
          have HC3 : Hid (cs.length = 3) := Lib.hid (by rw [hcs]; rfl)
          have HIN : Hid ((Try.prog.info? 29).map (·.size) = some cs.length) := Lib.hid (by rw [HC3.out]; exact info_nm)
          clear hkk hcs HKS
          go_wp2_with (first | (refine load_many (by rfl) 29 _ rfl g 0 rfl cs _ (block_range HKK.out) Try.underlying29 rfl HIN.out ?_) | (refine build_nml (by rfl) _ rfl cs HC3.out rfl ?_; refine Hid.out ?_))
          have kb := alloc_below y3 (.cells cs.toArray 29 (0, 0))
          have hk9 := blockIs.new y3 cs 29
          rw [HCS.out] at hk9
          have HK9 := Lib.hid hk9
          have HF9 := Lib.hid (HFS.out.below kb (Nat.le_refl _))
          have HR9 := Lib.hid (row_below HRW.out kb (Nat.le_refl _))
          have HB9 := Lib.hid (HBS.out.trans (kb.mono HBS.out.size))
          rw [← HCS.out] at HK9
          clear kb hk9 HFS HRW HBS HKK
          change Hid (blockIs (y3.alloc (.cells cs.toArray 29)) _ _ _) at HK9
          change Hid (flIn _ (y3.alloc (.cells cs.toArray 29)) _ _) at HF9
          generalize y3.alloc (.cells cs.toArray 29) = w9 at *
          generalize y3.heap.size = g9 at *
          refine Lib.hid ?_
          go_wp2_with (refine append_nml (by rfl) _ _ rfl w.heap.size _ Q rfl HF9.out g9 1 ((nm, []), (Value.slice va kk vc)) rfl (by show blockIs w9 g9 (nmCells nm (Value.slice va kk vc)) _; rw [← HCS.out]; exact HK9.out) HR9.out (by have := HQL.out; omega) HB9.out.size ?_)
          intro v10 w10 r1 r2
          have HB10 := Lib.hid (HB9.out.trans (r2.out.mono (Nat.le_refl _)))
          have HQ10 : Hid ((Q ++ [((nm, []), (Value.slice va kk vc))]).map Prod.fst = (entsL N O).take (j + 1)) := Lib.hid (by rw [HTK.out, List.map_append, HQ.out]; rfl)
          clear r2 HF9 HR9 HB9 HK9
          go_wp2_with fail
          go_roundw
          case rel => exact ⟨j + 1, Q ++ [((nm, []), (Value.slice va kk vc))], by omega, by omega, by go_num, HQ10, r1, HB10⟩
          case measure => simp [intOf]; omega
        | some ad =>
          obtain ⟨m, hm⟩ : ∃ m, m = min PL.length 10 := ⟨_, rfl⟩
          have hm1 : m ≤ PL.length := by omega
          have hm2 : m ≤ uc := by omega
          have HMN : Hid (min (PL.length : Int) 10 = (m : Int)) := Lib.hid (by omega)
          have hml : (PL.take 10).length = m := by rw [List.length_take]; omega
          have HTX : Hid (textsIn w (.slice (some ad) m uc) (PL.take 10)) := Lib.hid ⟨some ad, uc, by rw [hml], by omega, u2, (fun h => by cases h), by
            have e : txs (PL.take 10) = (txs PL).take 10 := by simp [txs, List.map_take]
            rw [e]
            exact valsIn.take HUX.out 10⟩
          have HM := Lib.hid hm
          have HML := Lib.hid hml
          clear hm hml
          refine wp_region_noPanic ?_
          refine wp_region_held_drew (S := fun x => Below w.heap.size w x ∧ ∃ u, blockIs x g (nmCells nm u) 29) (by kernel_rfl) ⟨HB1.out.drew, _, HK1.out⟩ (fun hH => ?_)
          have HF2 := Lib.hid (flIn.drew HF1.out)
          clear HF1 HB1 HK1
          generalize w1.drew = y0 at *
          refine wpAnyH_take (i := 1) (oi := { dst := some 37, op := Op.move (Operand.tmp 1), type := 23, pos := "law.go:234", after := #[], guard := none }) (v := .slice (some ⟨b2, o2, none⟩) O.length oc) rfl (by kernel_rfl) (by kernel_rfl) (by kernel_rfl) (fun _ _ _ h => h) (Or.inl ⟨by rfl, fun wx hS => ?_⟩) hH ?_
          · go_simp
          simp only [Act.put, List.setIfInBounds_toArray, List.set_cons_zero, List.set_cons_succ]
          refine wpAnyH_take (i := 2) (oi := { dst := some 38, op := Op.move (Operand.tmp 6), type := 3, pos := "law.go:234", after := #[], guard := none }) (v := .int .i64 (j : Int)) rfl (by kernel_rfl) (by kernel_rfl) (by kernel_rfl) (fun _ _ _ h => h) (Or.inl ⟨by rfl, fun wx hS => ?_⟩) hH ?_
          · go_simp
          simp only [Act.put, List.setIfInBounds_toArray, List.set_cons_zero, List.set_cons_succ]
          refine wpAnyH_take (i := 3) (oi := { dst := some 39, op := Op.indexAddr 23 (Operand.tmp 37) (Operand.tmp 38), type := 0, pos := "law.go:234", after := #[{ on := 1, ground := Ground.data }, { on := 2, ground := Ground.data }], guard := none }) (v := .pointer (some ⟨b2, o2 + j, none⟩)) rfl (by kernel_rfl) (by kernel_rfl) (by kernel_rfl) (fun _ _ _ h => h) (Or.inl ⟨by rfl, fun wx hS => ?_⟩) hH ?_
          · go_simp
          simp only [Act.put, List.setIfInBounds_toArray, List.set_cons_zero, List.set_cons_succ]
          refine wpAnyH_take (i := 4) (oi := { dst := some 40, op := Op.load 22 (Operand.tmp 39), type := 22, pos := "law.go:234", after := #[{ on := 3, ground := Ground.data }], guard := none }) (v := .slice (some ad) PL.length uc) rfl (by kernel_rfl) (by kernel_rfl) (by kernel_rfl) (fun _ _ _ h => h) (Or.inl ⟨by rfl, fun wx hS => ?_⟩) hH ?_
          · have c0 := HCU.out wx hS.1; go_simp
          simp only [Act.put, List.setIfInBounds_toArray, List.set_cons_zero, List.set_cons_succ]
          refine wpAnyH_take (i := 5) (oi := { dst := some 41, op := Op.move (Operand.tmp 1), type := 23, pos := "law.go:234", after := #[], guard := none }) (v := .slice (some ⟨b2, o2, none⟩) O.length oc) rfl (by kernel_rfl) (by kernel_rfl) (by kernel_rfl) (fun _ _ _ h => h) (Or.inl ⟨by rfl, fun wx hS => ?_⟩) hH ?_
          · go_simp
          simp only [Act.put, List.setIfInBounds_toArray, List.set_cons_zero, List.set_cons_succ]
          refine wpAnyH_take (i := 6) (oi := { dst := some 42, op := Op.move (Operand.tmp 6), type := 3, pos := "law.go:234", after := #[], guard := none }) (v := .int .i64 (j : Int)) rfl (by kernel_rfl) (by kernel_rfl) (by kernel_rfl) (fun _ _ _ h => h) (Or.inl ⟨by rfl, fun wx hS => ?_⟩) hH ?_
          · go_simp
          simp only [Act.put, List.setIfInBounds_toArray, List.set_cons_zero, List.set_cons_succ]
          refine wpAnyH_take (i := 7) (oi := { dst := some 43, op := Op.indexAddr 23 (Operand.tmp 41) (Operand.tmp 42), type := 0, pos := "law.go:234", after := #[{ on := 5, ground := Ground.data }, { on := 6, ground := Ground.data }], guard := none }) (v := .pointer (some ⟨b2, o2 + j, none⟩)) rfl (by kernel_rfl) (by kernel_rfl) (by kernel_rfl) (fun _ _ _ h => h) (Or.inl ⟨by rfl, fun wx hS => ?_⟩) hH ?_
          · go_simp
          simp only [Act.put, List.setIfInBounds_toArray, List.set_cons_zero, List.set_cons_succ]
          refine wpAnyH_take (i := 8) (oi := { dst := some 44, op := Op.load 22 (Operand.tmp 43), type := 22, pos := "law.go:234", after := #[{ on := 7, ground := Ground.data }], guard := none }) (v := .slice (some ad) PL.length uc) rfl (by kernel_rfl) (by kernel_rfl) (by kernel_rfl) (fun _ _ _ h => h) (Or.inl ⟨by rfl, fun wx hS => ?_⟩) hH ?_
          · have c0 := HCU.out wx hS.1; go_simp
          simp only [Act.put, List.setIfInBounds_toArray, List.set_cons_zero, List.set_cons_succ]
          refine wpAnyH_take (i := 9) (oi := { dst := some 45, op := Op.call { callee := Callee.builtin Builtin.len, args := #[Operand.tmp 44], argTypes := #[22] }, type := 3, pos := "law.go:234", after := #[{ on := 8, ground := Ground.data }], guard := none }) (v := .int .i64 (PL.length : Nat)) rfl (by kernel_rfl) (by kernel_rfl) (by kernel_rfl) (fun _ _ _ h => h) (Or.inl ⟨by rfl, fun wx hS => ?_⟩) hH ?_
          · go_simp
          simp only [Act.put, List.setIfInBounds_toArray, List.set_cons_zero, List.set_cons_succ]
          refine wpAnyH_take (i := 10) (oi := { dst := some 46, op := Op.call { callee := Callee.builtin Builtin.min, args := #[Operand.tmp 45, Operand.const (Value.int IntKind.i64 10)], argTypes := #[3, 3] }, type := 3, pos := "law.go:234", after := #[{ on := 9, ground := Ground.data }], guard := none }) (v := .int .i64 (m : Nat)) rfl (by kernel_rfl) (by kernel_rfl) (by kernel_rfl) (fun _ _ _ h => h) (Or.inl ⟨by rfl, fun wx hS => ?_⟩) hH ?_
          · go_simp; exact HMN.out
          simp only [Act.put, List.setIfInBounds_toArray, List.set_cons_zero, List.set_cons_succ]
          refine wpAnyH_take (i := 11) (oi := { dst := some 47, op := Op.slice 22 (Operand.tmp 40) none (some (Operand.tmp 46)) none, type := 22, pos := "law.go:234", after := #[{ on := 4, ground := Ground.data }, { on := 10, ground := Ground.data }], guard := none }) (v := .slice (some ad) m uc) rfl (by kernel_rfl) (by kernel_rfl) (by kernel_rfl) (fun _ _ _ h => h) (Or.inl ⟨by rfl, fun wx hS => ?_⟩) hH ?_
          · go_simp
          simp only [Act.put, List.setIfInBounds_toArray, List.set_cons_zero, List.set_cons_succ]
          refine wpAnyH_ready (rs := [0]) (by kernel_rfl) (by simp) ?_
          refine AllReadyH.cons (o := { dst := some 36, op := Op.buildSlice 22 0 #[], type := 22, pos := "law.go:234", after := #[], guard := none }) rfl (fun KK hKK => ?_) AllReadyH.nil
          have kb := alloc_below y0 (.cells #[] 9 (0, 0))
          have HL0 : Hid ((y0.alloc (.cells #[] 9 (0, 0))).ownsRow y0.heap.size 9 1 (.slice (some ⟨y0.heap.size, 0, none⟩) 0 0) ([] : List (List UInt8)).length (txs [])) := Lib.hid (World.ownsRow_lit y0 #[] 0 (Nat.le_refl _) (by decide) (by simp))
          have HGZ : Hid (g < y0.heap.size) := Lib.hid (by obtain ⟨u, hu⟩ := hH.2; exact hu.lt)
          have hN : Below w.heap.size w (y0.alloc (.cells #[] 9 (0, 0))) ∧ ∃ u, blockIs (y0.alloc (.cells #[] 9 (0, 0))) g (nmCells nm u) 29 := ⟨hH.1.trans (kb.mono hH.1.size), hH.2.imp fun u hu => hu.below kb HGZ.out⟩
          have HSZ : Hid (w.heap.size ≤ y0.heap.size) := Lib.hid hH.1.size
          have KB := Lib.hid kb
          have HSY : Hid (y0.heap.size ≤ (y0.alloc (.cells #[] 9 (0, 0))).heap.size) := Lib.hid kb.size
          clear hH kb
          go_simp
          refine hKK.out _ _ hN (fun hH => ?_)
          clear hKK KK hN
          try simp only [Act.put, List.setIfInBounds_toArray, List.set_cons_zero, List.set_cons_succ]
          generalize y0.alloc (.cells #[] 9 (0, 0)) = y1 at *
          generalize hz : y0.heap.size = z at *
          have HZ := Lib.hid hz
          clear hz
          refine wpAnyH_ready (rs := [12]) (by kernel_rfl) (by simp) ?_
          refine AllReadyH.cons (o := { dst := some 48, op := Op.call { callee := Callee.builtin Builtin.append, args := #[Operand.tmp 36, Operand.tmp 47], argTypes := #[22, 22] }, type := 22, pos := "law.go:234", after := #[{ on := 0, ground := Ground.data }, { on := 11, ground := Ground.data }], guard := none }) rfl (fun KK hKK => ?_) AllReadyH.nil
          have HT1 := Lib.hid (HTX.out.below hH.1 (Nat.le_refl _))
          refine step_append_txs (by rfl) _ _ rfl z _ [] (PL.take 10) rfl HL0.out _ rfl HT1.out (by first | (simp; done) | (simp; omega)) HSY.out ?_
          intro v2 y2 q1 q2 q3
          have hN : Below w.heap.size w y2 ∧ ∃ u, blockIs y2 g (nmCells nm u) 29 := ⟨hH.1.trans (q3.out.mono HSZ.out), hH.2.imp fun u hu => hu.below q3.out HGZ.out⟩
          have HF4 := Lib.hid (HF2.out.below (KB.out.trans q3.out) (Nat.le_of_eq HZ.out))
          have q1 := q1.out
          rw [List.nil_append] at q1
          obtain ⟨va, kk, vc, rfl⟩ : ∃ va kk vc, v2 = .slice va kk vc := by
            obtain ⟨a, c, e, -⟩ := own_texts q1
            exact ⟨a, _, c, e⟩
          have HR4 := Lib.hid q1
          clear hH q1 q2 q3 HF2 KB HL0 HT1
          refine hKK.out _ _ hN (fun hH => ?_)
          clear hKK KK hN
          try simp only [Act.put, List.setIfInBounds_toArray, List.set_cons_zero, List.set_cons_succ]
          refine wpAnyH_take (i := 13) (oi := { dst := some 49, op := Op.fieldAddr 29 (Operand.tmp 7) 1, type := 0, pos := "law.go:234", after := #[{ on := 0, ground := Ground.phase }, { on := 1, ground := Ground.phase }, { on := 2, ground := Ground.phase }, { on := 3, ground := Ground.phase }, { on := 4, ground := Ground.phase }, { on := 5, ground := Ground.phase }, { on := 6, ground := Ground.phase }, { on := 7, ground := Ground.phase }, { on := 8, ground := Ground.phase }, { on := 9, ground := Ground.phase }, { on := 10, ground := Ground.phase }, { on := 11, ground := Ground.phase }, { on := 12, ground := Ground.phase }], guard := none }) (v := .pointer (some ⟨g, 1, none⟩)) rfl (by kernel_rfl) (by kernel_rfl) (by kernel_rfl) (fun _ _ _ h => h) (Or.inl ⟨by rfl, fun wx hS => ?_⟩) hH ?_
          · go_simp
          simp only [Act.put, List.setIfInBounds_toArray, List.set_cons_zero, List.set_cons_succ]
          refine wpAnyH_take (i := 14) (oi := { dst := some 50, op := Op.fieldAddr 27 (Operand.tmp 49) 1, type := 0, pos := "law.go:234", after := #[{ on := 13, ground := Ground.data }, { on := 0, ground := Ground.phase }, { on := 1, ground := Ground.phase }, { on := 2, ground := Ground.phase }, { on := 3, ground := Ground.phase }, { on := 4, ground := Ground.phase }, { on := 5, ground := Ground.phase }, { on := 6, ground := Ground.phase }, { on := 7, ground := Ground.phase }, { on := 8, ground := Ground.phase }, { on := 9, ground := Ground.phase }, { on := 10, ground := Ground.phase }, { on := 11, ground := Ground.phase }, { on := 12, ground := Ground.phase }], guard := none }) (v := .pointer (some ⟨g, 2, none⟩)) rfl (by kernel_rfl) (by kernel_rfl) (by kernel_rfl) (fun _ _ _ h => h) (Or.inl ⟨by rfl, fun wx hS => ?_⟩) hH ?_
          · go_simp
          simp only [Act.put, List.setIfInBounds_toArray, List.set_cons_zero, List.set_cons_succ]
          refine wpAnyH_ready (rs := [15]) (by kernel_rfl) (by simp) ?_
          refine AllReadyH.cons (o := { dst := none, op := Op.store 22 (Operand.tmp 50) (Operand.tmp 48), type := 0, pos := "law.go:234", after := #[{ on := 14, ground := Ground.data }, { on := 12, ground := Ground.data }, { on := 12, ground := Ground.chain }, { on := 0, ground := Ground.phase }, { on := 1, ground := Ground.phase }, { on := 2, ground := Ground.phase }, { on := 3, ground := Ground.phase }, { on := 4, ground := Ground.phase }, { on := 5, ground := Ground.phase }, { on := 6, ground := Ground.phase }, { on := 7, ground := Ground.phase }, { on := 8, ground := Ground.phase }, { on := 9, ground := Ground.phase }, { on := 10, ground := Ground.phase }, { on := 11, ground := Ground.phase }, { on := 12, ground := Ground.phase }], guard := none }) rfl (fun KK hKK => ?_) AllReadyH.nil
          obtain ⟨hb2, u0, hu0⟩ := hH
          have c2 : y2.cell? ⟨g, 2, none⟩ = some u0 := by rw [hu0.cell]; rfl
          have f2 := hu0.free 2
          have HKS : Hid (blockIs (y2.setCell ⟨g, 2, none⟩ (.slice va kk vc)) g (nmCells nm (.slice va kk vc)) 29) := Lib.hid (hu0.set 2 (.slice va kk vc))
          have HFS := Lib.hid (HF4.out.set (j := 2) (u := .slice va kk vc) HOF.out)
          have HRS := Lib.hid (row_setCell (k := g) (j := 2) (u := .slice va kk vc) HR4.out (fun e => by have := (HR4.out.lt g e).1; have := HGZ.out; omega))
          have HBS := Lib.hid (hb2.setCell (p := ⟨g, 2, none⟩) HGW.out (.slice va kk vc))
          have hN : Below w.heap.size w (y2.setCell ⟨g, 2, none⟩ (.slice va kk vc)) ∧ ∃ u, blockIs (y2.setCell ⟨g, 2, none⟩ (.slice va kk vc)) g (nmCells nm u) 29 := ⟨HBS.out, _, HKS.out⟩
          clear hb2 hu0 HF4 HR4
          go_simp
          refine hKK.out _ _ hN (fun hH => ?_)
          clear hKK KK hN c2 f2
          try simp only [Act.put, List.setIfInBounds_toArray, List.set_cons_zero, List.set_cons_succ]
          generalize y2.setCell ⟨g, 2, none⟩ (.slice va kk vc) = y3 at *
          refine wpAnyH_done (by kernel_rfl) ?_ _
          refine NoPanic.normal ?_
          clear hH
          have HRW := Lib.hid (Go.Joins.ownsRow_le HRS.out HSZ.out)
          clear HRS HSZ HSY HGZ HZ
          obtain ⟨cs, hcs⟩ : ∃ cs, cs = nmCells nm (Value.slice va kk vc) := ⟨_, rfl⟩
          have hkk := HKS.out
          rw [← hcs] at hkk
          have HKK := Lib.hid hkk
          have HCS := Lib.hid hcs
          have HC3 : Hid (cs.length = 3) := Lib.hid (by rw [hcs]; rfl)
          have HIN : Hid ((Try.prog.info? 29).map (·.size) = some cs.length) := Lib.hid (by rw [HC3.out]; exact info_nm)
          clear hkk hcs HKS
          go_wp2_with (first | (refine load_many (by rfl) 29 _ rfl g 0 rfl cs _ (block_range HKK.out) Try.underlying29 rfl HIN.out ?_) | (refine build_nml (by rfl) _ rfl cs HC3.out rfl ?_; refine Hid.out ?_))
          have kb := alloc_below y3 (.cells cs.toArray 29 (0, 0))
          have hk9 := blockIs.new y3 cs 29
          rw [HCS.out] at hk9
          have HK9 := Lib.hid hk9
          have HF9 := Lib.hid (HFS.out.below kb (Nat.le_refl _))
          have HR9 := Lib.hid (row_below HRW.out kb (Nat.le_refl _))
          have HB9 := Lib.hid (HBS.out.trans (kb.mono HBS.out.size))
          rw [← HCS.out] at HK9
          clear kb hk9 HFS HRW HBS HKK
          change Hid (blockIs (y3.alloc (.cells cs.toArray 29)) _ _ _) at HK9
          change Hid (flIn _ (y3.alloc (.cells cs.toArray 29)) _ _) at HF9
          generalize y3.alloc (.cells cs.toArray 29) = w9 at *
          generalize y3.heap.size = g9 at *
          refine Lib.hid ?_
          go_wp2_with (refine append_nml (by rfl) _ _ rfl w.heap.size _ Q rfl HF9.out g9 1 ((nm, (PL.take 10)), (Value.slice va kk vc)) rfl (by show blockIs w9 g9 (nmCells nm (Value.slice va kk vc)) _; rw [← HCS.out]; exact HK9.out) HR9.out (by have := HQL.out; omega) HB9.out.size ?_)
          intro v10 w10 r1 r2
          have HB10 := Lib.hid (HB9.out.trans (r2.out.mono (Nat.le_refl _)))
          have HQ10 : Hid ((Q ++ [((nm, (PL.take 10)), (Value.slice va kk vc))]).map Prod.fst = (entsL N O).take (j + 1)) := Lib.hid (by rw [HTK.out, List.map_append, HQ.out]; rfl)
          clear r2 HF9 HR9 HB9 HK9
          go_wp2_with fail
          go_roundw
          case rel => exact ⟨j + 1, Q ++ [((nm, (PL.take 10)), (Value.slice va kk vc))], by omega, by omega, by go_num, HQ10, r1, HB10⟩
          case measure => simp [intOf]; omega
      · have q2 : ¬ ((j : Int) < (O.length : Int)) := by omega
        have hgd : O.getD j [] = [] := by simp [List.getD, hol]
        rw [hgd] at HTK
        have HRN : Hid (w1.ownsRow w.heap.size 9 1 (.slice none 0 0) ([] : List (List UInt8)).length (txs [])) := Lib.hid (World.ownsRow_nil _ _ _ _)
        clear hgd
        obtain ⟨cs, hcs⟩ : ∃ cs, cs = nmCells nm (Value.slice none 0 0) := ⟨_, rfl⟩
        have hkk := HK1.out
        rw [← hcs] at hkk
        have HKK := Lib.hid hkk
        have HCS := Lib.hid hcs
        have HC3 : Hid (cs.length = 3) := Lib.hid (by rw [hcs]; rfl)
        have HIN : Hid ((Try.prog.info? 29).map (·.size) = some cs.length) := Lib.hid (by rw [HC3.out]; exact info_nm)
        clear hkk hcs HK1
        go_wp2_with (first | (refine load_many (by rfl) 29 _ rfl g 0 rfl cs _ (block_range HKK.out) Try.underlying29 rfl HIN.out ?_) | (refine build_nml (by rfl) _ rfl cs HC3.out rfl ?_; refine Hid.out ?_))
        have kb := alloc_below w1 (.cells cs.toArray 29 (0, 0))
        have hk9 := blockIs.new w1 cs 29
        rw [HCS.out] at hk9
        have HK9 := Lib.hid hk9
        have HF9 := Lib.hid (HF1.out.below kb (Nat.le_refl _))
        have HR9 := Lib.hid (row_below HRN.out kb (Nat.le_refl _))
        have HB9 := Lib.hid (HB1.out.trans (kb.mono HB1.out.size))
        rw [← HCS.out] at HK9
        clear kb hk9 HF1 HRN HB1 HKK
        change Hid (blockIs (w1.alloc (.cells cs.toArray 29)) _ _ _) at HK9
        change Hid (flIn _ (w1.alloc (.cells cs.toArray 29)) _ _) at HF9
        generalize w1.alloc (.cells cs.toArray 29) = w9 at *
        generalize w1.heap.size = g9 at *
        refine Lib.hid ?_
        go_wp2_with (refine append_nml (by rfl) _ _ rfl w.heap.size _ Q rfl HF9.out g9 1 ((nm, ([] : List (List UInt8))), (Value.slice none 0 0)) rfl (by show blockIs w9 g9 (nmCells nm (Value.slice none 0 0)) _; rw [← HCS.out]; exact HK9.out) HR9.out (by have := HQL.out; omega) HB9.out.size ?_)
        intro v10 w10 r1 r2
        have HB10 := Lib.hid (HB9.out.trans (r2.out.mono (Nat.le_refl _)))
        have HQ10 : Hid ((Q ++ [((nm, ([] : List (List UInt8))), (Value.slice none 0 0))]).map Prod.fst = (entsL N O).take (j + 1)) := Lib.hid (by rw [HTK.out, List.map_append, HQ.out]; rfl)
        clear r2 HF9 HR9 HB9 HK9
        go_wp2_with fail
        go_roundw
        case rel => exact ⟨j + 1, Q ++ [((nm, ([] : List (List UInt8))), (Value.slice none 0 0))], by omega, by omega, by go_num, HQ10, r1, HB10⟩
        case measure => simp [intOf]; omega
    · have hje : (entsL N O).length = j := by rw [entsL_length]; omega
      have HE : Hid (Q.map Prod.fst = entsL N O) := Lib.hid (by have := HQ.out; rw [← hje, List.take_length] at this; exact this)
      obtain ⟨la, lc, rfl, l1, l2, l3⟩ := HF.out.nm
      rw [HE.out] at l3
      have hqe : Q.length = (entsL N O).length := by rw [← HE.out, List.length_map]
      have HNM := Lib.hid l3
      have hE20 : (entsL N O).length ≤ 20 := by omega
      have HE10 := Lib.hid (entsL_short N O)
      rw [hqe] at l1
      have HQE := Lib.hid hqe
      have q0 : (j : Int) < (N.length : Int) := by omega
      have q1 : ¬ ((j : Int) < 20) := by omega
      clear l3 hqe HF HQ HE hje
      generalize wr = w1 at *
      rw [HQE.out]
      clear HQE
      generalize entsL N O = E at *
      go_wp2_with fail
      go_loopw [9, 8] (fun i v w2 => ∃ (n : Nat) (W : List (List UInt8)), n ≤ E.length ∧ i = .int .i64 n ∧ Hid (WantI E n W) ∧ Hid (w2.ownsRow w1.heap.size 9 1 v W.length (txs W)) ∧ Hid (Below w1.heap.size w1 w2)) (fun i _ _ => E.length - (intOf i).toNat)
      case atStart => exact ⟨0, [], Nat.zero_le _, rfl, Lib.hid (WantI.start E), Lib.hid (World.ownsRow_nil _ _ _ _), Lib.hid (Below.refl _ _)⟩
      case round =>
        obtain ⟨n, W, hn, rfl, HW, HR, HD⟩ := hrel
        have pn : 0 ≤ (n : Int) := by omega
        by_cases hnl : n < E.length
        · have qn : (n : Int) < (E.length : Int) := by omega
          obtain ⟨lb, lo, ovn, rfl, -, hrg⟩ := HNM.out.at n hnl
          have HCN : Hid (∀ x, Below w1.heap.size w1 x → x.cell? ⟨lb, lo + n * 3, none⟩ = some (.string (str E[n].1))) := Lib.hid (fun x hx => by
            have h0 := hrg 0 (.string (str E[n].1)) rfl
            exact (hx.cell (p := ⟨lb, lo + n * 3, none⟩) (block_lt_of_cell h0)).trans h0)
          have HSK := Lib.hid (fun hg => HW.out.skip hnl hg)
          have HPT := Lib.hid (fun hg p h1 h2 => HW.out.put hnl hg (p := p) h1 h2)
          have HWL := Lib.hid HW.out.2.2
          clear hrg
          generalize E[n].1 = nm at *
          go_wp2_with fail
          go_loopw [11, 10] (fun i gv w3 => ∃ (k : Nat) (b : Bool), k ≤ E.length ∧ i = .int .i64 k ∧ gv = .bool b ∧ Hid (b = true ↔ nm ∈ goneL (E.take k)) ∧ Hid (w3.ownsRow w1.heap.size 9 1 _ W.length (txs W)) ∧ Hid (Below w1.heap.size w1 w3)) (fun i _ _ => E.length - (intOf i).toNat)
          case atStart => exact ⟨0, false, Nat.zero_le _, rfl, rfl, Lib.hid (by simp [goneL]), HR, HD⟩
          case round =>
            clear HR HD
            obtain ⟨k, b, hk, rfl, rfl, HG, HR, HD⟩ := hrel
            have pk : 0 ≤ (k : Int) := by omega
            by_cases hkl : k < E.length
            · have qk : (k : Int) < (E.length : Int) := by omega
              obtain ⟨lb2, lo2, ov, e2, hot, hrg⟩ := HNM.out.at k hkl
              cases e2
              obtain ⟨oa, oc, rfl, o1, o2, o3, ox⟩ := hot
              have HOX := Lib.hid ox
              have HCO : Hid (∀ x, Below w1.heap.size w1 x → x.cell? ⟨lb, lo + k * 3 + 2, none⟩ = some (.slice oa E[k].2.length oc)) := Lib.hid (fun x hx => by
                have h0 := hrg 2 _ rfl
                exact (hx.cell (p := ⟨lb, lo + k * 3 + 2, none⟩) (block_lt_of_cell h0)).trans h0)
              have HTK := Lib.hid (goneL_take E k hkl)
              have hol := HE10.out _ (List.getElem_mem hkl)
              clear hrg ox
              generalize E[k].2 = OL at *
              go_wp2_with fail
              go_loopw [12, 10] (fun i gv w4 => ∃ (m : Nat) (b : Bool), m ≤ OL.length ∧ i = .int .i64 m ∧ gv = .bool b ∧ Hid (b = true ↔ nm ∈ goneL (E.take k) ++ OL.take m) ∧ Hid (w4.ownsRow w1.heap.size 9 1 _ W.length (txs W)) ∧ Hid (Below w1.heap.size w1 w4)) (fun i _ _ => OL.length - (intOf i).toNat)
              case atStart => exact ⟨0, b, Nat.zero_le _, rfl, rfl, Lib.hid (by rw [List.take_zero, List.append_nil]; exact HG.out), HR, HD⟩
              case round =>
                clear HR HD HG
                obtain ⟨m, b, hm, rfl, rfl, HG, HR, HD⟩ := hrel
                have pm : 0 ≤ (m : Int) := by omega
                have c2 := HCO.out _ HD.out
                by_cases hml : m < OL.length
                · have qm : (m : Int) < (OL.length : Int) := by omega
                  obtain ⟨ob, oo, rfl, otc⟩ := HOX.out.at m (by rw [txs_length]; exact hml)
                  rw [txs_get OL m hml] at otc
                  have HCT : Hid (∀ x, Below w1.heap.size w1 x → x.cell? ⟨ob, oo + m, none⟩ = some (.string (str OL[m]))) := Lib.hid (fun x hx => (hx.cell (p := ⟨ob, oo + m, none⟩) (block_lt_of_cell otc)).trans otc)
                  have HTM : Hid (OL.take (m + 1) = OL.take m ++ [OL[m]]) := Lib.hid (List.take_succ_eq_append_getElem hml)
                  clear otc
                  generalize OL[m] = s at *
                  cases b with
                  | true =>
                    have HGT : Hid (nm ∈ goneL (E.take k) ++ OL.take (m + 1)) := Lib.hid (by
                      have := HG.out.1 rfl
                      rw [HTM.out, ← List.append_assoc]
                      exact List.mem_append.2 (Or.inl this))
                    clear HG
                    go_wp2_with fail
                    refine wp_region_noPanic ?_
                    refine wp_region_held_drew (S := fun x => Below w1.heap.size w1 x) (by kernel_rfl) HD.out.drew (fun hH => ?_)
                    refine wpAnyH_take (i := 0) (oi := { dst := some 78, op := Op.move (Operand.tmp 10), type := 4, pos := "law.go:243", after := #[], guard := none }) (v := .bool true) rfl (by kernel_rfl) (by kernel_rfl) (by kernel_rfl) (fun _ _ _ h => h) (Or.inl ⟨by rfl, fun wx hS => ?_⟩) hH ?_
                    · go_simp
                    simp only [Act.put, List.setIfInBounds_toArray, List.set_cons_zero, List.set_cons_succ]
                    refine wpAnyH_take (i := 1) (oi := { dst := some 79, op := Op.move (Operand.tmp 78), type := 4, pos := "law.go:243", after := #[{ on := 0, ground := Ground.data }], guard := none }) (v := .bool true) rfl (by kernel_rfl) (by kernel_rfl) (by kernel_rfl) (fun _ _ _ h => h) (Or.inl ⟨by rfl, fun wx hS => ?_⟩) hH ?_
                    · go_simp
                    simp only [Act.put, List.setIfInBounds_toArray, List.set_cons_zero, List.set_cons_succ]
                    refine wpAnyH_take (i := 2) (oi := { dst := some 80, op := Op.move (Operand.tmp 5), type := 24, pos := "law.go:243", after := #[{ on := 1, ground := Ground.guard }], guard := some (1, false) }) (v := undef) rfl (by kernel_rfl) (by kernel_rfl) (by kernel_rfl) (fun _ _ _ h => h) (Or.inr ⟨by rfl, rfl⟩) hH ?_
                    simp only [Act.put, List.setIfInBounds_toArray, List.set_cons_zero, List.set_cons_succ]
                    refine wpAnyH_take (i := 3) (oi := { dst := some 81, op := Op.move (Operand.tmp 11), type := 3, pos := "law.go:243", after := #[{ on := 1, ground := Ground.guard }], guard := some (1, false) }) (v := undef) rfl (by kernel_rfl) (by kernel_rfl) (by kernel_rfl) (fun _ _ _ h => h) (Or.inr ⟨by rfl, rfl⟩) hH ?_
                    simp only [Act.put, List.setIfInBounds_toArray, List.set_cons_zero, List.set_cons_succ]
                    refine wpAnyH_take (i := 4) (oi := { dst := some 82, op := Op.indexAddr 24 (Operand.tmp 80) (Operand.tmp 81), type := 0, pos := "law.go:243", after := #[{ on := 2, ground := Ground.data }, { on := 3, ground := Ground.data }, { on := 1, ground := Ground.guard }], guard := some (1, false) }) (v := undef) rfl (by kernel_rfl) (by kernel_rfl) (by kernel_rfl) (fun _ _ _ h => h) (Or.inr ⟨by rfl, rfl⟩) hH ?_
                    simp only [Act.put, List.setIfInBounds_toArray, List.set_cons_zero, List.set_cons_succ]
                    refine wpAnyH_take (i := 5) (oi := { dst := some 83, op := Op.fieldAddr 29 (Operand.tmp 82) 1, type := 0, pos := "law.go:243", after := #[{ on := 4, ground := Ground.data }, { on := 1, ground := Ground.guard }], guard := some (1, false) }) (v := undef) rfl (by kernel_rfl) (by kernel_rfl) (by kernel_rfl) (fun _ _ _ h => h) (Or.inr ⟨by rfl, rfl⟩) hH ?_
                    simp only [Act.put, List.setIfInBounds_toArray, List.set_cons_zero, List.set_cons_succ]
                    refine wpAnyH_take (i := 6) (oi := { dst := some 84, op := Op.fieldAddr 27 (Operand.tmp 83) 1, type := 0, pos := "law.go:243", after := #[{ on := 5, ground := Ground.data }, { on := 1, ground := Ground.guard }], guard := some (1, false) }) (v := undef) rfl (by kernel_rfl) (by kernel_rfl) (by kernel_rfl) (fun _ _ _ h => h) (Or.inr ⟨by rfl, rfl⟩) hH ?_
                    simp only [Act.put, List.setIfInBounds_toArray, List.set_cons_zero, List.set_cons_succ]
                    refine wpAnyH_take (i := 7) (oi := { dst := some 85, op := Op.load 22 (Operand.tmp 84), type := 22, pos := "law.go:243", after := #[{ on := 6, ground := Ground.data }, { on := 1, ground := Ground.guard }], guard := some (1, false) }) (v := undef) rfl (by kernel_rfl) (by kernel_rfl) (by kernel_rfl) (fun _ _ _ h => h) (Or.inr ⟨by rfl, rfl⟩) hH ?_
                    simp only [Act.put, List.setIfInBounds_toArray, List.set_cons_zero, List.set_cons_succ]
                    refine wpAnyH_take (i := 8) (oi := { dst := some 86, op := Op.move (Operand.tmp 12), type := 3, pos := "law.go:243", after := #[{ on := 1, ground := Ground.guard }], guard := some (1, false) }) (v := undef) rfl (by kernel_rfl) (by kernel_rfl) (by kernel_rfl) (fun _ _ _ h => h) (Or.inr ⟨by rfl, rfl⟩) hH ?_
                    simp only [Act.put, List.setIfInBounds_toArray, List.set_cons_zero, List.set_cons_succ]
                    refine wpAnyH_take (i := 9) (oi := { dst := some 87, op := Op.indexAddr 22 (Operand.tmp 85) (Operand.tmp 86), type := 0, pos := "law.go:243", after := #[{ on := 7, ground := Ground.data }, { on := 8, ground := Ground.data }, { on := 1, ground := Ground.guard }], guard := some (1, false) }) (v := undef) rfl (by kernel_rfl) (by kernel_rfl) (by kernel_rfl) (fun _ _ _ h => h) (Or.inr ⟨by rfl, rfl⟩) hH ?_
                    simp only [Act.put, List.setIfInBounds_toArray, List.set_cons_zero, List.set_cons_succ]
                    refine wpAnyH_take (i := 10) (oi := { dst := some 88, op := Op.load 9 (Operand.tmp 87), type := 9, pos := "law.go:243", after := #[{ on := 9, ground := Ground.data }, { on := 1, ground := Ground.guard }], guard := some (1, false) }) (v := undef) rfl (by kernel_rfl) (by kernel_rfl) (by kernel_rfl) (fun _ _ _ h => h) (Or.inr ⟨by rfl, rfl⟩) hH ?_
                    simp only [Act.put, List.setIfInBounds_toArray, List.set_cons_zero, List.set_cons_succ]
                    refine wpAnyH_take (i := 11) (oi := { dst := some 89, op := Op.move (Operand.tmp 5), type := 24, pos := "law.go:243", after := #[{ on := 1, ground := Ground.guard }], guard := some (1, false) }) (v := undef) rfl (by kernel_rfl) (by kernel_rfl) (by kernel_rfl) (fun _ _ _ h => h) (Or.inr ⟨by rfl, rfl⟩) hH ?_
                    simp only [Act.put, List.setIfInBounds_toArray, List.set_cons_zero, List.set_cons_succ]
                    refine wpAnyH_take (i := 12) (oi := { dst := some 90, op := Op.move (Operand.tmp 9), type := 3, pos := "law.go:243", after := #[{ on := 1, ground := Ground.guard }], guard := some (1, false) }) (v := undef) rfl (by kernel_rfl) (by kernel_rfl) (by kernel_rfl) (fun _ _ _ h => h) (Or.inr ⟨by rfl, rfl⟩) hH ?_
                    simp only [Act.put, List.setIfInBounds_toArray, List.set_cons_zero, List.set_cons_succ]
                    refine wpAnyH_take (i := 13) (oi := { dst := some 91, op := Op.indexAddr 24 (Operand.tmp 89) (Operand.tmp 90), type := 0, pos := "law.go:243", after := #[{ on := 11, ground := Ground.data }, { on := 12, ground := Ground.data }, { on := 1, ground := Ground.guard }], guard := some (1, false) }) (v := undef) rfl (by kernel_rfl) (by kernel_rfl) (by kernel_rfl) (fun _ _ _ h => h) (Or.inr ⟨by rfl, rfl⟩) hH ?_
                    simp only [Act.put, List.setIfInBounds_toArray, List.set_cons_zero, List.set_cons_succ]
                    refine wpAnyH_take (i := 14) (oi := { dst := some 92, op := Op.fieldAddr 29 (Operand.tmp 91) 0, type := 0, pos := "law.go:243", after := #[{ on := 13, ground := Ground.data }, { on := 1, ground := Ground.guard }], guard := some (1, false) }) (v := undef) rfl (by kernel_rfl) (by kernel_rfl) (by kernel_rfl) (fun _ _ _ h => h) (Or.inr ⟨by rfl, rfl⟩) hH ?_
                    simp only [Act.put, List.setIfInBounds_toArray, List.set_cons_zero, List.set_cons_succ]
                    refine wpAnyH_take (i := 15) (oi := { dst := some 93, op := Op.load 9 (Operand.tmp 92), type := 9, pos := "law.go:243", after := #[{ on := 14, ground := Ground.data }, { on := 1, ground := Ground.guard }], guard := some (1, false) }) (v := undef) rfl (by kernel_rfl) (by kernel_rfl) (by kernel_rfl) (fun _ _ _ h => h) (Or.inr ⟨by rfl, rfl⟩) hH ?_
                    simp only [Act.put, List.setIfInBounds_toArray, List.set_cons_zero, List.set_cons_succ]
                    refine wpAnyH_take (i := 16) (oi := { dst := some 94, op := Op.binOp BinOp.eql 9 (Operand.tmp 88) (Operand.tmp 93) 9, type := 4, pos := "law.go:243", after := #[{ on := 10, ground := Ground.data }, { on := 15, ground := Ground.data }, { on := 1, ground := Ground.guard }], guard := some (1, false) }) (v := undef) rfl (by kernel_rfl) (by kernel_rfl) (by kernel_rfl) (fun _ _ _ h => h) (Or.inr ⟨by rfl, rfl⟩) hH ?_
                    simp only [Act.put, List.setIfInBounds_toArray, List.set_cons_zero, List.set_cons_succ]
                    refine wpAnyH_take (i := 17) (oi := { dst := some 95, op := Op.pick (Operand.tmp 79) (Operand.const (Value.bool true)) (Operand.tmp 94), type := 4, pos := "law.go:243", after := #[{ on := 1, ground := Ground.data }, { on := 16, ground := Ground.data }], guard := none }) (v := .bool true) rfl (by kernel_rfl) (by kernel_rfl) (by kernel_rfl) (fun _ _ _ h => h) (Or.inl ⟨by rfl, fun wx hS => ?_⟩) hH ?_
                    · go_simp
                    simp only [Act.put, List.setIfInBounds_toArray, List.set_cons_zero, List.set_cons_succ]
                    refine wpAnyH_take (i := 18) (oi := { dst := some 10, op := Op.assign (Operand.tmp 95), type := 4, pos := "law.go:243", after := #[{ on := 17, ground := Ground.data }, { on := 1, ground := Ground.chain }, { on := 0, ground := Ground.phase }, { on := 1, ground := Ground.phase }, { on := 2, ground := Ground.phase }, { on := 3, ground := Ground.phase }, { on := 4, ground := Ground.phase }, { on := 5, ground := Ground.phase }, { on := 6, ground := Ground.phase }, { on := 7, ground := Ground.phase }, { on := 8, ground := Ground.phase }, { on := 9, ground := Ground.phase }, { on := 10, ground := Ground.phase }, { on := 11, ground := Ground.phase }, { on := 12, ground := Ground.phase }, { on := 13, ground := Ground.phase }, { on := 14, ground := Ground.phase }, { on := 15, ground := Ground.phase }, { on := 16, ground := Ground.phase }, { on := 17, ground := Ground.phase }], guard := none }) (v := .bool true) rfl (by kernel_rfl) (by kernel_rfl) (by kernel_rfl) (fun _ _ _ h => h) (Or.inl ⟨by rfl, fun wx hS => ?_⟩) hH ?_
                    · go_simp
                    simp only [Act.put, List.setIfInBounds_toArray, List.set_cons_zero, List.set_cons_succ]
                    refine wpAnyH_done (by kernel_rfl) ?_ _
                    refine NoPanic.normal ?_
                    clear hH
                    have HR5 := Lib.hid HR.out.drew
                    have HD5 := Lib.hid HD.out.drew
                    clear HR HD
                    generalize wr.drew = w5 at *
                    go_wp2_with fail
                    go_roundw
                    case rel => exact ⟨m + 1, true, by omega, by go_num, rfl, Lib.hid ⟨fun _ => HGT.out, fun _ => rfl⟩, HR5, HD5⟩
                    case measure => simp [intOf]; omega
                  | false =>
                    have hdd := str_eqb s nm
                    have HGF : Hid (decide (s = nm) = true ↔ nm ∈ goneL (E.take k) ++ OL.take (m + 1)) := Lib.hid (by
                      have h0 : nm ∉ goneL (E.take k) ++ OL.take m := fun h => by have := HG.out.2 h; cases this
                      rw [HTM.out, ← List.append_assoc, List.mem_append, List.mem_singleton, decide_eq_true_iff]
                      exact ⟨fun h => Or.inr h.symm, fun h => (h.resolve_left h0).symm⟩)
                    clear HG
                    generalize decide (s = nm) = d at *
                    go_wp2_with fail
                    refine wp_region_noPanic ?_
                    refine wp_region_held_drew (S := fun x => Below w1.heap.size w1 x) (by kernel_rfl) HD.out.drew (fun hH => ?_)
                    refine wpAnyH_take (i := 0) (oi := { dst := some 78, op := Op.move (Operand.tmp 10), type := 4, pos := "law.go:243", after := #[], guard := none }) (v := .bool false) rfl (by kernel_rfl) (by kernel_rfl) (by kernel_rfl) (fun _ _ _ h => h) (Or.inl ⟨by rfl, fun wx hS => ?_⟩) hH ?_
                    · go_simp
                    simp only [Act.put, List.setIfInBounds_toArray, List.set_cons_zero, List.set_cons_succ]
                    refine wpAnyH_take (i := 1) (oi := { dst := some 79, op := Op.move (Operand.tmp 78), type := 4, pos := "law.go:243", after := #[{ on := 0, ground := Ground.data }], guard := none }) (v := .bool false) rfl (by kernel_rfl) (by kernel_rfl) (by kernel_rfl) (fun _ _ _ h => h) (Or.inl ⟨by rfl, fun wx hS => ?_⟩) hH ?_
                    · go_simp
                    simp only [Act.put, List.setIfInBounds_toArray, List.set_cons_zero, List.set_cons_succ]
                    refine wpAnyH_take (i := 2) (oi := { dst := some 80, op := Op.move (Operand.tmp 5), type := 24, pos := "law.go:243", after := #[{ on := 1, ground := Ground.guard }], guard := some (1, false) }) (v := .slice (some ⟨lb, lo, none⟩) E.length lc) rfl (by kernel_rfl) (by kernel_rfl) (by kernel_rfl) (fun _ _ _ h => h) (Or.inl ⟨by rfl, fun wx hS => ?_⟩) hH ?_
                    · go_simp
                    simp only [Act.put, List.setIfInBounds_toArray, List.set_cons_zero, List.set_cons_succ]
                    refine wpAnyH_take (i := 3) (oi := { dst := some 81, op := Op.move (Operand.tmp 11), type := 3, pos := "law.go:243", after := #[{ on := 1, ground := Ground.guard }], guard := some (1, false) }) (v := .int .i64 (k : Int)) rfl (by kernel_rfl) (by kernel_rfl) (by kernel_rfl) (fun _ _ _ h => h) (Or.inl ⟨by rfl, fun wx hS => ?_⟩) hH ?_
                    · go_simp
                    simp only [Act.put, List.setIfInBounds_toArray, List.set_cons_zero, List.set_cons_succ]
                    refine wpAnyH_take (i := 4) (oi := { dst := some 82, op := Op.indexAddr 24 (Operand.tmp 80) (Operand.tmp 81), type := 0, pos := "law.go:243", after := #[{ on := 2, ground := Ground.data }, { on := 3, ground := Ground.data }, { on := 1, ground := Ground.guard }], guard := some (1, false) }) (v := .pointer (some ⟨lb, lo + k * 3, none⟩)) rfl (by kernel_rfl) (by kernel_rfl) (by kernel_rfl) (fun _ _ _ h => h) (Or.inl ⟨by rfl, fun wx hS => ?_⟩) hH ?_
                    · go_simp
                    simp only [Act.put, List.setIfInBounds_toArray, List.set_cons_zero, List.set_cons_succ]
                    refine wpAnyH_take (i := 5) (oi := { dst := some 83, op := Op.fieldAddr 29 (Operand.tmp 82) 1, type := 0, pos := "law.go:243", after := #[{ on := 4, ground := Ground.data }, { on := 1, ground := Ground.guard }], guard := some (1, false) }) (v := .pointer (some ⟨lb, lo + k * 3 + 1, none⟩)) rfl (by kernel_rfl) (by kernel_rfl) (by kernel_rfl) (fun _ _ _ h => h) (Or.inl ⟨by rfl, fun wx hS => ?_⟩) hH ?_
                    · go_simp
                    simp only [Act.put, List.setIfInBounds_toArray, List.set_cons_zero, List.set_cons_succ]
                    refine wpAnyH_take (i := 6) (oi := { dst := some 84, op := Op.fieldAddr 27 (Operand.tmp 83) 1, type := 0, pos := "law.go:243", after := #[{ on := 5, ground := Ground.data }, { on := 1, ground := Ground.guard }], guard := some (1, false) }) (v := .pointer (some ⟨lb, lo + k * 3 + 2, none⟩)) rfl (by kernel_rfl) (by kernel_rfl) (by kernel_rfl) (fun _ _ _ h => h) (Or.inl ⟨by rfl, fun wx hS => ?_⟩) hH ?_
                    · go_simp
                    simp only [Act.put, List.setIfInBounds_toArray, List.set_cons_zero, List.set_cons_succ]
                    refine wpAnyH_take (i := 7) (oi := { dst := some 85, op := Op.load 22 (Operand.tmp 84), type := 22, pos := "law.go:243", after := #[{ on := 6, ground := Ground.data }, { on := 1, ground := Ground.guard }], guard := some (1, false) }) (v := .slice (some ⟨ob, oo, none⟩) OL.length oc) rfl (by kernel_rfl) (by kernel_rfl) (by kernel_rfl) (fun _ _ _ h => h) (Or.inl ⟨by rfl, fun wx hS => ?_⟩) hH ?_
                    · have q2 := HCO.out wx hS; go_simp
                    simp only [Act.put, List.setIfInBounds_toArray, List.set_cons_zero, List.set_cons_succ]
                    refine wpAnyH_take (i := 8) (oi := { dst := some 86, op := Op.move (Operand.tmp 12), type := 3, pos := "law.go:243", after := #[{ on := 1, ground := Ground.guard }], guard := some (1, false) }) (v := .int .i64 (m : Int)) rfl (by kernel_rfl) (by kernel_rfl) (by kernel_rfl) (fun _ _ _ h => h) (Or.inl ⟨by rfl, fun wx hS => ?_⟩) hH ?_
                    · go_simp
                    simp only [Act.put, List.setIfInBounds_toArray, List.set_cons_zero, List.set_cons_succ]
                    refine wpAnyH_take (i := 9) (oi := { dst := some 87, op := Op.indexAddr 22 (Operand.tmp 85) (Operand.tmp 86), type := 0, pos := "law.go:243", after := #[{ on := 7, ground := Ground.data }, { on := 8, ground := Ground.data }, { on := 1, ground := Ground.guard }], guard := some (1, false) }) (v := .pointer (some ⟨ob, oo + m, none⟩)) rfl (by kernel_rfl) (by kernel_rfl) (by kernel_rfl) (fun _ _ _ h => h) (Or.inl ⟨by rfl, fun wx hS => ?_⟩) hH ?_
                    · go_simp
                    simp only [Act.put, List.setIfInBounds_toArray, List.set_cons_zero, List.set_cons_succ]
                    refine wpAnyH_take (i := 10) (oi := { dst := some 88, op := Op.load 9 (Operand.tmp 87), type := 9, pos := "law.go:243", after := #[{ on := 9, ground := Ground.data }, { on := 1, ground := Ground.guard }], guard := some (1, false) }) (v := .string (str s)) rfl (by kernel_rfl) (by kernel_rfl) (by kernel_rfl) (fun _ _ _ h => h) (Or.inl ⟨by rfl, fun wx hS => ?_⟩) hH ?_
                    · have q2 := HCT.out wx hS; go_simp
                    simp only [Act.put, List.setIfInBounds_toArray, List.set_cons_zero, List.set_cons_succ]
                    refine wpAnyH_take (i := 11) (oi := { dst := some 89, op := Op.move (Operand.tmp 5), type := 24, pos := "law.go:243", after := #[{ on := 1, ground := Ground.guard }], guard := some (1, false) }) (v := .slice (some ⟨lb, lo, none⟩) E.length lc) rfl (by kernel_rfl) (by kernel_rfl) (by kernel_rfl) (fun _ _ _ h => h) (Or.inl ⟨by rfl, fun wx hS => ?_⟩) hH ?_
                    · go_simp
                    simp only [Act.put, List.setIfInBounds_toArray, List.set_cons_zero, List.set_cons_succ]
                    refine wpAnyH_take (i := 12) (oi := { dst := some 90, op := Op.move (Operand.tmp 9), type := 3, pos := "law.go:243", after := #[{ on := 1, ground := Ground.guard }], guard := some (1, false) }) (v := .int .i64 (n : Int)) rfl (by kernel_rfl) (by kernel_rfl) (by kernel_rfl) (fun _ _ _ h => h) (Or.inl ⟨by rfl, fun wx hS => ?_⟩) hH ?_
                    · go_simp
                    simp only [Act.put, List.setIfInBounds_toArray, List.set_cons_zero, List.set_cons_succ]
                    refine wpAnyH_take (i := 13) (oi := { dst := some 91, op := Op.indexAddr 24 (Operand.tmp 89) (Operand.tmp 90), type := 0, pos := "law.go:243", after := #[{ on := 11, ground := Ground.data }, { on := 12, ground := Ground.data }, { on := 1, ground := Ground.guard }], guard := some (1, false) }) (v := .pointer (some ⟨lb, lo + n * 3, none⟩)) rfl (by kernel_rfl) (by kernel_rfl) (by kernel_rfl) (fun _ _ _ h => h) (Or.inl ⟨by rfl, fun wx hS => ?_⟩) hH ?_
                    · go_simp
                    simp only [Act.put, List.setIfInBounds_toArray, List.set_cons_zero, List.set_cons_succ]
                    refine wpAnyH_take (i := 14) (oi := { dst := some 92, op := Op.fieldAddr 29 (Operand.tmp 91) 0, type := 0, pos := "law.go:243", after := #[{ on := 13, ground := Ground.data }, { on := 1, ground := Ground.guard }], guard := some (1, false) }) (v := .pointer (some ⟨lb, lo + n * 3, none⟩)) rfl (by kernel_rfl) (by kernel_rfl) (by kernel_rfl) (fun _ _ _ h => h) (Or.inl ⟨by rfl, fun wx hS => ?_⟩) hH ?_
                    · go_simp
                    simp only [Act.put, List.setIfInBounds_toArray, List.set_cons_zero, List.set_cons_succ]
                    refine wpAnyH_take (i := 15) (oi := { dst := some 93, op := Op.load 9 (Operand.tmp 92), type := 9, pos := "law.go:243", after := #[{ on := 14, ground := Ground.data }, { on := 1, ground := Ground.guard }], guard := some (1, false) }) (v := .string (str nm)) rfl (by kernel_rfl) (by kernel_rfl) (by kernel_rfl) (fun _ _ _ h => h) (Or.inl ⟨by rfl, fun wx hS => ?_⟩) hH ?_
                    · have q2 := HCN.out wx hS; go_simp
                    simp only [Act.put, List.setIfInBounds_toArray, List.set_cons_zero, List.set_cons_succ]
                    refine wpAnyH_take (i := 16) (oi := { dst := some 94, op := Op.binOp BinOp.eql 9 (Operand.tmp 88) (Operand.tmp 93) 9, type := 4, pos := "law.go:243", after := #[{ on := 10, ground := Ground.data }, { on := 15, ground := Ground.data }, { on := 1, ground := Ground.guard }], guard := some (1, false) }) (v := .bool d) rfl (by kernel_rfl) (by kernel_rfl) (by kernel_rfl) (fun _ _ _ h => h) (Or.inl ⟨by rfl, fun wx hS => ?_⟩) hH ?_
                    · go_simp
                    simp only [Act.put, List.setIfInBounds_toArray, List.set_cons_zero, List.set_cons_succ]
                    refine wpAnyH_take (i := 17) (oi := { dst := some 95, op := Op.pick (Operand.tmp 79) (Operand.const (Value.bool true)) (Operand.tmp 94), type := 4, pos := "law.go:243", after := #[{ on := 1, ground := Ground.data }, { on := 16, ground := Ground.data }], guard := none }) (v := .bool d) rfl (by kernel_rfl) (by kernel_rfl) (by kernel_rfl) (fun _ _ _ h => h) (Or.inl ⟨by rfl, fun wx hS => ?_⟩) hH ?_
                    · go_simp
                    simp only [Act.put, List.setIfInBounds_toArray, List.set_cons_zero, List.set_cons_succ]
                    refine wpAnyH_take (i := 18) (oi := { dst := some 10, op := Op.assign (Operand.tmp 95), type := 4, pos := "law.go:243", after := #[{ on := 17, ground := Ground.data }, { on := 1, ground := Ground.chain }, { on := 0, ground := Ground.phase }, { on := 1, ground := Ground.phase }, { on := 2, ground := Ground.phase }, { on := 3, ground := Ground.phase }, { on := 4, ground := Ground.phase }, { on := 5, ground := Ground.phase }, { on := 6, ground := Ground.phase }, { on := 7, ground := Ground.phase }, { on := 8, ground := Ground.phase }, { on := 9, ground := Ground.phase }, { on := 10, ground := Ground.phase }, { on := 11, ground := Ground.phase }, { on := 12, ground := Ground.phase }, { on := 13, ground := Ground.phase }, { on := 14, ground := Ground.phase }, { on := 15, ground := Ground.phase }, { on := 16, ground := Ground.phase }, { on := 17, ground := Ground.phase }], guard := none }) (v := .bool d) rfl (by kernel_rfl) (by kernel_rfl) (by kernel_rfl) (fun _ _ _ h => h) (Or.inl ⟨by rfl, fun wx hS => ?_⟩) hH ?_
                    · go_simp
                    simp only [Act.put, List.setIfInBounds_toArray, List.set_cons_zero, List.set_cons_succ]
                    refine wpAnyH_done (by kernel_rfl) ?_ _
                    refine NoPanic.normal ?_
                    clear hH
                    have HR5 := Lib.hid HR.out.drew
                    have HD5 := Lib.hid HD.out.drew
                    clear HR HD
                    generalize wr.drew = w5 at *
                    go_wp2_with fail
                    go_roundw
                    case rel => exact ⟨m + 1, d, by omega, by go_num, rfl, HGF, HR5, HD5⟩
                    case measure => simp [intOf]; omega
                · obtain rfl : m = OL.length := by omega
                  have qm : ¬ ((OL.length : Int) < (OL.length : Int)) := by omega
                  have HGN : Hid (b = true ↔ nm ∈ goneL (E.take (k + 1))) := Lib.hid (by rw [HTK.out]; have := HG.out; rw [List.take_length] at this; exact this)
                  go_wp2_with fail
                  go_roundw
                  case rel => exact ⟨k + 1, b, by omega, by go_num, rfl, HGN, HR, HD⟩
                  case measure => simp [intOf]; omega
            · obtain rfl : k = E.length := by omega
              have qk : ¬ ((E.length : Int) < (E.length : Int)) := by omega
              have HGE : Hid (b = true ↔ nm ∈ goneL E) := Lib.hid (by have := HG.out; rw [List.take_length] at this; exact this)
              clear HG
              obtain ⟨va, vc, rfl, v1, v2, v3, -⟩ := own_texts HR.out
              have hw20 : W.length ≤ 20 := by have := HWL.out; omega
              go_wp2_with fail
              go_loopw [13] (fun i w3 => ∃ (p : Nat), p ≤ W.length ∧ i = .int .i64 p ∧ Hid (∀ q (hq : q < W.length), q < p → Op.bytesLess W[q] nm = true) ∧ Hid (w3.ownsRow w1.heap.size 9 1 (.slice va W.length vc) W.length (txs W)) ∧ Hid (Below w1.heap.size w1 w3)) (fun i _ => W.length - (intOf i).toNat)
              case atStart => exact ⟨0, Nat.zero_le _, rfl, Lib.hid (fun q _ h => absurd h (Nat.not_lt_zero q)), HR, HD⟩
              case round =>
                clear HR HD
                obtain ⟨p, hp, rfl, HLS, HR, HD⟩ := hrel
                have pp : 0 ≤ (p : Int) := by omega
                by_cases hpl : p < W.length
                · have qp : (p : Int) < (W.length : Int) := by omega
                  obtain ⟨wb, wo, rfl, wtc⟩ := (own_texts HR.out).cell p hpl
                  have hd0 := str_lessb W[p] nm
                  have HLP := Lib.hid (fun h : Op.bytesLess W[p] nm = true => (fun q (hq : q < W.length) (hqp : q < p + 1) => (by
                    by_cases e : q = p
                    · subst e; exact h
                    · exact HLS.out q hq (by omega) : Op.bytesLess W[q] nm = true)))
                  have HST : Hid (∀ b2 : Bool, (str W[p]).toList = (str W[p]).toList) := Lib.hid (fun _ => rfl)
                  obtain ⟨d, hd⟩ : ∃ d, d = Op.bytesLess W[p] nm := ⟨_, rfl⟩
                  rw [← hd] at hd0 HLP
                  have HDD := Lib.hid hd
                  clear hd
                  obtain ⟨s, hs⟩ : ∃ s, s = W[p] := ⟨_, rfl⟩
                  rw [← hs] at hd0 wtc
                  have HSS := Lib.hid hs
                  clear hs HST
                  go_wp2_with fail
                  refine wp_region_noPanic ?_
                  refine wp_region_held_drew (S := fun x => Below w1.heap.size w1 x ∧ x.cell? ⟨wb, wo + p, none⟩ = some (.string (str s))) (by kernel_rfl) ⟨HD.out.drew, wtc⟩ (fun hH => ?_)
                  refine wpAnyH_take (i := 0) (oi := { dst := some 96, op := Op.move (Operand.tmp 13), type := 3, pos := "law.go:247", after := #[], guard := none }) (v := .int .i64 (p : Int)) rfl (by kernel_rfl) (by kernel_rfl) (by kernel_rfl) (fun _ _ _ h => h) (Or.inl ⟨by rfl, fun wx hS => ?_⟩) hH ?_
                  · go_simp
                  simp only [Act.put, List.setIfInBounds_toArray, List.set_cons_zero, List.set_cons_succ]
                  refine wpAnyH_take (i := 1) (oi := { dst := some 97, op := Op.move (Operand.tmp 8), type := 22, pos := "law.go:247", after := #[], guard := none }) (v := .slice (some ⟨wb, wo, none⟩) W.length vc) rfl (by kernel_rfl) (by kernel_rfl) (by kernel_rfl) (fun _ _ _ h => h) (Or.inl ⟨by rfl, fun wx hS => ?_⟩) hH ?_
                  · go_simp
                  simp only [Act.put, List.setIfInBounds_toArray, List.set_cons_zero, List.set_cons_succ]
                  refine wpAnyH_take (i := 2) (oi := { dst := some 98, op := Op.call { callee := Callee.builtin Builtin.len, args := #[Operand.tmp 97], argTypes := #[22] }, type := 3, pos := "law.go:247", after := #[{ on := 1, ground := Ground.data }], guard := none }) (v := .int .i64 (W.length : Int)) rfl (by kernel_rfl) (by kernel_rfl) (by kernel_rfl) (fun _ _ _ h => h) (Or.inl ⟨by rfl, fun wx hS => ?_⟩) hH ?_
                  · go_simp
                  simp only [Act.put, List.setIfInBounds_toArray, List.set_cons_zero, List.set_cons_succ]
                  refine wpAnyH_take (i := 3) (oi := { dst := some 99, op := Op.binOp BinOp.lss 3 (Operand.tmp 96) (Operand.tmp 98) 3, type := 4, pos := "law.go:247", after := #[{ on := 0, ground := Ground.data }, { on := 2, ground := Ground.data }], guard := none }) (v := .bool true) rfl (by kernel_rfl) (by kernel_rfl) (by kernel_rfl) (fun _ _ _ h => h) (Or.inl ⟨by rfl, fun wx hS => ?_⟩) hH ?_
                  · go_simp
                  simp only [Act.put, List.setIfInBounds_toArray, List.set_cons_zero, List.set_cons_succ]
                  refine wpAnyH_take (i := 4) (oi := { dst := some 100, op := Op.move (Operand.tmp 99), type := 4, pos := "law.go:247", after := #[{ on := 3, ground := Ground.data }], guard := none }) (v := .bool true) rfl (by kernel_rfl) (by kernel_rfl) (by kernel_rfl) (fun _ _ _ h => h) (Or.inl ⟨by rfl, fun wx hS => ?_⟩) hH ?_
                  · go_simp
                  simp only [Act.put, List.setIfInBounds_toArray, List.set_cons_zero, List.set_cons_succ]
                  refine wpAnyH_take (i := 5) (oi := { dst := some 101, op := Op.move (Operand.tmp 8), type := 22, pos := "law.go:247", after := #[{ on := 4, ground := Ground.guard }], guard := some (4, true) }) (v := .slice (some ⟨wb, wo, none⟩) W.length vc) rfl (by kernel_rfl) (by kernel_rfl) (by kernel_rfl) (fun _ _ _ h => h) (Or.inl ⟨by rfl, fun wx hS => ?_⟩) hH ?_
                  · go_simp
                  simp only [Act.put, List.setIfInBounds_toArray, List.set_cons_zero, List.set_cons_succ]
                  refine wpAnyH_take (i := 6) (oi := { dst := some 102, op := Op.move (Operand.tmp 13), type := 3, pos := "law.go:247", after := #[{ on := 4, ground := Ground.guard }], guard := some (4, true) }) (v := .int .i64 (p : Int)) rfl (by kernel_rfl) (by kernel_rfl) (by kernel_rfl) (fun _ _ _ h => h) (Or.inl ⟨by rfl, fun wx hS => ?_⟩) hH ?_
                  · go_simp
                  simp only [Act.put, List.setIfInBounds_toArray, List.set_cons_zero, List.set_cons_succ]
                  refine wpAnyH_take (i := 7) (oi := { dst := some 103, op := Op.indexAddr 22 (Operand.tmp 101) (Operand.tmp 102), type := 0, pos := "law.go:247", after := #[{ on := 5, ground := Ground.data }, { on := 6, ground := Ground.data }, { on := 4, ground := Ground.guard }], guard := some (4, true) }) (v := .pointer (some ⟨wb, wo + p, none⟩)) rfl (by kernel_rfl) (by kernel_rfl) (by kernel_rfl) (fun _ _ _ h => h) (Or.inl ⟨by rfl, fun wx hS => ?_⟩) hH ?_
                  · go_simp
                  simp only [Act.put, List.setIfInBounds_toArray, List.set_cons_zero, List.set_cons_succ]
                  refine wpAnyH_take (i := 8) (oi := { dst := some 104, op := Op.load 9 (Operand.tmp 103), type := 9, pos := "law.go:247", after := #[{ on := 7, ground := Ground.data }, { on := 4, ground := Ground.guard }], guard := some (4, true) }) (v := .string (str s)) rfl (by kernel_rfl) (by kernel_rfl) (by kernel_rfl) (fun _ _ _ h => h) (Or.inl ⟨by rfl, fun wx hS => ?_⟩) hH ?_
                  · obtain ⟨-, q2⟩ := hS; go_simp
                  simp only [Act.put, List.setIfInBounds_toArray, List.set_cons_zero, List.set_cons_succ]
                  refine wpAnyH_take (i := 9) (oi := { dst := some 105, op := Op.move (Operand.tmp 5), type := 24, pos := "law.go:247", after := #[{ on := 4, ground := Ground.guard }], guard := some (4, true) }) (v := .slice (some ⟨lb, lo, none⟩) E.length lc) rfl (by kernel_rfl) (by kernel_rfl) (by kernel_rfl) (fun _ _ _ h => h) (Or.inl ⟨by rfl, fun wx hS => ?_⟩) hH ?_
                  · go_simp
                  simp only [Act.put, List.setIfInBounds_toArray, List.set_cons_zero, List.set_cons_succ]
                  refine wpAnyH_take (i := 10) (oi := { dst := some 106, op := Op.move (Operand.tmp 9), type := 3, pos := "law.go:247", after := #[{ on := 4, ground := Ground.guard }], guard := some (4, true) }) (v := .int .i64 (n : Int)) rfl (by kernel_rfl) (by kernel_rfl) (by kernel_rfl) (fun _ _ _ h => h) (Or.inl ⟨by rfl, fun wx hS => ?_⟩) hH ?_
                  · go_simp
                  simp only [Act.put, List.setIfInBounds_toArray, List.set_cons_zero, List.set_cons_succ]
                  refine wpAnyH_take (i := 11) (oi := { dst := some 107, op := Op.indexAddr 24 (Operand.tmp 105) (Operand.tmp 106), type := 0, pos := "law.go:247", after := #[{ on := 9, ground := Ground.data }, { on := 10, ground := Ground.data }, { on := 4, ground := Ground.guard }], guard := some (4, true) }) (v := .pointer (some ⟨lb, lo + n * 3, none⟩)) rfl (by kernel_rfl) (by kernel_rfl) (by kernel_rfl) (fun _ _ _ h => h) (Or.inl ⟨by rfl, fun wx hS => ?_⟩) hH ?_
                  · go_simp
                  simp only [Act.put, List.setIfInBounds_toArray, List.set_cons_zero, List.set_cons_succ]
                  refine wpAnyH_take (i := 12) (oi := { dst := some 108, op := Op.fieldAddr 29 (Operand.tmp 107) 0, type := 0, pos := "law.go:247", after := #[{ on := 11, ground := Ground.data }, { on := 4, ground := Ground.guard }], guard := some (4, true) }) (v := .pointer (some ⟨lb, lo + n * 3, none⟩)) rfl (by kernel_rfl) (by kernel_rfl) (by kernel_rfl) (fun _ _ _ h => h) (Or.inl ⟨by rfl, fun wx hS => ?_⟩) hH ?_
                  · go_simp
                  simp only [Act.put, List.setIfInBounds_toArray, List.set_cons_zero, List.set_cons_succ]
                  refine wpAnyH_take (i := 13) (oi := { dst := some 109, op := Op.load 9 (Operand.tmp 108), type := 9, pos := "law.go:247", after := #[{ on := 12, ground := Ground.data }, { on := 4, ground := Ground.guard }], guard := some (4, true) }) (v := .string (str nm)) rfl (by kernel_rfl) (by kernel_rfl) (by kernel_rfl) (fun _ _ _ h => h) (Or.inl ⟨by rfl, fun wx hS => ?_⟩) hH ?_
                  · have q2 := HCN.out wx hS.1; go_simp
                  simp only [Act.put, List.setIfInBounds_toArray, List.set_cons_zero, List.set_cons_succ]
                  refine wpAnyH_take (i := 14) (oi := { dst := some 110, op := Op.binOp BinOp.lss 9 (Operand.tmp 104) (Operand.tmp 109) 9, type := 4, pos := "law.go:247", after := #[{ on := 8, ground := Ground.data }, { on := 13, ground := Ground.data }, { on := 4, ground := Ground.guard }], guard := some (4, true) }) (v := .bool d) rfl (by kernel_rfl) (by kernel_rfl) (by kernel_rfl) (fun _ _ _ h => h) (Or.inl ⟨by rfl, fun wx hS => ?_⟩) hH ?_
                  · go_simp
                  simp only [Act.put, List.setIfInBounds_toArray, List.set_cons_zero, List.set_cons_succ]
                  refine wpAnyH_take (i := 15) (oi := { dst := some 111, op := Op.pick (Operand.tmp 100) (Operand.tmp 110) (Operand.const (Value.bool false)), type := 4, pos := "law.go:247", after := #[{ on := 4, ground := Ground.data }, { on := 14, ground := Ground.data }], guard := none }) (v := .bool d) rfl (by kernel_rfl) (by kernel_rfl) (by kernel_rfl) (fun _ _ _ h => h) (Or.inl ⟨by rfl, fun wx hS => ?_⟩) hH ?_
                  · go_simp
                  simp only [Act.put, List.setIfInBounds_toArray, List.set_cons_zero, List.set_cons_succ]
                  refine wpAnyH_done (by kernel_rfl) ?_ _
                  refine NoPanic.normal ?_
                  clear hH
                  have HR5 := Lib.hid HR.out.drew
                  have HD5 := Lib.hid HD.out.drew
                  have wtc5 : wr.drew.cell? ⟨wb, wo + p, none⟩ = some (.string (str s)) := wtc
                  clear HR HD wtc
                  generalize wr.drew = w5 at *
                  cases d with
                  | true =>
                    go_wp2_with fail
                    go_roundw
                    case rel => exact ⟨p + 1, by omega, by go_num, Lib.hid (HLP.out rfl), HR5, HD5⟩
                    case measure => simp [intOf]; omega
                  | false =>
                    have HH2 : Hid (∀ hp : p < W.length, Op.bytesLess W[p] nm = false) := Lib.hid (fun _ => HDD.out.symm)
                    clear HLP HDD
                    go_wp2_with fail
                    cases b with
                    | true =>
                      refine wp_region_noPanic ?_
                      refine wp_region_held_drew (S := fun x => Below w1.heap.size w1 x) (by kernel_rfl) HD5.out.drew (fun hH => ?_)
                      refine wpAnyH_take (i := 0) (oi := { dst := some 114, op := Op.move (Operand.tmp 10), type := 4, pos := "law.go:250", after := #[], guard := none }) (v := .bool true) rfl (by kernel_rfl) (by kernel_rfl) (by kernel_rfl) (fun _ _ _ h => h) (Or.inl ⟨by rfl, fun wx hS => ?_⟩) hH ?_
                      · go_simp
                      simp only [Act.put, List.setIfInBounds_toArray, List.set_cons_zero, List.set_cons_succ]
                      refine wpAnyH_take (i := 1) (oi := { dst := some 115, op := Op.unOp UnOp.not 4 (Operand.tmp 114), type := 4, pos := "law.go:250", after := #[{ on := 0, ground := Ground.data }], guard := none }) (v := .bool false) rfl (by kernel_rfl) (by kernel_rfl) (by kernel_rfl) (fun _ _ _ h => h) (Or.inl ⟨by rfl, fun wx hS => ?_⟩) hH ?_
                      · go_simp
                      simp only [Act.put, List.setIfInBounds_toArray, List.set_cons_zero, List.set_cons_succ]
                      refine wpAnyH_take (i := 2) (oi := { dst := some 116, op := Op.move (Operand.tmp 115), type := 4, pos := "law.go:250", after := #[{ on := 1, ground := Ground.data }], guard := none }) (v := .bool false) rfl (by kernel_rfl) (by kernel_rfl) (by kernel_rfl) (fun _ _ _ h => h) (Or.inl ⟨by rfl, fun wx hS => ?_⟩) hH ?_
                      · go_simp
                      simp only [Act.put, List.setIfInBounds_toArray, List.set_cons_zero, List.set_cons_succ]
                      refine wpAnyH_take (i := 3) (oi := { dst := some 117, op := Op.move (Operand.tmp 13), type := 3, pos := "law.go:250", after := #[{ on := 2, ground := Ground.guard }], guard := some (2, true) }) (v := undef) rfl (by kernel_rfl) (by kernel_rfl) (by kernel_rfl) (fun _ _ _ h => h) (Or.inr ⟨by rfl, rfl⟩) hH ?_
                      simp only [Act.put, List.setIfInBounds_toArray, List.set_cons_zero, List.set_cons_succ]
                      refine wpAnyH_take (i := 4) (oi := { dst := some 118, op := Op.move (Operand.tmp 8), type := 22, pos := "law.go:250", after := #[{ on := 2, ground := Ground.guard }], guard := some (2, true) }) (v := undef) rfl (by kernel_rfl) (by kernel_rfl) (by kernel_rfl) (fun _ _ _ h => h) (Or.inr ⟨by rfl, rfl⟩) hH ?_
                      simp only [Act.put, List.setIfInBounds_toArray, List.set_cons_zero, List.set_cons_succ]
                      refine wpAnyH_take (i := 5) (oi := { dst := some 119, op := Op.call { callee := Callee.builtin Builtin.len, args := #[Operand.tmp 118], argTypes := #[22] }, type := 3, pos := "law.go:250", after := #[{ on := 4, ground := Ground.data }, { on := 2, ground := Ground.guard }], guard := some (2, true) }) (v := undef) rfl (by kernel_rfl) (by kernel_rfl) (by kernel_rfl) (fun _ _ _ h => h) (Or.inr ⟨by rfl, rfl⟩) hH ?_
                      simp only [Act.put, List.setIfInBounds_toArray, List.set_cons_zero, List.set_cons_succ]
                      refine wpAnyH_take (i := 6) (oi := { dst := some 120, op := Op.binOp BinOp.eql 3 (Operand.tmp 117) (Operand.tmp 119) 3, type := 4, pos := "law.go:250", after := #[{ on := 3, ground := Ground.data }, { on := 5, ground := Ground.data }, { on := 2, ground := Ground.guard }], guard := some (2, true) }) (v := undef) rfl (by kernel_rfl) (by kernel_rfl) (by kernel_rfl) (fun _ _ _ h => h) (Or.inr ⟨by rfl, rfl⟩) hH ?_
                      simp only [Act.put, List.setIfInBounds_toArray, List.set_cons_zero, List.set_cons_succ]
                      refine wpAnyH_take (i := 7) (oi := { dst := some 121, op := Op.move (Operand.tmp 120), type := 4, pos := "law.go:250", after := #[{ on := 6, ground := Ground.data }, { on := 2, ground := Ground.chain }, { on := 2, ground := Ground.guard }], guard := some (2, true) }) (v := undef) rfl (by kernel_rfl) (by kernel_rfl) (by kernel_rfl) (fun _ _ _ h => h) (Or.inr ⟨by rfl, rfl⟩) hH ?_
                      simp only [Act.put, List.setIfInBounds_toArray, List.set_cons_zero, List.set_cons_succ]
                      refine wpAnyH_take (i := 8) (oi := { dst := some 122, op := Op.move (Operand.tmp 8), type := 22, pos := "law.go:250", after := #[{ on := 7, ground := Ground.guard }], guard := some (7, false) }) (v := undef) rfl (by kernel_rfl) (by kernel_rfl) (by kernel_rfl) (fun _ _ _ h => h) (Or.inr ⟨by rfl, rfl⟩) hH ?_
                      simp only [Act.put, List.setIfInBounds_toArray, List.set_cons_zero, List.set_cons_succ]
                      refine wpAnyH_take (i := 9) (oi := { dst := some 123, op := Op.move (Operand.tmp 13), type := 3, pos := "law.go:250", after := #[{ on := 7, ground := Ground.guard }], guard := some (7, false) }) (v := undef) rfl (by kernel_rfl) (by kernel_rfl) (by kernel_rfl) (fun _ _ _ h => h) (Or.inr ⟨by rfl, rfl⟩) hH ?_
                      simp only [Act.put, List.setIfInBounds_toArray, List.set_cons_zero, List.set_cons_succ]
                      refine wpAnyH_take (i := 10) (oi := { dst := some 124, op := Op.indexAddr 22 (Operand.tmp 122) (Operand.tmp 123), type := 0, pos := "law.go:250", after := #[{ on := 8, ground := Ground.data }, { on := 9, ground := Ground.data }, { on := 7, ground := Ground.guard }], guard := some (7, false) }) (v := undef) rfl (by kernel_rfl) (by kernel_rfl) (by kernel_rfl) (fun _ _ _ h => h) (Or.inr ⟨by rfl, rfl⟩) hH ?_
                      simp only [Act.put, List.setIfInBounds_toArray, List.set_cons_zero, List.set_cons_succ]
                      refine wpAnyH_take (i := 11) (oi := { dst := some 125, op := Op.load 9 (Operand.tmp 124), type := 9, pos := "law.go:250", after := #[{ on := 10, ground := Ground.data }, { on := 7, ground := Ground.guard }], guard := some (7, false) }) (v := undef) rfl (by kernel_rfl) (by kernel_rfl) (by kernel_rfl) (fun _ _ _ h => h) (Or.inr ⟨by rfl, rfl⟩) hH ?_
                      simp only [Act.put, List.setIfInBounds_toArray, List.set_cons_zero, List.set_cons_succ]
                      refine wpAnyH_take (i := 12) (oi := { dst := some 126, op := Op.move (Operand.tmp 5), type := 24, pos := "law.go:250", after := #[{ on := 7, ground := Ground.guard }], guard := some (7, false) }) (v := undef) rfl (by kernel_rfl) (by kernel_rfl) (by kernel_rfl) (fun _ _ _ h => h) (Or.inr ⟨by rfl, rfl⟩) hH ?_
                      simp only [Act.put, List.setIfInBounds_toArray, List.set_cons_zero, List.set_cons_succ]
                      refine wpAnyH_take (i := 13) (oi := { dst := some 127, op := Op.move (Operand.tmp 9), type := 3, pos := "law.go:250", after := #[{ on := 7, ground := Ground.guard }], guard := some (7, false) }) (v := undef) rfl (by kernel_rfl) (by kernel_rfl) (by kernel_rfl) (fun _ _ _ h => h) (Or.inr ⟨by rfl, rfl⟩) hH ?_
                      simp only [Act.put, List.setIfInBounds_toArray, List.set_cons_zero, List.set_cons_succ]
                      refine wpAnyH_take (i := 14) (oi := { dst := some 128, op := Op.indexAddr 24 (Operand.tmp 126) (Operand.tmp 127), type := 0, pos := "law.go:250", after := #[{ on := 12, ground := Ground.data }, { on := 13, ground := Ground.data }, { on := 7, ground := Ground.guard }], guard := some (7, false) }) (v := undef) rfl (by kernel_rfl) (by kernel_rfl) (by kernel_rfl) (fun _ _ _ h => h) (Or.inr ⟨by rfl, rfl⟩) hH ?_
                      simp only [Act.put, List.setIfInBounds_toArray, List.set_cons_zero, List.set_cons_succ]
                      refine wpAnyH_take (i := 15) (oi := { dst := some 129, op := Op.fieldAddr 29 (Operand.tmp 128) 0, type := 0, pos := "law.go:250", after := #[{ on := 14, ground := Ground.data }, { on := 7, ground := Ground.guard }], guard := some (7, false) }) (v := undef) rfl (by kernel_rfl) (by kernel_rfl) (by kernel_rfl) (fun _ _ _ h => h) (Or.inr ⟨by rfl, rfl⟩) hH ?_
                      simp only [Act.put, List.setIfInBounds_toArray, List.set_cons_zero, List.set_cons_succ]
                      refine wpAnyH_take (i := 16) (oi := { dst := some 130, op := Op.load 9 (Operand.tmp 129), type := 9, pos := "law.go:250", after := #[{ on := 15, ground := Ground.data }, { on := 7, ground := Ground.guard }], guard := some (7, false) }) (v := undef) rfl (by kernel_rfl) (by kernel_rfl) (by kernel_rfl) (fun _ _ _ h => h) (Or.inr ⟨by rfl, rfl⟩) hH ?_
                      simp only [Act.put, List.setIfInBounds_toArray, List.set_cons_zero, List.set_cons_succ]
                      refine wpAnyH_take (i := 17) (oi := { dst := some 131, op := Op.binOp BinOp.neq 9 (Operand.tmp 125) (Operand.tmp 130) 9, type := 4, pos := "law.go:250", after := #[{ on := 11, ground := Ground.data }, { on := 16, ground := Ground.data }, { on := 7, ground := Ground.guard }], guard := some (7, false) }) (v := undef) rfl (by kernel_rfl) (by kernel_rfl) (by kernel_rfl) (fun _ _ _ h => h) (Or.inr ⟨by rfl, rfl⟩) hH ?_
                      simp only [Act.put, List.setIfInBounds_toArray, List.set_cons_zero, List.set_cons_succ]
                      refine wpAnyH_take (i := 18) (oi := { dst := some 132, op := Op.pick (Operand.tmp 121) (Operand.const (Value.bool true)) (Operand.tmp 131), type := 4, pos := "law.go:250", after := #[{ on := 7, ground := Ground.data }, { on := 17, ground := Ground.data }, { on := 2, ground := Ground.guard }], guard := some (2, true) }) (v := undef) rfl (by kernel_rfl) (by kernel_rfl) (by kernel_rfl) (fun _ _ _ h => h) (Or.inr ⟨by rfl, rfl⟩) hH ?_
                      simp only [Act.put, List.setIfInBounds_toArray, List.set_cons_zero, List.set_cons_succ]
                      refine wpAnyH_take (i := 19) (oi := { dst := some 133, op := Op.pick (Operand.tmp 116) (Operand.tmp 132) (Operand.const (Value.bool false)), type := 4, pos := "law.go:250", after := #[{ on := 2, ground := Ground.data }, { on := 18, ground := Ground.data }], guard := none }) (v := .bool false) rfl (by kernel_rfl) (by kernel_rfl) (by kernel_rfl) (fun _ _ _ h => h) (Or.inl ⟨by rfl, fun wx hS => ?_⟩) hH ?_
                      · go_simp
                      simp only [Act.put, List.setIfInBounds_toArray, List.set_cons_zero, List.set_cons_succ]
                      refine wpAnyH_done (by kernel_rfl) ?_ _
                      refine NoPanic.normal ?_
                      clear hH
                      have HW5 := Lib.hid (HSK.out (Or.inl (HGE.out.1 rfl)))
                      have HR6 := Lib.hid HR5.out.drew
                      have HD6 := Lib.hid HD5.out.drew
                      clear HR5 HD5
                      generalize w5.drew = w6 at *
                      go_wp2_with fail
                      go_roundw
                      case rel => exact ⟨n + 1, W, by omega, by go_num, HW5, HR6, HD6⟩
                      case measure => simp [intOf]; omega
                    | false =>
                      have hng : Hid (nm ∉ goneL E) := Lib.hid (fun h => by have := HGE.out.2 h; cases this)
                      have hdd := str_eqb s nm
                      obtain ⟨d2, hd2⟩ : ∃ d2, d2 = decide (s = nm) := ⟨_, rfl⟩
                      rw [← hd2] at hdd
                      have HD2 := Lib.hid hd2
                      clear hd2
                      have pne : (p == W.length) = false := by simp; omega
                      refine wp_region_noPanic ?_
                      refine wp_region_held_drew (S := fun x => Below w1.heap.size w1 x ∧ x.cell? ⟨wb, wo + p, none⟩ = some (.string (str s))) (by kernel_rfl) ⟨HD5.out.drew, wtc5⟩ (fun hH => ?_)
                      refine wpAnyH_take (i := 0) (oi := { dst := some 114, op := Op.move (Operand.tmp 10), type := 4, pos := "law.go:250", after := #[], guard := none }) (v := .bool false) rfl (by kernel_rfl) (by kernel_rfl) (by kernel_rfl) (fun _ _ _ h => h) (Or.inl ⟨by rfl, fun wx hS => ?_⟩) hH ?_
                      · go_simp
                      simp only [Act.put, List.setIfInBounds_toArray, List.set_cons_zero, List.set_cons_succ]
                      refine wpAnyH_take (i := 1) (oi := { dst := some 115, op := Op.unOp UnOp.not 4 (Operand.tmp 114), type := 4, pos := "law.go:250", after := #[{ on := 0, ground := Ground.data }], guard := none }) (v := .bool true) rfl (by kernel_rfl) (by kernel_rfl) (by kernel_rfl) (fun _ _ _ h => h) (Or.inl ⟨by rfl, fun wx hS => ?_⟩) hH ?_
                      · go_simp
                      simp only [Act.put, List.setIfInBounds_toArray, List.set_cons_zero, List.set_cons_succ]
                      refine wpAnyH_take (i := 2) (oi := { dst := some 116, op := Op.move (Operand.tmp 115), type := 4, pos := "law.go:250", after := #[{ on := 1, ground := Ground.data }], guard := none }) (v := .bool true) rfl (by kernel_rfl) (by kernel_rfl) (by kernel_rfl) (fun _ _ _ h => h) (Or.inl ⟨by rfl, fun wx hS => ?_⟩) hH ?_
                      · go_simp
                      simp only [Act.put, List.setIfInBounds_toArray, List.set_cons_zero, List.set_cons_succ]
                      refine wpAnyH_take (i := 3) (oi := { dst := some 117, op := Op.move (Operand.tmp 13), type := 3, pos := "law.go:250", after := #[{ on := 2, ground := Ground.guard }], guard := some (2, true) }) (v := .int .i64 (p : Int)) rfl (by kernel_rfl) (by kernel_rfl) (by kernel_rfl) (fun _ _ _ h => h) (Or.inl ⟨by rfl, fun wx hS => ?_⟩) hH ?_
                      · go_simp
                      simp only [Act.put, List.setIfInBounds_toArray, List.set_cons_zero, List.set_cons_succ]
                      refine wpAnyH_take (i := 4) (oi := { dst := some 118, op := Op.move (Operand.tmp 8), type := 22, pos := "law.go:250", after := #[{ on := 2, ground := Ground.guard }], guard := some (2, true) }) (v := .slice (some ⟨wb, wo, none⟩) W.length vc) rfl (by kernel_rfl) (by kernel_rfl) (by kernel_rfl) (fun _ _ _ h => h) (Or.inl ⟨by rfl, fun wx hS => ?_⟩) hH ?_
                      · go_simp
                      simp only [Act.put, List.setIfInBounds_toArray, List.set_cons_zero, List.set_cons_succ]
                      refine wpAnyH_take (i := 5) (oi := { dst := some 119, op := Op.call { callee := Callee.builtin Builtin.len, args := #[Operand.tmp 118], argTypes := #[22] }, type := 3, pos := "law.go:250", after := #[{ on := 4, ground := Ground.data }, { on := 2, ground := Ground.guard }], guard := some (2, true) }) (v := .int .i64 (W.length : Int)) rfl (by kernel_rfl) (by kernel_rfl) (by kernel_rfl) (fun _ _ _ h => h) (Or.inl ⟨by rfl, fun wx hS => ?_⟩) hH ?_
                      · go_simp
                      simp only [Act.put, List.setIfInBounds_toArray, List.set_cons_zero, List.set_cons_succ]
                      refine wpAnyH_take (i := 6) (oi := { dst := some 120, op := Op.binOp BinOp.eql 3 (Operand.tmp 117) (Operand.tmp 119) 3, type := 4, pos := "law.go:250", after := #[{ on := 3, ground := Ground.data }, { on := 5, ground := Ground.data }, { on := 2, ground := Ground.guard }], guard := some (2, true) }) (v := .bool false) rfl (by kernel_rfl) (by kernel_rfl) (by kernel_rfl) (fun _ _ _ h => h) (Or.inl ⟨by rfl, fun wx hS => ?_⟩) hH ?_
                      · go_simp; first | omega | (simp; omega)
                      simp only [Act.put, List.setIfInBounds_toArray, List.set_cons_zero, List.set_cons_succ]
                      refine wpAnyH_take (i := 7) (oi := { dst := some 121, op := Op.move (Operand.tmp 120), type := 4, pos := "law.go:250", after := #[{ on := 6, ground := Ground.data }, { on := 2, ground := Ground.chain }, { on := 2, ground := Ground.guard }], guard := some (2, true) }) (v := .bool false) rfl (by kernel_rfl) (by kernel_rfl) (by kernel_rfl) (fun _ _ _ h => h) (Or.inl ⟨by rfl, fun wx hS => ?_⟩) hH ?_
                      · go_simp
                      simp only [Act.put, List.setIfInBounds_toArray, List.set_cons_zero, List.set_cons_succ]
                      refine wpAnyH_take (i := 8) (oi := { dst := some 122, op := Op.move (Operand.tmp 8), type := 22, pos := "law.go:250", after := #[{ on := 7, ground := Ground.guard }], guard := some (7, false) }) (v := .slice (some ⟨wb, wo, none⟩) W.length vc) rfl (by kernel_rfl) (by kernel_rfl) (by kernel_rfl) (fun _ _ _ h => h) (Or.inl ⟨by rfl, fun wx hS => ?_⟩) hH ?_
                      · go_simp
                      simp only [Act.put, List.setIfInBounds_toArray, List.set_cons_zero, List.set_cons_succ]
                      refine wpAnyH_take (i := 9) (oi := { dst := some 123, op := Op.move (Operand.tmp 13), type := 3, pos := "law.go:250", after := #[{ on := 7, ground := Ground.guard }], guard := some (7, false) }) (v := .int .i64 (p : Int)) rfl (by kernel_rfl) (by kernel_rfl) (by kernel_rfl) (fun _ _ _ h => h) (Or.inl ⟨by rfl, fun wx hS => ?_⟩) hH ?_
                      · go_simp
                      simp only [Act.put, List.setIfInBounds_toArray, List.set_cons_zero, List.set_cons_succ]
                      refine wpAnyH_take (i := 10) (oi := { dst := some 124, op := Op.indexAddr 22 (Operand.tmp 122) (Operand.tmp 123), type := 0, pos := "law.go:250", after := #[{ on := 8, ground := Ground.data }, { on := 9, ground := Ground.data }, { on := 7, ground := Ground.guard }], guard := some (7, false) }) (v := .pointer (some ⟨wb, wo + p, none⟩)) rfl (by kernel_rfl) (by kernel_rfl) (by kernel_rfl) (fun _ _ _ h => h) (Or.inl ⟨by rfl, fun wx hS => ?_⟩) hH ?_
                      · go_simp
                      simp only [Act.put, List.setIfInBounds_toArray, List.set_cons_zero, List.set_cons_succ]
                      refine wpAnyH_take (i := 11) (oi := { dst := some 125, op := Op.load 9 (Operand.tmp 124), type := 9, pos := "law.go:250", after := #[{ on := 10, ground := Ground.data }, { on := 7, ground := Ground.guard }], guard := some (7, false) }) (v := .string (str s)) rfl (by kernel_rfl) (by kernel_rfl) (by kernel_rfl) (fun _ _ _ h => h) (Or.inl ⟨by rfl, fun wx hS => ?_⟩) hH ?_
                      · obtain ⟨-, q2⟩ := hS; go_simp
                      simp only [Act.put, List.setIfInBounds_toArray, List.set_cons_zero, List.set_cons_succ]
                      refine wpAnyH_take (i := 12) (oi := { dst := some 126, op := Op.move (Operand.tmp 5), type := 24, pos := "law.go:250", after := #[{ on := 7, ground := Ground.guard }], guard := some (7, false) }) (v := .slice (some ⟨lb, lo, none⟩) E.length lc) rfl (by kernel_rfl) (by kernel_rfl) (by kernel_rfl) (fun _ _ _ h => h) (Or.inl ⟨by rfl, fun wx hS => ?_⟩) hH ?_
                      · go_simp
                      simp only [Act.put, List.setIfInBounds_toArray, List.set_cons_zero, List.set_cons_succ]
                      refine wpAnyH_take (i := 13) (oi := { dst := some 127, op := Op.move (Operand.tmp 9), type := 3, pos := "law.go:250", after := #[{ on := 7, ground := Ground.guard }], guard := some (7, false) }) (v := .int .i64 (n : Int)) rfl (by kernel_rfl) (by kernel_rfl) (by kernel_rfl) (fun _ _ _ h => h) (Or.inl ⟨by rfl, fun wx hS => ?_⟩) hH ?_
                      · go_simp
                      simp only [Act.put, List.setIfInBounds_toArray, List.set_cons_zero, List.set_cons_succ]
                      refine wpAnyH_take (i := 14) (oi := { dst := some 128, op := Op.indexAddr 24 (Operand.tmp 126) (Operand.tmp 127), type := 0, pos := "law.go:250", after := #[{ on := 12, ground := Ground.data }, { on := 13, ground := Ground.data }, { on := 7, ground := Ground.guard }], guard := some (7, false) }) (v := .pointer (some ⟨lb, lo + n * 3, none⟩)) rfl (by kernel_rfl) (by kernel_rfl) (by kernel_rfl) (fun _ _ _ h => h) (Or.inl ⟨by rfl, fun wx hS => ?_⟩) hH ?_
                      · go_simp
                      simp only [Act.put, List.setIfInBounds_toArray, List.set_cons_zero, List.set_cons_succ]
                      refine wpAnyH_take (i := 15) (oi := { dst := some 129, op := Op.fieldAddr 29 (Operand.tmp 128) 0, type := 0, pos := "law.go:250", after := #[{ on := 14, ground := Ground.data }, { on := 7, ground := Ground.guard }], guard := some (7, false) }) (v := .pointer (some ⟨lb, lo + n * 3, none⟩)) rfl (by kernel_rfl) (by kernel_rfl) (by kernel_rfl) (fun _ _ _ h => h) (Or.inl ⟨by rfl, fun wx hS => ?_⟩) hH ?_
                      · go_simp
                      simp only [Act.put, List.setIfInBounds_toArray, List.set_cons_zero, List.set_cons_succ]
                      refine wpAnyH_take (i := 16) (oi := { dst := some 130, op := Op.load 9 (Operand.tmp 129), type := 9, pos := "law.go:250", after := #[{ on := 15, ground := Ground.data }, { on := 7, ground := Ground.guard }], guard := some (7, false) }) (v := .string (str nm)) rfl (by kernel_rfl) (by kernel_rfl) (by kernel_rfl) (fun _ _ _ h => h) (Or.inl ⟨by rfl, fun wx hS => ?_⟩) hH ?_
                      · have q2 := HCN.out wx hS.1; go_simp
                      simp only [Act.put, List.setIfInBounds_toArray, List.set_cons_zero, List.set_cons_succ]
                      refine wpAnyH_take (i := 17) (oi := { dst := some 131, op := Op.binOp BinOp.neq 9 (Operand.tmp 125) (Operand.tmp 130) 9, type := 4, pos := "law.go:250", after := #[{ on := 11, ground := Ground.data }, { on := 16, ground := Ground.data }, { on := 7, ground := Ground.guard }], guard := some (7, false) }) (v := .bool (!d2)) rfl (by kernel_rfl) (by kernel_rfl) (by kernel_rfl) (fun _ _ _ h => h) (Or.inl ⟨by rfl, fun wx hS => ?_⟩) hH ?_
                      · go_simp
                      simp only [Act.put, List.setIfInBounds_toArray, List.set_cons_zero, List.set_cons_succ]
                      refine wpAnyH_take (i := 18) (oi := { dst := some 132, op := Op.pick (Operand.tmp 121) (Operand.const (Value.bool true)) (Operand.tmp 131), type := 4, pos := "law.go:250", after := #[{ on := 7, ground := Ground.data }, { on := 17, ground := Ground.data }, { on := 2, ground := Ground.guard }], guard := some (2, true) }) (v := .bool (!d2)) rfl (by kernel_rfl) (by kernel_rfl) (by kernel_rfl) (fun _ _ _ h => h) (Or.inl ⟨by rfl, fun wx hS => ?_⟩) hH ?_
                      · go_simp
                      simp only [Act.put, List.setIfInBounds_toArray, List.set_cons_zero, List.set_cons_succ]
                      refine wpAnyH_take (i := 19) (oi := { dst := some 133, op := Op.pick (Operand.tmp 116) (Operand.tmp 132) (Operand.const (Value.bool false)), type := 4, pos := "law.go:250", after := #[{ on := 2, ground := Ground.data }, { on := 18, ground := Ground.data }], guard := none }) (v := .bool (!d2)) rfl (by kernel_rfl) (by kernel_rfl) (by kernel_rfl) (fun _ _ _ h => h) (Or.inl ⟨by rfl, fun wx hS => ?_⟩) hH ?_
                      · go_simp
                      simp only [Act.put, List.setIfInBounds_toArray, List.set_cons_zero, List.set_cons_succ]
                      refine wpAnyH_done (by kernel_rfl) ?_ _
                      refine NoPanic.normal ?_
                      clear hH
                      have HR6 := Lib.hid HR5.out.drew
                      have HD6 := Lib.hid HD5.out.drew
                      clear HR5 HD5 wtc5
                      generalize w5.drew = w6 at *
                      cases d2 with
                      | true =>
                        have HW5 := Lib.hid (HSK.out (Or.inr (by
                          have e : s = nm := of_decide_eq_true HD2.out.symm
                          rw [← e, HSS.out]
                          exact List.getElem_mem hpl)))
                        go_wp2_with fail
                        go_roundw
                        case rel => exact ⟨n + 1, W, by omega, by go_num, HW5, HR6, HD6⟩
                        case measure => simp [intOf]; omega
                      | false =>
                        have HWN := Lib.hid (HPT.out hng.out p HLS.out (fun hp => ⟨HH2.out hp, fun e => by
                          have : s = nm := HSS.out.trans e
                          have := HD2.out
                          simp_all⟩))
                        clear HSK HPT HSS HD2 HLS HH2 hdd hd0
                        obtain ⟨hs1, ht1⟩ := sl_take (own_texts HR6.out) p (by omega)
                        obtain ⟨dv, hs2, ht2⟩ := sl_drop (own_texts HR6.out) p (by omega)
                        have HT1 := Lib.hid ht1
                        have HT2 := Lib.hid ht2
                        have HSZ : Hid (w1.heap.size ≤ w6.heap.size) := Lib.hid HD6.out.size
                        clear ht1 ht2
                        go_wp2_with fail
                        refine wp_region_noPanic ?_
                        refine wp_region_held_drew (S := fun x => Below w6.heap.size w6 x) (by kernel_rfl) (Below.refl _ w6).drew (fun hH => ?_)
                        generalize w6.drew = y0 at *
                        refine wpAnyH_take (i := 1) (oi := { dst := some 135, op := Op.move (Operand.tmp 8), type := 22, pos := "law.go:251", after := #[], guard := none }) (v := .slice (some ⟨wb, wo, none⟩) W.length vc) rfl (by kernel_rfl) (by kernel_rfl) (by kernel_rfl) (fun _ _ _ h => h) (Or.inl ⟨by rfl, fun wx hS => ?_⟩) hH ?_
                        · go_simp
                        simp only [Act.put, List.setIfInBounds_toArray, List.set_cons_zero, List.set_cons_succ]
                        refine wpAnyH_take (i := 2) (oi := { dst := some 136, op := Op.move (Operand.tmp 13), type := 3, pos := "law.go:251", after := #[], guard := none }) (v := .int .i64 (p : Int)) rfl (by kernel_rfl) (by kernel_rfl) (by kernel_rfl) (fun _ _ _ h => h) (Or.inl ⟨by rfl, fun wx hS => ?_⟩) hH ?_
                        · go_simp
                        simp only [Act.put, List.setIfInBounds_toArray, List.set_cons_zero, List.set_cons_succ]
                        refine wpAnyH_take (i := 3) (oi := { dst := some 137, op := Op.slice 22 (Operand.tmp 135) none (some (Operand.tmp 136)) none, type := 22, pos := "law.go:251", after := #[{ on := 1, ground := Ground.data }, { on := 2, ground := Ground.data }], guard := none }) (v := .slice (some ⟨wb, wo, none⟩) p vc) rfl (by kernel_rfl) (by kernel_rfl) (by kernel_rfl) (fun _ _ _ h => h) (Or.inl ⟨by rfl, fun wx hS => ?_⟩) hH ?_
                        · have q2 := hs1 wx; go_simp
                        simp only [Act.put, List.setIfInBounds_toArray, List.set_cons_zero, List.set_cons_succ]
                        refine wpAnyH_take (i := 5) (oi := { dst := some 139, op := Op.move (Operand.tmp 5), type := 24, pos := "law.go:251", after := #[], guard := none }) (v := .slice (some ⟨lb, lo, none⟩) E.length lc) rfl (by kernel_rfl) (by kernel_rfl) (by kernel_rfl) (fun _ _ _ h => h) (Or.inl ⟨by rfl, fun wx hS => ?_⟩) hH ?_
                        · go_simp
                        simp only [Act.put, List.setIfInBounds_toArray, List.set_cons_zero, List.set_cons_succ]
                        refine wpAnyH_take (i := 6) (oi := { dst := some 140, op := Op.move (Operand.tmp 9), type := 3, pos := "law.go:251", after := #[], guard := none }) (v := .int .i64 (n : Int)) rfl (by kernel_rfl) (by kernel_rfl) (by kernel_rfl) (fun _ _ _ h => h) (Or.inl ⟨by rfl, fun wx hS => ?_⟩) hH ?_
                        · go_simp
                        simp only [Act.put, List.setIfInBounds_toArray, List.set_cons_zero, List.set_cons_succ]
                        refine wpAnyH_take (i := 7) (oi := { dst := some 141, op := Op.indexAddr 24 (Operand.tmp 139) (Operand.tmp 140), type := 0, pos := "law.go:251", after := #[{ on := 5, ground := Ground.data }, { on := 6, ground := Ground.data }], guard := none }) (v := .pointer (some ⟨lb, lo + n * 3, none⟩)) rfl (by kernel_rfl) (by kernel_rfl) (by kernel_rfl) (fun _ _ _ h => h) (Or.inl ⟨by rfl, fun wx hS => ?_⟩) hH ?_
                        · go_simp
                        simp only [Act.put, List.setIfInBounds_toArray, List.set_cons_zero, List.set_cons_succ]
                        refine wpAnyH_take (i := 8) (oi := { dst := some 142, op := Op.fieldAddr 29 (Operand.tmp 141) 0, type := 0, pos := "law.go:251", after := #[{ on := 7, ground := Ground.data }], guard := none }) (v := .pointer (some ⟨lb, lo + n * 3, none⟩)) rfl (by kernel_rfl) (by kernel_rfl) (by kernel_rfl) (fun _ _ _ h => h) (Or.inl ⟨by rfl, fun wx hS => ?_⟩) hH ?_
                        · go_simp
                        simp only [Act.put, List.setIfInBounds_toArray, List.set_cons_zero, List.set_cons_succ]
                        refine wpAnyH_take (i := 9) (oi := { dst := some 143, op := Op.load 9 (Operand.tmp 142), type := 9, pos := "law.go:251", after := #[{ on := 8, ground := Ground.data }], guard := none }) (v := .string (str nm)) rfl (by kernel_rfl) (by kernel_rfl) (by kernel_rfl) (fun _ _ _ h => h) (Or.inl ⟨by rfl, fun wx hS => ?_⟩) hH ?_
                        · have q2 := HCN.out wx (HD6.out.trans (hS.mono HSZ.out)); go_simp
                        simp only [Act.put, List.setIfInBounds_toArray, List.set_cons_zero, List.set_cons_succ]
                        refine wpAnyH_take (i := 12) (oi := { dst := some 146, op := Op.move (Operand.tmp 8), type := 22, pos := "law.go:251", after := #[], guard := none }) (v := .slice (some ⟨wb, wo, none⟩) W.length vc) rfl (by kernel_rfl) (by kernel_rfl) (by kernel_rfl) (fun _ _ _ h => h) (Or.inl ⟨by rfl, fun wx hS => ?_⟩) hH ?_
                        · go_simp
                        simp only [Act.put, List.setIfInBounds_toArray, List.set_cons_zero, List.set_cons_succ]
                        refine wpAnyH_take (i := 13) (oi := { dst := some 147, op := Op.move (Operand.tmp 13), type := 3, pos := "law.go:251", after := #[], guard := none }) (v := .int .i64 (p : Int)) rfl (by kernel_rfl) (by kernel_rfl) (by kernel_rfl) (fun _ _ _ h => h) (Or.inl ⟨by rfl, fun wx hS => ?_⟩) hH ?_
                        · go_simp
                        simp only [Act.put, List.setIfInBounds_toArray, List.set_cons_zero, List.set_cons_succ]
                        refine wpAnyH_take (i := 14) (oi := { dst := some 148, op := Op.slice 22 (Operand.tmp 146) (some (Operand.tmp 147)) none none, type := 22, pos := "law.go:251", after := #[{ on := 12, ground := Ground.data }, { on := 13, ground := Ground.data }], guard := none }) (v := dv) rfl (by kernel_rfl) (by kernel_rfl) (by kernel_rfl) (fun _ _ _ h => h) (Or.inl ⟨by rfl, fun wx hS => ?_⟩) hH ?_
                        · have q2 := hs2 wx; go_simp
                        simp only [Act.put, List.setIfInBounds_toArray, List.set_cons_zero, List.set_cons_succ]
                        clear hs1 hs2
                        refine wpAnyH_ready (rs := [0, 10]) (by kernel_rfl) (by simp) ?_
                        refine AllReadyH.cons (o := { dst := some 134, op := Op.buildSlice 22 0 #[], type := 22, pos := "law.go:251", after := #[], guard := none }) rfl (fun KK hKK => ?_) (AllReadyH.cons (o := { dst := some 144, op := Op.buildSlice 22 1 #[(0, Operand.tmp 143)], type := 22, pos := "law.go:251", after := #[{ on := 9, ground := Ground.data }], guard := none }) rfl (fun KK hKK => ?_) AllReadyH.nil)
                        · have kb := alloc_below y0 (.cells #[] 9 (0, 0))
                          have HA : Hid ((y0.alloc (.cells #[] 9 (0, 0))).ownsRow w6.heap.size 9 1 (.slice (some ⟨y0.heap.size, 0, none⟩) 0 0) ([] : List (List UInt8)).length (txs [])) := Lib.hid (World.ownsRow_lit y0 #[] 0 hH.size (by decide) (by simp))
                          have hN := hH.trans (kb.mono hH.size)
                          clear hH kb
                          go_simp
                          refine hKK.out _ _ hN (fun hH => ?_)
                          clear hKK KK hN
                          try simp only [Act.put, List.setIfInBounds_toArray, List.set_cons_zero, List.set_cons_succ]
                          generalize y0.alloc (.cells #[] 9 (0, 0)) = y1 at *
                          generalize y0.heap.size = ga at *
                          refine wpAnyH_ready (rs := [4, 10]) (by kernel_rfl) (by simp) ?_
                          refine AllReadyH.cons (o := { dst := some 138, op := Op.call { callee := Callee.builtin Builtin.append, args := #[Operand.tmp 134, Operand.tmp 137], argTypes := #[22, 22] }, type := 22, pos := "law.go:251", after := #[{ on := 0, ground := Ground.data }, { on := 3, ground := Ground.data }], guard := none }) rfl (fun KK hKK => ?_) (AllReadyH.cons (o := { dst := some 144, op := Op.buildSlice 22 1 #[(0, Operand.tmp 143)], type := 22, pos := "law.go:251", after := #[{ on := 9, ground := Ground.data }], guard := none }) rfl (fun KK hKK => ?_) AllReadyH.nil)
                          · refine step_append_txs (by rfl) _ _ rfl w6.heap.size _ [] (W.take p) rfl HA.out _ rfl (HT1.out.below hH (Nat.le_refl _)) (by simp; omega) hH.size ?_
                            intro v4 y2 q1 q2 q3
                            have hN := hH.trans q3.out
                            have HC := q1
                            rw [List.nil_append] at HC
                            clear hH q1 q2 q3 HA
                            refine hKK.out _ _ hN (fun hH => ?_)
                            clear hKK KK hN
                            try simp only [Act.put, List.setIfInBounds_toArray, List.set_cons_zero, List.set_cons_succ]
                            refine wpAnyH_ready (rs := [10]) (by kernel_rfl) (by simp) ?_
                            refine AllReadyH.cons (o := { dst := some 144, op := Op.buildSlice 22 1 #[(0, Operand.tmp 143)], type := 22, pos := "law.go:251", after := #[{ on := 9, ground := Ground.data }], guard := none }) rfl (fun KK hKK => ?_) AllReadyH.nil
                            have kb := alloc_below y2 (.cells #[.string (str nm)] 9 (0, 0))
                            have HB : Hid (blockIs (y2.alloc (.cells #[.string (str nm)] 9 (0, 0))) y2.heap.size [.string (str nm)] 9) := Lib.hid (blockIs.new y2 [.string (str nm)] 9)
                            replace HC := Lib.hid (row_below HC.out kb (Nat.le_refl _))
                            have hN := hH.trans (kb.mono hH.size)
                            clear hH kb
                            go_simp
                            refine hKK.out _ _ hN (fun hH => ?_)
                            clear hKK KK hN
                            try simp only [Act.put, List.setIfInBounds_toArray, List.set_cons_zero, List.set_cons_succ]
                            generalize y2.alloc (.cells #[.string (str nm)] 9 (0, 0)) = y3 at *
                            generalize y2.heap.size = gb at *
                            refine wpAnyH_ready (rs := [11]) (by kernel_rfl) (by simp) ?_
                            refine AllReadyH.cons (o := { dst := some 145, op := Op.call { callee := Callee.builtin Builtin.append, args := #[Operand.tmp 138, Operand.tmp 144], argTypes := #[22, 22] }, type := 22, pos := "law.go:251", after := #[{ on := 4, ground := Ground.data }, { on := 10, ground := Ground.data }, { on := 4, ground := Ground.chain }], guard := none }) rfl (fun KK hKK => ?_) AllReadyH.nil
                            refine step_append_txs (by rfl) _ _ rfl w6.heap.size _ (W.take p) [nm] rfl HC.out _ rfl (texts_one HB.out) (by simp; omega) hH.size ?_
                            intro v5 y4 q1 q2 q3
                            have hN := hH.trans q3.out
                            have HC2 := q1
                            clear hH q1 q2 q3 HC HB
                            refine hKK.out _ _ hN (fun hH => ?_)
                            clear hKK KK hN
                            try simp only [Act.put, List.setIfInBounds_toArray, List.set_cons_zero, List.set_cons_succ]
                            refine wpAnyH_ready (rs := [15]) (by kernel_rfl) (by simp) ?_
                            refine AllReadyH.cons (o := { dst := some 149, op := Op.call { callee := Callee.builtin Builtin.append, args := #[Operand.tmp 145, Operand.tmp 148], argTypes := #[22, 22] }, type := 22, pos := "law.go:251", after := #[{ on := 11, ground := Ground.data }, { on := 14, ground := Ground.data }, { on := 11, ground := Ground.chain }], guard := none }) rfl (fun KK hKK => ?_) AllReadyH.nil
                            refine step_append_txs (by rfl) _ _ rfl w6.heap.size _ (W.take p ++ [nm]) (W.drop p) rfl HC2.out _ rfl (HT2.out.below hH (Nat.le_refl _)) (by simp; omega) hH.size ?_
                            intro v6 y5 q1 q2 q3
                            have hN := hH.trans q3.out
                            have HC3 := q1
                            clear hH q1 q2 q3 HC2
                            refine hKK.out _ _ hN (fun hH => ?_)
                            clear hKK KK hN
                            try simp only [Act.put, List.setIfInBounds_toArray, List.set_cons_zero, List.set_cons_succ]
                            refine wpAnyH_take (i := 16) (oi := { dst := some 8, op := Op.assign (Operand.tmp 149), type := 22, pos := "law.go:251", after := #[{ on := 15, ground := Ground.data }, { on := 15, ground := Ground.chain }, { on := 0, ground := Ground.phase }, { on := 1, ground := Ground.phase }, { on := 2, ground := Ground.phase }, { on := 3, ground := Ground.phase }, { on := 4, ground := Ground.phase }, { on := 5, ground := Ground.phase }, { on := 6, ground := Ground.phase }, { on := 7, ground := Ground.phase }, { on := 8, ground := Ground.phase }, { on := 9, ground := Ground.phase }, { on := 10, ground := Ground.phase }, { on := 11, ground := Ground.phase }, { on := 12, ground := Ground.phase }, { on := 13, ground := Ground.phase }, { on := 14, ground := Ground.phase }, { on := 15, ground := Ground.phase }], guard := none }) (v := v6) rfl (by kernel_rfl) (by kernel_rfl) (by kernel_rfl) (fun _ _ _ h => h) (Or.inl ⟨by rfl, fun wx hS => ?_⟩) hH ?_
                            · go_simp
                            simp only [Act.put, List.setIfInBounds_toArray, List.set_cons_zero, List.set_cons_succ]
                            refine wpAnyH_done (by kernel_rfl) ?_ _
                            refine NoPanic.normal ?_
                            have HR7 := Lib.hid (Go.Joins.ownsRow_le HC3.out HSZ.out)
                            have HD7 := Lib.hid (HD6.out.trans (hH.mono HSZ.out))
                            clear hH HC3 HT1 HT2
                            go_wp2_with fail
                            go_roundw
                            case rel => exact ⟨n + 1, (W.take p ++ [nm]) ++ W.drop p, by omega, by go_num, HWN, HR7, HD7⟩
                            case measure => simp [intOf]; omega
                          · have kb := alloc_below y1 (.cells #[.string (str nm)] 9 (0, 0))
                            have HB : Hid (blockIs (y1.alloc (.cells #[.string (str nm)] 9 (0, 0))) y1.heap.size [.string (str nm)] 9) := Lib.hid (blockIs.new y1 [.string (str nm)] 9)
                            have HNE : Hid (ga ≠ y1.heap.size) := Lib.hid (fun e => by have := (HA.out.lt ga rfl).2; omega)
                            replace HA := Lib.hid (row_below HA.out kb (Nat.le_refl _))
                            have hN := hH.trans (kb.mono hH.size)
                            clear hH kb
                            go_simp
                            refine hKK.out _ _ hN (fun hH => ?_)
                            clear hKK KK hN
                            try simp only [Act.put, List.setIfInBounds_toArray, List.set_cons_zero, List.set_cons_succ]
                            generalize y1.alloc (.cells #[.string (str nm)] 9 (0, 0)) = y2 at *
                            generalize y1.heap.size = gb at *
                            refine wpAnyH_ready (rs := [4]) (by kernel_rfl) (by simp) ?_
                            refine AllReadyH.cons (o := { dst := some 138, op := Op.call { callee := Callee.builtin Builtin.append, args := #[Operand.tmp 134, Operand.tmp 137], argTypes := #[22, 22] }, type := 22, pos := "law.go:251", after := #[{ on := 0, ground := Ground.data }, { on := 3, ground := Ground.data }], guard := none }) rfl (fun KK hKK => ?_) AllReadyH.nil
                            refine step_append_txs (by rfl) _ _ rfl w6.heap.size _ [] (W.take p) rfl HA.out _ rfl (HT1.out.below hH (Nat.le_refl _)) (by simp; omega) hH.size ?_
                            intro v4 y3 q1 q2 q3
                            have hN := hH.trans q3.out
                            have HC := q1
                            rw [List.nil_append] at HC
                            replace HB : Hid (blockIs y3 gb [.string (str nm)] 9) := Lib.hid ((q2.out.block gb HB.out.lt (fun e => HNE.out (Option.some.inj e).symm)).trans HB.out)
                            clear hH q1 q2 q3 HA HNE
                            refine hKK.out _ _ hN (fun hH => ?_)
                            clear hKK KK hN
                            try simp only [Act.put, List.setIfInBounds_toArray, List.set_cons_zero, List.set_cons_succ]
                            refine wpAnyH_ready (rs := [11]) (by kernel_rfl) (by simp) ?_
                            refine AllReadyH.cons (o := { dst := some 145, op := Op.call { callee := Callee.builtin Builtin.append, args := #[Operand.tmp 138, Operand.tmp 144], argTypes := #[22, 22] }, type := 22, pos := "law.go:251", after := #[{ on := 4, ground := Ground.data }, { on := 10, ground := Ground.data }, { on := 4, ground := Ground.chain }], guard := none }) rfl (fun KK hKK => ?_) AllReadyH.nil
                            refine step_append_txs (by rfl) _ _ rfl w6.heap.size _ (W.take p) [nm] rfl HC.out _ rfl (texts_one HB.out) (by simp; omega) hH.size ?_
                            intro v5 y4 q1 q2 q3
                            have hN := hH.trans q3.out
                            have HC2 := q1
                            clear hH q1 q2 q3 HC HB
                            refine hKK.out _ _ hN (fun hH => ?_)
                            clear hKK KK hN
                            try simp only [Act.put, List.setIfInBounds_toArray, List.set_cons_zero, List.set_cons_succ]
                            refine wpAnyH_ready (rs := [15]) (by kernel_rfl) (by simp) ?_
                            refine AllReadyH.cons (o := { dst := some 149, op := Op.call { callee := Callee.builtin Builtin.append, args := #[Operand.tmp 145, Operand.tmp 148], argTypes := #[22, 22] }, type := 22, pos := "law.go:251", after := #[{ on := 11, ground := Ground.data }, { on := 14, ground := Ground.data }, { on := 11, ground := Ground.chain }], guard := none }) rfl (fun KK hKK => ?_) AllReadyH.nil
                            refine step_append_txs (by rfl) _ _ rfl w6.heap.size _ (W.take p ++ [nm]) (W.drop p) rfl HC2.out _ rfl (HT2.out.below hH (Nat.le_refl _)) (by simp; omega) hH.size ?_
                            intro v6 y5 q1 q2 q3
                            have hN := hH.trans q3.out
                            have HC3 := q1
                            clear hH q1 q2 q3 HC2
                            refine hKK.out _ _ hN (fun hH => ?_)
                            clear hKK KK hN
                            try simp only [Act.put, List.setIfInBounds_toArray, List.set_cons_zero, List.set_cons_succ]
                            refine wpAnyH_take (i := 16) (oi := { dst := some 8, op := Op.assign (Operand.tmp 149), type := 22, pos := "law.go:251", after := #[{ on := 15, ground := Ground.data }, { on := 15, ground := Ground.chain }, { on := 0, ground := Ground.phase }, { on := 1, ground := Ground.phase }, { on := 2, ground := Ground.phase }, { on := 3, ground := Ground.phase }, { on := 4, ground := Ground.phase }, { on := 5, ground := Ground.phase }, { on := 6, ground := Ground.phase }, { on := 7, ground := Ground.phase }, { on := 8, ground := Ground.phase }, { on := 9, ground := Ground.phase }, { on := 10, ground := Ground.phase }, { on := 11, ground := Ground.phase }, { on := 12, ground := Ground.phase }, { on := 13, ground := Ground.phase }, { on := 14, ground := Ground.phase }, { on := 15, ground := Ground.phase }], guard := none }) (v := v6) rfl (by kernel_rfl) (by kernel_rfl) (by kernel_rfl) (fun _ _ _ h => h) (Or.inl ⟨by rfl, fun wx hS => ?_⟩) hH ?_
                            · go_simp
                            simp only [Act.put, List.setIfInBounds_toArray, List.set_cons_zero, List.set_cons_succ]
                            refine wpAnyH_done (by kernel_rfl) ?_ _
                            refine NoPanic.normal ?_
                            have HR7 := Lib.hid (Go.Joins.ownsRow_le HC3.out HSZ.out)
                            have HD7 := Lib.hid (HD6.out.trans (hH.mono HSZ.out))
                            clear hH HC3 HT1 HT2
                            go_wp2_with fail
                            go_roundw
                            case rel => exact ⟨n + 1, (W.take p ++ [nm]) ++ W.drop p, by omega, by go_num, HWN, HR7, HD7⟩
                            case measure => simp [intOf]; omega
                        · have kb := alloc_below y0 (.cells #[.string (str nm)] 9 (0, 0))
                          have HB : Hid (blockIs (y0.alloc (.cells #[.string (str nm)] 9 (0, 0))) y0.heap.size [.string (str nm)] 9) := Lib.hid (blockIs.new y0 [.string (str nm)] 9)
                          have hN := hH.trans (kb.mono hH.size)
                          clear hH kb
                          go_simp
                          refine hKK.out _ _ hN (fun hH => ?_)
                          clear hKK KK hN
                          try simp only [Act.put, List.setIfInBounds_toArray, List.set_cons_zero, List.set_cons_succ]
                          generalize y0.alloc (.cells #[.string (str nm)] 9 (0, 0)) = y1 at *
                          generalize y0.heap.size = gb at *
                          refine wpAnyH_ready (rs := [0]) (by kernel_rfl) (by simp) ?_
                          refine AllReadyH.cons (o := { dst := some 134, op := Op.buildSlice 22 0 #[], type := 22, pos := "law.go:251", after := #[], guard := none }) rfl (fun KK hKK => ?_) AllReadyH.nil
                          have kb := alloc_below y1 (.cells #[] 9 (0, 0))
                          have HA : Hid ((y1.alloc (.cells #[] 9 (0, 0))).ownsRow w6.heap.size 9 1 (.slice (some ⟨y1.heap.size, 0, none⟩) 0 0) ([] : List (List UInt8)).length (txs [])) := Lib.hid (World.ownsRow_lit y1 #[] 0 hH.size (by decide) (by simp))
                          have HNE : Hid (y1.heap.size ≠ gb) := Lib.hid (fun e => by have := HB.out.lt; omega)
                          replace HB := Lib.hid (HB.out.below kb HB.out.lt)
                          have hN := hH.trans (kb.mono hH.size)
                          clear hH kb
                          go_simp
                          refine hKK.out _ _ hN (fun hH => ?_)
                          clear hKK KK hN
                          try simp only [Act.put, List.setIfInBounds_toArray, List.set_cons_zero, List.set_cons_succ]
                          generalize y1.alloc (.cells #[] 9 (0, 0)) = y2 at *
                          generalize y1.heap.size = ga at *
                          refine wpAnyH_ready (rs := [4]) (by kernel_rfl) (by simp) ?_
                          refine AllReadyH.cons (o := { dst := some 138, op := Op.call { callee := Callee.builtin Builtin.append, args := #[Operand.tmp 134, Operand.tmp 137], argTypes := #[22, 22] }, type := 22, pos := "law.go:251", after := #[{ on := 0, ground := Ground.data }, { on := 3, ground := Ground.data }], guard := none }) rfl (fun KK hKK => ?_) AllReadyH.nil
                          refine step_append_txs (by rfl) _ _ rfl w6.heap.size _ [] (W.take p) rfl HA.out _ rfl (HT1.out.below hH (Nat.le_refl _)) (by simp; omega) hH.size ?_
                          intro v4 y3 q1 q2 q3
                          have hN := hH.trans q3.out
                          have HC := q1
                          rw [List.nil_append] at HC
                          replace HB : Hid (blockIs y3 gb [.string (str nm)] 9) := Lib.hid ((q2.out.block gb HB.out.lt (fun e => HNE.out (Option.some.inj e).symm)).trans HB.out)
                          clear hH q1 q2 q3 HA HNE
                          refine hKK.out _ _ hN (fun hH => ?_)
                          clear hKK KK hN
                          try simp only [Act.put, List.setIfInBounds_toArray, List.set_cons_zero, List.set_cons_succ]
                          refine wpAnyH_ready (rs := [11]) (by kernel_rfl) (by simp) ?_
                          refine AllReadyH.cons (o := { dst := some 145, op := Op.call { callee := Callee.builtin Builtin.append, args := #[Operand.tmp 138, Operand.tmp 144], argTypes := #[22, 22] }, type := 22, pos := "law.go:251", after := #[{ on := 4, ground := Ground.data }, { on := 10, ground := Ground.data }, { on := 4, ground := Ground.chain }], guard := none }) rfl (fun KK hKK => ?_) AllReadyH.nil
                          refine step_append_txs (by rfl) _ _ rfl w6.heap.size _ (W.take p) [nm] rfl HC.out _ rfl (texts_one HB.out) (by simp; omega) hH.size ?_
                          intro v5 y4 q1 q2 q3
                          have hN := hH.trans q3.out
                          have HC2 := q1
                          clear hH q1 q2 q3 HC HB
                          refine hKK.out _ _ hN (fun hH => ?_)
                          clear hKK KK hN
                          try simp only [Act.put, List.setIfInBounds_toArray, List.set_cons_zero, List.set_cons_succ]
                          refine wpAnyH_ready (rs := [15]) (by kernel_rfl) (by simp) ?_
                          refine AllReadyH.cons (o := { dst := some 149, op := Op.call { callee := Callee.builtin Builtin.append, args := #[Operand.tmp 145, Operand.tmp 148], argTypes := #[22, 22] }, type := 22, pos := "law.go:251", after := #[{ on := 11, ground := Ground.data }, { on := 14, ground := Ground.data }, { on := 11, ground := Ground.chain }], guard := none }) rfl (fun KK hKK => ?_) AllReadyH.nil
                          refine step_append_txs (by rfl) _ _ rfl w6.heap.size _ (W.take p ++ [nm]) (W.drop p) rfl HC2.out _ rfl (HT2.out.below hH (Nat.le_refl _)) (by simp; omega) hH.size ?_
                          intro v6 y5 q1 q2 q3
                          have hN := hH.trans q3.out
                          have HC3 := q1
                          clear hH q1 q2 q3 HC2
                          refine hKK.out _ _ hN (fun hH => ?_)
                          clear hKK KK hN
                          try simp only [Act.put, List.setIfInBounds_toArray, List.set_cons_zero, List.set_cons_succ]
                          refine wpAnyH_take (i := 16) (oi := { dst := some 8, op := Op.assign (Operand.tmp 149), type := 22, pos := "law.go:251", after := #[{ on := 15, ground := Ground.data }, { on := 15, ground := Ground.chain }, { on := 0, ground := Ground.phase }, { on := 1, ground := Ground.phase }, { on := 2, ground := Ground.phase }, { on := 3, ground := Ground.phase }, { on := 4, ground := Ground.phase }, { on := 5, ground := Ground.phase }, { on := 6, ground := Ground.phase }, { on := 7, ground := Ground.phase }, { on := 8, ground := Ground.phase }, { on := 9, ground := Ground.phase }, { on := 10, ground := Ground.phase }, { on := 11, ground := Ground.phase }, { on := 12, ground := Ground.phase }, { on := 13, ground := Ground.phase }, { on := 14, ground := Ground.phase }, { on := 15, ground := Ground.phase }], guard := none }) (v := v6) rfl (by kernel_rfl) (by kernel_rfl) (by kernel_rfl) (fun _ _ _ h => h) (Or.inl ⟨by rfl, fun wx hS => ?_⟩) hH ?_
                          · go_simp
                          simp only [Act.put, List.setIfInBounds_toArray, List.set_cons_zero, List.set_cons_succ]
                          refine wpAnyH_done (by kernel_rfl) ?_ _
                          refine NoPanic.normal ?_
                          have HR7 := Lib.hid (Go.Joins.ownsRow_le HC3.out HSZ.out)
                          have HD7 := Lib.hid (HD6.out.trans (hH.mono HSZ.out))
                          clear hH HC3 HT1 HT2
                          go_wp2_with fail
                          go_roundw
                          case rel => exact ⟨n + 1, (W.take p ++ [nm]) ++ W.drop p, by omega, by go_num, HWN, HR7, HD7⟩
                          case measure => simp [intOf]; omega
                · obtain rfl : p = W.length := by omega
                  have qp : ¬ ((W.length : Int) < (W.length : Int)) := by omega
                  go_wp2_with fail
                  refine wp_region_noPanic ?_
                  refine wp_region_held_drew (S := fun x => Below w1.heap.size w1 x) (by kernel_rfl) HD.out.drew (fun hH => ?_)
                  refine wpAnyH_take (i := 0) (oi := { dst := some 96, op := Op.move (Operand.tmp 13), type := 3, pos := "law.go:247", after := #[], guard := none }) (v := .int .i64 (W.length : Int)) rfl (by kernel_rfl) (by kernel_rfl) (by kernel_rfl) (fun _ _ _ h => h) (Or.inl ⟨by rfl, fun wx hS => ?_⟩) hH ?_
                  · go_simp
                  simp only [Act.put, List.setIfInBounds_toArray, List.set_cons_zero, List.set_cons_succ]
                  refine wpAnyH_take (i := 1) (oi := { dst := some 97, op := Op.move (Operand.tmp 8), type := 22, pos := "law.go:247", after := #[], guard := none }) (v := .slice va W.length vc) rfl (by kernel_rfl) (by kernel_rfl) (by kernel_rfl) (fun _ _ _ h => h) (Or.inl ⟨by rfl, fun wx hS => ?_⟩) hH ?_
                  · go_simp
                  simp only [Act.put, List.setIfInBounds_toArray, List.set_cons_zero, List.set_cons_succ]
                  refine wpAnyH_take (i := 2) (oi := { dst := some 98, op := Op.call { callee := Callee.builtin Builtin.len, args := #[Operand.tmp 97], argTypes := #[22] }, type := 3, pos := "law.go:247", after := #[{ on := 1, ground := Ground.data }], guard := none }) (v := .int .i64 (W.length : Int)) rfl (by kernel_rfl) (by kernel_rfl) (by kernel_rfl) (fun _ _ _ h => h) (Or.inl ⟨by rfl, fun wx hS => ?_⟩) hH ?_
                  · go_simp
                  simp only [Act.put, List.setIfInBounds_toArray, List.set_cons_zero, List.set_cons_succ]
                  refine wpAnyH_take (i := 3) (oi := { dst := some 99, op := Op.binOp BinOp.lss 3 (Operand.tmp 96) (Operand.tmp 98) 3, type := 4, pos := "law.go:247", after := #[{ on := 0, ground := Ground.data }, { on := 2, ground := Ground.data }], guard := none }) (v := .bool false) rfl (by kernel_rfl) (by kernel_rfl) (by kernel_rfl) (fun _ _ _ h => h) (Or.inl ⟨by rfl, fun wx hS => ?_⟩) hH ?_
                  · go_simp
                  simp only [Act.put, List.setIfInBounds_toArray, List.set_cons_zero, List.set_cons_succ]
                  refine wpAnyH_take (i := 4) (oi := { dst := some 100, op := Op.move (Operand.tmp 99), type := 4, pos := "law.go:247", after := #[{ on := 3, ground := Ground.data }], guard := none }) (v := .bool false) rfl (by kernel_rfl) (by kernel_rfl) (by kernel_rfl) (fun _ _ _ h => h) (Or.inl ⟨by rfl, fun wx hS => ?_⟩) hH ?_
                  · go_simp
                  simp only [Act.put, List.setIfInBounds_toArray, List.set_cons_zero, List.set_cons_succ]
                  refine wpAnyH_take (i := 5) (oi := { dst := some 101, op := Op.move (Operand.tmp 8), type := 22, pos := "law.go:247", after := #[{ on := 4, ground := Ground.guard }], guard := some (4, true) }) (v := undef) rfl (by kernel_rfl) (by kernel_rfl) (by kernel_rfl) (fun _ _ _ h => h) (Or.inr ⟨by rfl, rfl⟩) hH ?_
                  simp only [Act.put, List.setIfInBounds_toArray, List.set_cons_zero, List.set_cons_succ]
                  refine wpAnyH_take (i := 6) (oi := { dst := some 102, op := Op.move (Operand.tmp 13), type := 3, pos := "law.go:247", after := #[{ on := 4, ground := Ground.guard }], guard := some (4, true) }) (v := undef) rfl (by kernel_rfl) (by kernel_rfl) (by kernel_rfl) (fun _ _ _ h => h) (Or.inr ⟨by rfl, rfl⟩) hH ?_
                  simp only [Act.put, List.setIfInBounds_toArray, List.set_cons_zero, List.set_cons_succ]
                  refine wpAnyH_take (i := 7) (oi := { dst := some 103, op := Op.indexAddr 22 (Operand.tmp 101) (Operand.tmp 102), type := 0, pos := "law.go:247", after := #[{ on := 5, ground := Ground.data }, { on := 6, ground := Ground.data }, { on := 4, ground := Ground.guard }], guard := some (4, true) }) (v := undef) rfl (by kernel_rfl) (by kernel_rfl) (by kernel_rfl) (fun _ _ _ h => h) (Or.inr ⟨by rfl, rfl⟩) hH ?_
                  simp only [Act.put, List.setIfInBounds_toArray, List.set_cons_zero, List.set_cons_succ]
                  refine wpAnyH_take (i := 8) (oi := { dst := some 104, op := Op.load 9 (Operand.tmp 103), type := 9, pos := "law.go:247", after := #[{ on := 7, ground := Ground.data }, { on := 4, ground := Ground.guard }], guard := some (4, true) }) (v := undef) rfl (by kernel_rfl) (by kernel_rfl) (by kernel_rfl) (fun _ _ _ h => h) (Or.inr ⟨by rfl, rfl⟩) hH ?_
                  simp only [Act.put, List.setIfInBounds_toArray, List.set_cons_zero, List.set_cons_succ]
                  refine wpAnyH_take (i := 9) (oi := { dst := some 105, op := Op.move (Operand.tmp 5), type := 24, pos := "law.go:247", after := #[{ on := 4, ground := Ground.guard }], guard := some (4, true) }) (v := undef) rfl (by kernel_rfl) (by kernel_rfl) (by kernel_rfl) (fun _ _ _ h => h) (Or.inr ⟨by rfl, rfl⟩) hH ?_
                  simp only [Act.put, List.setIfInBounds_toArray, List.set_cons_zero, List.set_cons_succ]
                  refine wpAnyH_take (i := 10) (oi := { dst := some 106, op := Op.move (Operand.tmp 9), type := 3, pos := "law.go:247", after := #[{ on := 4, ground := Ground.guard }], guard := some (4, true) }) (v := undef) rfl (by kernel_rfl) (by kernel_rfl) (by kernel_rfl) (fun _ _ _ h => h) (Or.inr ⟨by rfl, rfl⟩) hH ?_
                  simp only [Act.put, List.setIfInBounds_toArray, List.set_cons_zero, List.set_cons_succ]
                  refine wpAnyH_take (i := 11) (oi := { dst := some 107, op := Op.indexAddr 24 (Operand.tmp 105) (Operand.tmp 106), type := 0, pos := "law.go:247", after := #[{ on := 9, ground := Ground.data }, { on := 10, ground := Ground.data }, { on := 4, ground := Ground.guard }], guard := some (4, true) }) (v := undef) rfl (by kernel_rfl) (by kernel_rfl) (by kernel_rfl) (fun _ _ _ h => h) (Or.inr ⟨by rfl, rfl⟩) hH ?_
                  simp only [Act.put, List.setIfInBounds_toArray, List.set_cons_zero, List.set_cons_succ]
                  refine wpAnyH_take (i := 12) (oi := { dst := some 108, op := Op.fieldAddr 29 (Operand.tmp 107) 0, type := 0, pos := "law.go:247", after := #[{ on := 11, ground := Ground.data }, { on := 4, ground := Ground.guard }], guard := some (4, true) }) (v := undef) rfl (by kernel_rfl) (by kernel_rfl) (by kernel_rfl) (fun _ _ _ h => h) (Or.inr ⟨by rfl, rfl⟩) hH ?_
                  simp only [Act.put, List.setIfInBounds_toArray, List.set_cons_zero, List.set_cons_succ]
                  refine wpAnyH_take (i := 13) (oi := { dst := some 109, op := Op.load 9 (Operand.tmp 108), type := 9, pos := "law.go:247", after := #[{ on := 12, ground := Ground.data }, { on := 4, ground := Ground.guard }], guard := some (4, true) }) (v := undef) rfl (by kernel_rfl) (by kernel_rfl) (by kernel_rfl) (fun _ _ _ h => h) (Or.inr ⟨by rfl, rfl⟩) hH ?_
                  simp only [Act.put, List.setIfInBounds_toArray, List.set_cons_zero, List.set_cons_succ]
                  refine wpAnyH_take (i := 14) (oi := { dst := some 110, op := Op.binOp BinOp.lss 9 (Operand.tmp 104) (Operand.tmp 109) 9, type := 4, pos := "law.go:247", after := #[{ on := 8, ground := Ground.data }, { on := 13, ground := Ground.data }, { on := 4, ground := Ground.guard }], guard := some (4, true) }) (v := undef) rfl (by kernel_rfl) (by kernel_rfl) (by kernel_rfl) (fun _ _ _ h => h) (Or.inr ⟨by rfl, rfl⟩) hH ?_
                  simp only [Act.put, List.setIfInBounds_toArray, List.set_cons_zero, List.set_cons_succ]
                  refine wpAnyH_take (i := 15) (oi := { dst := some 111, op := Op.pick (Operand.tmp 100) (Operand.tmp 110) (Operand.const (Value.bool false)), type := 4, pos := "law.go:247", after := #[{ on := 4, ground := Ground.data }, { on := 14, ground := Ground.data }], guard := none }) (v := .bool false) rfl (by kernel_rfl) (by kernel_rfl) (by kernel_rfl) (fun _ _ _ h => h) (Or.inl ⟨by rfl, fun wx hS => ?_⟩) hH ?_
                  · go_simp
                  simp only [Act.put, List.setIfInBounds_toArray, List.set_cons_zero, List.set_cons_succ]
                  refine wpAnyH_done (by kernel_rfl) ?_ _
                  refine NoPanic.normal ?_
                  clear hH
                  have HR5 := Lib.hid HR.out.drew
                  have HD5 := Lib.hid HD.out.drew
                  clear HR HD
                  generalize wr.drew = w5 at *
                  go_wp2_with fail
                  cases b with
                  | true =>
                    refine wp_region_noPanic ?_
                    refine wp_region_held_drew (S := fun x => Below w1.heap.size w1 x) (by kernel_rfl) HD5.out.drew (fun hH => ?_)
                    refine wpAnyH_take (i := 0) (oi := { dst := some 114, op := Op.move (Operand.tmp 10), type := 4, pos := "law.go:250", after := #[], guard := none }) (v := .bool true) rfl (by kernel_rfl) (by kernel_rfl) (by kernel_rfl) (fun _ _ _ h => h) (Or.inl ⟨by rfl, fun wx hS => ?_⟩) hH ?_
                    · go_simp
                    simp only [Act.put, List.setIfInBounds_toArray, List.set_cons_zero, List.set_cons_succ]
                    refine wpAnyH_take (i := 1) (oi := { dst := some 115, op := Op.unOp UnOp.not 4 (Operand.tmp 114), type := 4, pos := "law.go:250", after := #[{ on := 0, ground := Ground.data }], guard := none }) (v := .bool false) rfl (by kernel_rfl) (by kernel_rfl) (by kernel_rfl) (fun _ _ _ h => h) (Or.inl ⟨by rfl, fun wx hS => ?_⟩) hH ?_
                    · go_simp
                    simp only [Act.put, List.setIfInBounds_toArray, List.set_cons_zero, List.set_cons_succ]
                    refine wpAnyH_take (i := 2) (oi := { dst := some 116, op := Op.move (Operand.tmp 115), type := 4, pos := "law.go:250", after := #[{ on := 1, ground := Ground.data }], guard := none }) (v := .bool false) rfl (by kernel_rfl) (by kernel_rfl) (by kernel_rfl) (fun _ _ _ h => h) (Or.inl ⟨by rfl, fun wx hS => ?_⟩) hH ?_
                    · go_simp
                    simp only [Act.put, List.setIfInBounds_toArray, List.set_cons_zero, List.set_cons_succ]
                    refine wpAnyH_take (i := 3) (oi := { dst := some 117, op := Op.move (Operand.tmp 13), type := 3, pos := "law.go:250", after := #[{ on := 2, ground := Ground.guard }], guard := some (2, true) }) (v := undef) rfl (by kernel_rfl) (by kernel_rfl) (by kernel_rfl) (fun _ _ _ h => h) (Or.inr ⟨by rfl, rfl⟩) hH ?_
                    simp only [Act.put, List.setIfInBounds_toArray, List.set_cons_zero, List.set_cons_succ]
                    refine wpAnyH_take (i := 4) (oi := { dst := some 118, op := Op.move (Operand.tmp 8), type := 22, pos := "law.go:250", after := #[{ on := 2, ground := Ground.guard }], guard := some (2, true) }) (v := undef) rfl (by kernel_rfl) (by kernel_rfl) (by kernel_rfl) (fun _ _ _ h => h) (Or.inr ⟨by rfl, rfl⟩) hH ?_
                    simp only [Act.put, List.setIfInBounds_toArray, List.set_cons_zero, List.set_cons_succ]
                    refine wpAnyH_take (i := 5) (oi := { dst := some 119, op := Op.call { callee := Callee.builtin Builtin.len, args := #[Operand.tmp 118], argTypes := #[22] }, type := 3, pos := "law.go:250", after := #[{ on := 4, ground := Ground.data }, { on := 2, ground := Ground.guard }], guard := some (2, true) }) (v := undef) rfl (by kernel_rfl) (by kernel_rfl) (by kernel_rfl) (fun _ _ _ h => h) (Or.inr ⟨by rfl, rfl⟩) hH ?_
                    simp only [Act.put, List.setIfInBounds_toArray, List.set_cons_zero, List.set_cons_succ]
                    refine wpAnyH_take (i := 6) (oi := { dst := some 120, op := Op.binOp BinOp.eql 3 (Operand.tmp 117) (Operand.tmp 119) 3, type := 4, pos := "law.go:250", after := #[{ on := 3, ground := Ground.data }, { on := 5, ground := Ground.data }, { on := 2, ground := Ground.guard }], guard := some (2, true) }) (v := undef) rfl (by kernel_rfl) (by kernel_rfl) (by kernel_rfl) (fun _ _ _ h => h) (Or.inr ⟨by rfl, rfl⟩) hH ?_
                    simp only [Act.put, List.setIfInBounds_toArray, List.set_cons_zero, List.set_cons_succ]
                    refine wpAnyH_take (i := 7) (oi := { dst := some 121, op := Op.move (Operand.tmp 120), type := 4, pos := "law.go:250", after := #[{ on := 6, ground := Ground.data }, { on := 2, ground := Ground.chain }, { on := 2, ground := Ground.guard }], guard := some (2, true) }) (v := undef) rfl (by kernel_rfl) (by kernel_rfl) (by kernel_rfl) (fun _ _ _ h => h) (Or.inr ⟨by rfl, rfl⟩) hH ?_
                    simp only [Act.put, List.setIfInBounds_toArray, List.set_cons_zero, List.set_cons_succ]
                    refine wpAnyH_take (i := 8) (oi := { dst := some 122, op := Op.move (Operand.tmp 8), type := 22, pos := "law.go:250", after := #[{ on := 7, ground := Ground.guard }], guard := some (7, false) }) (v := undef) rfl (by kernel_rfl) (by kernel_rfl) (by kernel_rfl) (fun _ _ _ h => h) (Or.inr ⟨by rfl, rfl⟩) hH ?_
                    simp only [Act.put, List.setIfInBounds_toArray, List.set_cons_zero, List.set_cons_succ]
                    refine wpAnyH_take (i := 9) (oi := { dst := some 123, op := Op.move (Operand.tmp 13), type := 3, pos := "law.go:250", after := #[{ on := 7, ground := Ground.guard }], guard := some (7, false) }) (v := undef) rfl (by kernel_rfl) (by kernel_rfl) (by kernel_rfl) (fun _ _ _ h => h) (Or.inr ⟨by rfl, rfl⟩) hH ?_
                    simp only [Act.put, List.setIfInBounds_toArray, List.set_cons_zero, List.set_cons_succ]
                    refine wpAnyH_take (i := 10) (oi := { dst := some 124, op := Op.indexAddr 22 (Operand.tmp 122) (Operand.tmp 123), type := 0, pos := "law.go:250", after := #[{ on := 8, ground := Ground.data }, { on := 9, ground := Ground.data }, { on := 7, ground := Ground.guard }], guard := some (7, false) }) (v := undef) rfl (by kernel_rfl) (by kernel_rfl) (by kernel_rfl) (fun _ _ _ h => h) (Or.inr ⟨by rfl, rfl⟩) hH ?_
                    simp only [Act.put, List.setIfInBounds_toArray, List.set_cons_zero, List.set_cons_succ]
                    refine wpAnyH_take (i := 11) (oi := { dst := some 125, op := Op.load 9 (Operand.tmp 124), type := 9, pos := "law.go:250", after := #[{ on := 10, ground := Ground.data }, { on := 7, ground := Ground.guard }], guard := some (7, false) }) (v := undef) rfl (by kernel_rfl) (by kernel_rfl) (by kernel_rfl) (fun _ _ _ h => h) (Or.inr ⟨by rfl, rfl⟩) hH ?_
                    simp only [Act.put, List.setIfInBounds_toArray, List.set_cons_zero, List.set_cons_succ]
                    refine wpAnyH_take (i := 12) (oi := { dst := some 126, op := Op.move (Operand.tmp 5), type := 24, pos := "law.go:250", after := #[{ on := 7, ground := Ground.guard }], guard := some (7, false) }) (v := undef) rfl (by kernel_rfl) (by kernel_rfl) (by kernel_rfl) (fun _ _ _ h => h) (Or.inr ⟨by rfl, rfl⟩) hH ?_
                    simp only [Act.put, List.setIfInBounds_toArray, List.set_cons_zero, List.set_cons_succ]
                    refine wpAnyH_take (i := 13) (oi := { dst := some 127, op := Op.move (Operand.tmp 9), type := 3, pos := "law.go:250", after := #[{ on := 7, ground := Ground.guard }], guard := some (7, false) }) (v := undef) rfl (by kernel_rfl) (by kernel_rfl) (by kernel_rfl) (fun _ _ _ h => h) (Or.inr ⟨by rfl, rfl⟩) hH ?_
                    simp only [Act.put, List.setIfInBounds_toArray, List.set_cons_zero, List.set_cons_succ]
                    refine wpAnyH_take (i := 14) (oi := { dst := some 128, op := Op.indexAddr 24 (Operand.tmp 126) (Operand.tmp 127), type := 0, pos := "law.go:250", after := #[{ on := 12, ground := Ground.data }, { on := 13, ground := Ground.data }, { on := 7, ground := Ground.guard }], guard := some (7, false) }) (v := undef) rfl (by kernel_rfl) (by kernel_rfl) (by kernel_rfl) (fun _ _ _ h => h) (Or.inr ⟨by rfl, rfl⟩) hH ?_
                    simp only [Act.put, List.setIfInBounds_toArray, List.set_cons_zero, List.set_cons_succ]
                    refine wpAnyH_take (i := 15) (oi := { dst := some 129, op := Op.fieldAddr 29 (Operand.tmp 128) 0, type := 0, pos := "law.go:250", after := #[{ on := 14, ground := Ground.data }, { on := 7, ground := Ground.guard }], guard := some (7, false) }) (v := undef) rfl (by kernel_rfl) (by kernel_rfl) (by kernel_rfl) (fun _ _ _ h => h) (Or.inr ⟨by rfl, rfl⟩) hH ?_
                    simp only [Act.put, List.setIfInBounds_toArray, List.set_cons_zero, List.set_cons_succ]
                    refine wpAnyH_take (i := 16) (oi := { dst := some 130, op := Op.load 9 (Operand.tmp 129), type := 9, pos := "law.go:250", after := #[{ on := 15, ground := Ground.data }, { on := 7, ground := Ground.guard }], guard := some (7, false) }) (v := undef) rfl (by kernel_rfl) (by kernel_rfl) (by kernel_rfl) (fun _ _ _ h => h) (Or.inr ⟨by rfl, rfl⟩) hH ?_
                    simp only [Act.put, List.setIfInBounds_toArray, List.set_cons_zero, List.set_cons_succ]
                    refine wpAnyH_take (i := 17) (oi := { dst := some 131, op := Op.binOp BinOp.neq 9 (Operand.tmp 125) (Operand.tmp 130) 9, type := 4, pos := "law.go:250", after := #[{ on := 11, ground := Ground.data }, { on := 16, ground := Ground.data }, { on := 7, ground := Ground.guard }], guard := some (7, false) }) (v := undef) rfl (by kernel_rfl) (by kernel_rfl) (by kernel_rfl) (fun _ _ _ h => h) (Or.inr ⟨by rfl, rfl⟩) hH ?_
                    simp only [Act.put, List.setIfInBounds_toArray, List.set_cons_zero, List.set_cons_succ]
                    refine wpAnyH_take (i := 18) (oi := { dst := some 132, op := Op.pick (Operand.tmp 121) (Operand.const (Value.bool true)) (Operand.tmp 131), type := 4, pos := "law.go:250", after := #[{ on := 7, ground := Ground.data }, { on := 17, ground := Ground.data }, { on := 2, ground := Ground.guard }], guard := some (2, true) }) (v := undef) rfl (by kernel_rfl) (by kernel_rfl) (by kernel_rfl) (fun _ _ _ h => h) (Or.inr ⟨by rfl, rfl⟩) hH ?_
                    simp only [Act.put, List.setIfInBounds_toArray, List.set_cons_zero, List.set_cons_succ]
                    refine wpAnyH_take (i := 19) (oi := { dst := some 133, op := Op.pick (Operand.tmp 116) (Operand.tmp 132) (Operand.const (Value.bool false)), type := 4, pos := "law.go:250", after := #[{ on := 2, ground := Ground.data }, { on := 18, ground := Ground.data }], guard := none }) (v := .bool false) rfl (by kernel_rfl) (by kernel_rfl) (by kernel_rfl) (fun _ _ _ h => h) (Or.inl ⟨by rfl, fun wx hS => ?_⟩) hH ?_
                    · go_simp
                    simp only [Act.put, List.setIfInBounds_toArray, List.set_cons_zero, List.set_cons_succ]
                    refine wpAnyH_done (by kernel_rfl) ?_ _
                    refine NoPanic.normal ?_
                    clear hH
                    have HW5 := Lib.hid (HSK.out (Or.inl (HGE.out.1 rfl)))
                    have HR6 := Lib.hid HR5.out.drew
                    have HD6 := Lib.hid HD5.out.drew
                    clear HR5 HD5
                    generalize w5.drew = w6 at *
                    go_wp2_with fail
                    go_roundw
                    case rel => exact ⟨n + 1, W, by omega, by go_num, HW5, HR6, HD6⟩
                    case measure => simp [intOf]; omega
                  | false =>
                    have hng : Hid (nm ∉ goneL E) := Lib.hid (fun h => by have := HGE.out.2 h; cases this)
                    have HWN := Lib.hid (HPT.out hng.out W.length HLS.out (fun h => absurd h (Nat.lt_irrefl _)))
                    refine wp_region_noPanic ?_
                    refine wp_region_held_drew (S := fun x => Below w1.heap.size w1 x) (by kernel_rfl) HD5.out.drew (fun hH => ?_)
                    refine wpAnyH_take (i := 0) (oi := { dst := some 114, op := Op.move (Operand.tmp 10), type := 4, pos := "law.go:250", after := #[], guard := none }) (v := .bool false) rfl (by kernel_rfl) (by kernel_rfl) (by kernel_rfl) (fun _ _ _ h => h) (Or.inl ⟨by rfl, fun wx hS => ?_⟩) hH ?_
                    · go_simp
                    simp only [Act.put, List.setIfInBounds_toArray, List.set_cons_zero, List.set_cons_succ]
                    refine wpAnyH_take (i := 1) (oi := { dst := some 115, op := Op.unOp UnOp.not 4 (Operand.tmp 114), type := 4, pos := "law.go:250", after := #[{ on := 0, ground := Ground.data }], guard := none }) (v := .bool true) rfl (by kernel_rfl) (by kernel_rfl) (by kernel_rfl) (fun _ _ _ h => h) (Or.inl ⟨by rfl, fun wx hS => ?_⟩) hH ?_
                    · go_simp
                    simp only [Act.put, List.setIfInBounds_toArray, List.set_cons_zero, List.set_cons_succ]
                    refine wpAnyH_take (i := 2) (oi := { dst := some 116, op := Op.move (Operand.tmp 115), type := 4, pos := "law.go:250", after := #[{ on := 1, ground := Ground.data }], guard := none }) (v := .bool true) rfl (by kernel_rfl) (by kernel_rfl) (by kernel_rfl) (fun _ _ _ h => h) (Or.inl ⟨by rfl, fun wx hS => ?_⟩) hH ?_
                    · go_simp
                    simp only [Act.put, List.setIfInBounds_toArray, List.set_cons_zero, List.set_cons_succ]
                    refine wpAnyH_take (i := 3) (oi := { dst := some 117, op := Op.move (Operand.tmp 13), type := 3, pos := "law.go:250", after := #[{ on := 2, ground := Ground.guard }], guard := some (2, true) }) (v := .int .i64 (W.length : Int)) rfl (by kernel_rfl) (by kernel_rfl) (by kernel_rfl) (fun _ _ _ h => h) (Or.inl ⟨by rfl, fun wx hS => ?_⟩) hH ?_
                    · go_simp
                    simp only [Act.put, List.setIfInBounds_toArray, List.set_cons_zero, List.set_cons_succ]
                    refine wpAnyH_take (i := 4) (oi := { dst := some 118, op := Op.move (Operand.tmp 8), type := 22, pos := "law.go:250", after := #[{ on := 2, ground := Ground.guard }], guard := some (2, true) }) (v := .slice va W.length vc) rfl (by kernel_rfl) (by kernel_rfl) (by kernel_rfl) (fun _ _ _ h => h) (Or.inl ⟨by rfl, fun wx hS => ?_⟩) hH ?_
                    · go_simp
                    simp only [Act.put, List.setIfInBounds_toArray, List.set_cons_zero, List.set_cons_succ]
                    refine wpAnyH_take (i := 5) (oi := { dst := some 119, op := Op.call { callee := Callee.builtin Builtin.len, args := #[Operand.tmp 118], argTypes := #[22] }, type := 3, pos := "law.go:250", after := #[{ on := 4, ground := Ground.data }, { on := 2, ground := Ground.guard }], guard := some (2, true) }) (v := .int .i64 (W.length : Int)) rfl (by kernel_rfl) (by kernel_rfl) (by kernel_rfl) (fun _ _ _ h => h) (Or.inl ⟨by rfl, fun wx hS => ?_⟩) hH ?_
                    · go_simp
                    simp only [Act.put, List.setIfInBounds_toArray, List.set_cons_zero, List.set_cons_succ]
                    refine wpAnyH_take (i := 6) (oi := { dst := some 120, op := Op.binOp BinOp.eql 3 (Operand.tmp 117) (Operand.tmp 119) 3, type := 4, pos := "law.go:250", after := #[{ on := 3, ground := Ground.data }, { on := 5, ground := Ground.data }, { on := 2, ground := Ground.guard }], guard := some (2, true) }) (v := .bool true) rfl (by kernel_rfl) (by kernel_rfl) (by kernel_rfl) (fun _ _ _ h => h) (Or.inl ⟨by rfl, fun wx hS => ?_⟩) hH ?_
                    · go_simp
                    simp only [Act.put, List.setIfInBounds_toArray, List.set_cons_zero, List.set_cons_succ]
                    refine wpAnyH_take (i := 7) (oi := { dst := some 121, op := Op.move (Operand.tmp 120), type := 4, pos := "law.go:250", after := #[{ on := 6, ground := Ground.data }, { on := 2, ground := Ground.chain }, { on := 2, ground := Ground.guard }], guard := some (2, true) }) (v := .bool true) rfl (by kernel_rfl) (by kernel_rfl) (by kernel_rfl) (fun _ _ _ h => h) (Or.inl ⟨by rfl, fun wx hS => ?_⟩) hH ?_
                    · go_simp
                    simp only [Act.put, List.setIfInBounds_toArray, List.set_cons_zero, List.set_cons_succ]
                    refine wpAnyH_take (i := 8) (oi := { dst := some 122, op := Op.move (Operand.tmp 8), type := 22, pos := "law.go:250", after := #[{ on := 7, ground := Ground.guard }], guard := some (7, false) }) (v := undef) rfl (by kernel_rfl) (by kernel_rfl) (by kernel_rfl) (fun _ _ _ h => h) (Or.inr ⟨by rfl, rfl⟩) hH ?_
                    simp only [Act.put, List.setIfInBounds_toArray, List.set_cons_zero, List.set_cons_succ]
                    refine wpAnyH_take (i := 9) (oi := { dst := some 123, op := Op.move (Operand.tmp 13), type := 3, pos := "law.go:250", after := #[{ on := 7, ground := Ground.guard }], guard := some (7, false) }) (v := undef) rfl (by kernel_rfl) (by kernel_rfl) (by kernel_rfl) (fun _ _ _ h => h) (Or.inr ⟨by rfl, rfl⟩) hH ?_
                    simp only [Act.put, List.setIfInBounds_toArray, List.set_cons_zero, List.set_cons_succ]
                    refine wpAnyH_take (i := 10) (oi := { dst := some 124, op := Op.indexAddr 22 (Operand.tmp 122) (Operand.tmp 123), type := 0, pos := "law.go:250", after := #[{ on := 8, ground := Ground.data }, { on := 9, ground := Ground.data }, { on := 7, ground := Ground.guard }], guard := some (7, false) }) (v := undef) rfl (by kernel_rfl) (by kernel_rfl) (by kernel_rfl) (fun _ _ _ h => h) (Or.inr ⟨by rfl, rfl⟩) hH ?_
                    simp only [Act.put, List.setIfInBounds_toArray, List.set_cons_zero, List.set_cons_succ]
                    refine wpAnyH_take (i := 11) (oi := { dst := some 125, op := Op.load 9 (Operand.tmp 124), type := 9, pos := "law.go:250", after := #[{ on := 10, ground := Ground.data }, { on := 7, ground := Ground.guard }], guard := some (7, false) }) (v := undef) rfl (by kernel_rfl) (by kernel_rfl) (by kernel_rfl) (fun _ _ _ h => h) (Or.inr ⟨by rfl, rfl⟩) hH ?_
                    simp only [Act.put, List.setIfInBounds_toArray, List.set_cons_zero, List.set_cons_succ]
                    refine wpAnyH_take (i := 12) (oi := { dst := some 126, op := Op.move (Operand.tmp 5), type := 24, pos := "law.go:250", after := #[{ on := 7, ground := Ground.guard }], guard := some (7, false) }) (v := undef) rfl (by kernel_rfl) (by kernel_rfl) (by kernel_rfl) (fun _ _ _ h => h) (Or.inr ⟨by rfl, rfl⟩) hH ?_
                    simp only [Act.put, List.setIfInBounds_toArray, List.set_cons_zero, List.set_cons_succ]
                    refine wpAnyH_take (i := 13) (oi := { dst := some 127, op := Op.move (Operand.tmp 9), type := 3, pos := "law.go:250", after := #[{ on := 7, ground := Ground.guard }], guard := some (7, false) }) (v := undef) rfl (by kernel_rfl) (by kernel_rfl) (by kernel_rfl) (fun _ _ _ h => h) (Or.inr ⟨by rfl, rfl⟩) hH ?_
                    simp only [Act.put, List.setIfInBounds_toArray, List.set_cons_zero, List.set_cons_succ]
                    refine wpAnyH_take (i := 14) (oi := { dst := some 128, op := Op.indexAddr 24 (Operand.tmp 126) (Operand.tmp 127), type := 0, pos := "law.go:250", after := #[{ on := 12, ground := Ground.data }, { on := 13, ground := Ground.data }, { on := 7, ground := Ground.guard }], guard := some (7, false) }) (v := undef) rfl (by kernel_rfl) (by kernel_rfl) (by kernel_rfl) (fun _ _ _ h => h) (Or.inr ⟨by rfl, rfl⟩) hH ?_
                    simp only [Act.put, List.setIfInBounds_toArray, List.set_cons_zero, List.set_cons_succ]
                    refine wpAnyH_take (i := 15) (oi := { dst := some 129, op := Op.fieldAddr 29 (Operand.tmp 128) 0, type := 0, pos := "law.go:250", after := #[{ on := 14, ground := Ground.data }, { on := 7, ground := Ground.guard }], guard := some (7, false) }) (v := undef) rfl (by kernel_rfl) (by kernel_rfl) (by kernel_rfl) (fun _ _ _ h => h) (Or.inr ⟨by rfl, rfl⟩) hH ?_
                    simp only [Act.put, List.setIfInBounds_toArray, List.set_cons_zero, List.set_cons_succ]
                    refine wpAnyH_take (i := 16) (oi := { dst := some 130, op := Op.load 9 (Operand.tmp 129), type := 9, pos := "law.go:250", after := #[{ on := 15, ground := Ground.data }, { on := 7, ground := Ground.guard }], guard := some (7, false) }) (v := undef) rfl (by kernel_rfl) (by kernel_rfl) (by kernel_rfl) (fun _ _ _ h => h) (Or.inr ⟨by rfl, rfl⟩) hH ?_
                    simp only [Act.put, List.setIfInBounds_toArray, List.set_cons_zero, List.set_cons_succ]
                    refine wpAnyH_take (i := 17) (oi := { dst := some 131, op := Op.binOp BinOp.neq 9 (Operand.tmp 125) (Operand.tmp 130) 9, type := 4, pos := "law.go:250", after := #[{ on := 11, ground := Ground.data }, { on := 16, ground := Ground.data }, { on := 7, ground := Ground.guard }], guard := some (7, false) }) (v := undef) rfl (by kernel_rfl) (by kernel_rfl) (by kernel_rfl) (fun _ _ _ h => h) (Or.inr ⟨by rfl, rfl⟩) hH ?_
                    simp only [Act.put, List.setIfInBounds_toArray, List.set_cons_zero, List.set_cons_succ]
                    refine wpAnyH_take (i := 18) (oi := { dst := some 132, op := Op.pick (Operand.tmp 121) (Operand.const (Value.bool true)) (Operand.tmp 131), type := 4, pos := "law.go:250", after := #[{ on := 7, ground := Ground.data }, { on := 17, ground := Ground.data }, { on := 2, ground := Ground.guard }], guard := some (2, true) }) (v := .bool true) rfl (by kernel_rfl) (by kernel_rfl) (by kernel_rfl) (fun _ _ _ h => h) (Or.inl ⟨by rfl, fun wx hS => ?_⟩) hH ?_
                    · go_simp
                    simp only [Act.put, List.setIfInBounds_toArray, List.set_cons_zero, List.set_cons_succ]
                    refine wpAnyH_take (i := 19) (oi := { dst := some 133, op := Op.pick (Operand.tmp 116) (Operand.tmp 132) (Operand.const (Value.bool false)), type := 4, pos := "law.go:250", after := #[{ on := 2, ground := Ground.data }, { on := 18, ground := Ground.data }], guard := none }) (v := .bool true) rfl (by kernel_rfl) (by kernel_rfl) (by kernel_rfl) (fun _ _ _ h => h) (Or.inl ⟨by rfl, fun wx hS => ?_⟩) hH ?_
                    · go_simp
                    simp only [Act.put, List.setIfInBounds_toArray, List.set_cons_zero, List.set_cons_succ]
                    refine wpAnyH_done (by kernel_rfl) ?_ _
                    refine NoPanic.normal ?_
                    clear hH
                    have HR6 := Lib.hid HR5.out.drew
                    have HD6 := Lib.hid HD5.out.drew
                    clear HR5 HD5
                    generalize w5.drew = w6 at *
                    obtain ⟨hs1, ht1⟩ := sl_take (own_texts HR6.out) W.length (by omega)
                    obtain ⟨dv, hs2, ht2⟩ := sl_drop (own_texts HR6.out) W.length (by omega)
                    have HT1 := Lib.hid ht1
                    have HT2 := Lib.hid ht2
                    have HSZ : Hid (w1.heap.size ≤ w6.heap.size) := Lib.hid HD6.out.size
                    clear ht1 ht2
                    go_wp2_with fail
                    refine wp_region_noPanic ?_
                    refine wp_region_held_drew (S := fun x => Below w6.heap.size w6 x) (by kernel_rfl) (Below.refl _ w6).drew (fun hH => ?_)
                    generalize w6.drew = y0 at *
                    refine wpAnyH_take (i := 1) (oi := { dst := some 135, op := Op.move (Operand.tmp 8), type := 22, pos := "law.go:251", after := #[], guard := none }) (v := .slice va W.length vc) rfl (by kernel_rfl) (by kernel_rfl) (by kernel_rfl) (fun _ _ _ h => h) (Or.inl ⟨by rfl, fun wx hS => ?_⟩) hH ?_
                    · go_simp
                    simp only [Act.put, List.setIfInBounds_toArray, List.set_cons_zero, List.set_cons_succ]
                    refine wpAnyH_take (i := 2) (oi := { dst := some 136, op := Op.move (Operand.tmp 13), type := 3, pos := "law.go:251", after := #[], guard := none }) (v := .int .i64 (W.length : Int)) rfl (by kernel_rfl) (by kernel_rfl) (by kernel_rfl) (fun _ _ _ h => h) (Or.inl ⟨by rfl, fun wx hS => ?_⟩) hH ?_
                    · go_simp
                    simp only [Act.put, List.setIfInBounds_toArray, List.set_cons_zero, List.set_cons_succ]
                    refine wpAnyH_take (i := 3) (oi := { dst := some 137, op := Op.slice 22 (Operand.tmp 135) none (some (Operand.tmp 136)) none, type := 22, pos := "law.go:251", after := #[{ on := 1, ground := Ground.data }, { on := 2, ground := Ground.data }], guard := none }) (v := .slice va W.length vc) rfl (by kernel_rfl) (by kernel_rfl) (by kernel_rfl) (fun _ _ _ h => h) (Or.inl ⟨by rfl, fun wx hS => ?_⟩) hH ?_
                    · have q2 := hs1 wx; go_simp
                    simp only [Act.put, List.setIfInBounds_toArray, List.set_cons_zero, List.set_cons_succ]
                    refine wpAnyH_take (i := 5) (oi := { dst := some 139, op := Op.move (Operand.tmp 5), type := 24, pos := "law.go:251", after := #[], guard := none }) (v := .slice (some ⟨lb, lo, none⟩) E.length lc) rfl (by kernel_rfl) (by kernel_rfl) (by kernel_rfl) (fun _ _ _ h => h) (Or.inl ⟨by rfl, fun wx hS => ?_⟩) hH ?_
                    · go_simp
                    simp only [Act.put, List.setIfInBounds_toArray, List.set_cons_zero, List.set_cons_succ]
                    refine wpAnyH_take (i := 6) (oi := { dst := some 140, op := Op.move (Operand.tmp 9), type := 3, pos := "law.go:251", after := #[], guard := none }) (v := .int .i64 (n : Int)) rfl (by kernel_rfl) (by kernel_rfl) (by kernel_rfl) (fun _ _ _ h => h) (Or.inl ⟨by rfl, fun wx hS => ?_⟩) hH ?_
                    · go_simp
                    simp only [Act.put, List.setIfInBounds_toArray, List.set_cons_zero, List.set_cons_succ]
                    refine wpAnyH_take (i := 7) (oi := { dst := some 141, op := Op.indexAddr 24 (Operand.tmp 139) (Operand.tmp 140), type := 0, pos := "law.go:251", after := #[{ on := 5, ground := Ground.data }, { on := 6, ground := Ground.data }], guard := none }) (v := .pointer (some ⟨lb, lo + n * 3, none⟩)) rfl (by kernel_rfl) (by kernel_rfl) (by kernel_rfl) (fun _ _ _ h => h) (Or.inl ⟨by rfl, fun wx hS => ?_⟩) hH ?_
                    · go_simp
                    simp only [Act.put, List.setIfInBounds_toArray, List.set_cons_zero, List.set_cons_succ]
                    refine wpAnyH_take (i := 8) (oi := { dst := some 142, op := Op.fieldAddr 29 (Operand.tmp 141) 0, type := 0, pos := "law.go:251", after := #[{ on := 7, ground := Ground.data }], guard := none }) (v := .pointer (some ⟨lb, lo + n * 3, none⟩)) rfl (by kernel_rfl) (by kernel_rfl) (by kernel_rfl) (fun _ _ _ h => h) (Or.inl ⟨by rfl, fun wx hS => ?_⟩) hH ?_
                    · go_simp
                    simp only [Act.put, List.setIfInBounds_toArray, List.set_cons_zero, List.set_cons_succ]
                    refine wpAnyH_take (i := 9) (oi := { dst := some 143, op := Op.load 9 (Operand.tmp 142), type := 9, pos := "law.go:251", after := #[{ on := 8, ground := Ground.data }], guard := none }) (v := .string (str nm)) rfl (by kernel_rfl) (by kernel_rfl) (by kernel_rfl) (fun _ _ _ h => h) (Or.inl ⟨by rfl, fun wx hS => ?_⟩) hH ?_
                    · have q2 := HCN.out wx (HD6.out.trans (hS.mono HSZ.out)); go_simp
                    simp only [Act.put, List.setIfInBounds_toArray, List.set_cons_zero, List.set_cons_succ]
                    refine wpAnyH_take (i := 12) (oi := { dst := some 146, op := Op.move (Operand.tmp 8), type := 22, pos := "law.go:251", after := #[], guard := none }) (v := .slice va W.length vc) rfl (by kernel_rfl) (by kernel_rfl) (by kernel_rfl) (fun _ _ _ h => h) (Or.inl ⟨by rfl, fun wx hS => ?_⟩) hH ?_
                    · go_simp
                    simp only [Act.put, List.setIfInBounds_toArray, List.set_cons_zero, List.set_cons_succ]
                    refine wpAnyH_take (i := 13) (oi := { dst := some 147, op := Op.move (Operand.tmp 13), type := 3, pos := "law.go:251", after := #[], guard := none }) (v := .int .i64 (W.length : Int)) rfl (by kernel_rfl) (by kernel_rfl) (by kernel_rfl) (fun _ _ _ h => h) (Or.inl ⟨by rfl, fun wx hS => ?_⟩) hH ?_
                    · go_simp
                    simp only [Act.put, List.setIfInBounds_toArray, List.set_cons_zero, List.set_cons_succ]
                    refine wpAnyH_take (i := 14) (oi := { dst := some 148, op := Op.slice 22 (Operand.tmp 146) (some (Operand.tmp 147)) none none, type := 22, pos := "law.go:251", after := #[{ on := 12, ground := Ground.data }, { on := 13, ground := Ground.data }], guard := none }) (v := dv) rfl (by kernel_rfl) (by kernel_rfl) (by kernel_rfl) (fun _ _ _ h => h) (Or.inl ⟨by rfl, fun wx hS => ?_⟩) hH ?_
                    · have q2 := hs2 wx; go_simp
                    simp only [Act.put, List.setIfInBounds_toArray, List.set_cons_zero, List.set_cons_succ]
                    clear hs1 hs2
                    refine wpAnyH_ready (rs := [0, 10]) (by kernel_rfl) (by simp) ?_
                    refine AllReadyH.cons (o := { dst := some 134, op := Op.buildSlice 22 0 #[], type := 22, pos := "law.go:251", after := #[], guard := none }) rfl (fun KK hKK => ?_) (AllReadyH.cons (o := { dst := some 144, op := Op.buildSlice 22 1 #[(0, Operand.tmp 143)], type := 22, pos := "law.go:251", after := #[{ on := 9, ground := Ground.data }], guard := none }) rfl (fun KK hKK => ?_) AllReadyH.nil)
                    · have kb := alloc_below y0 (.cells #[] 9 (0, 0))
                      have HA : Hid ((y0.alloc (.cells #[] 9 (0, 0))).ownsRow w6.heap.size 9 1 (.slice (some ⟨y0.heap.size, 0, none⟩) 0 0) ([] : List (List UInt8)).length (txs [])) := Lib.hid (World.ownsRow_lit y0 #[] 0 hH.size (by decide) (by simp))
                      have hN := hH.trans (kb.mono hH.size)
                      clear hH kb
                      go_simp
                      refine hKK.out _ _ hN (fun hH => ?_)
                      clear hKK KK hN
                      try simp only [Act.put, List.setIfInBounds_toArray, List.set_cons_zero, List.set_cons_succ]
                      generalize y0.alloc (.cells #[] 9 (0, 0)) = y1 at *
                      generalize y0.heap.size = ga at *
                      refine wpAnyH_ready (rs := [4, 10]) (by kernel_rfl) (by simp) ?_
                      refine AllReadyH.cons (o := { dst := some 138, op := Op.call { callee := Callee.builtin Builtin.append, args := #[Operand.tmp 134, Operand.tmp 137], argTypes := #[22, 22] }, type := 22, pos := "law.go:251", after := #[{ on := 0, ground := Ground.data }, { on := 3, ground := Ground.data }], guard := none }) rfl (fun KK hKK => ?_) (AllReadyH.cons (o := { dst := some 144, op := Op.buildSlice 22 1 #[(0, Operand.tmp 143)], type := 22, pos := "law.go:251", after := #[{ on := 9, ground := Ground.data }], guard := none }) rfl (fun KK hKK => ?_) AllReadyH.nil)
                      · refine step_append_txs (by rfl) _ _ rfl w6.heap.size _ [] (W.take W.length) rfl HA.out _ rfl (HT1.out.below hH (Nat.le_refl _)) (by simp; omega) hH.size ?_
                        intro v4 y2 q1 q2 q3
                        have hN := hH.trans q3.out
                        have HC := q1
                        rw [List.nil_append] at HC
                        clear hH q1 q2 q3 HA
                        refine hKK.out _ _ hN (fun hH => ?_)
                        clear hKK KK hN
                        try simp only [Act.put, List.setIfInBounds_toArray, List.set_cons_zero, List.set_cons_succ]
                        refine wpAnyH_ready (rs := [10]) (by kernel_rfl) (by simp) ?_
                        refine AllReadyH.cons (o := { dst := some 144, op := Op.buildSlice 22 1 #[(0, Operand.tmp 143)], type := 22, pos := "law.go:251", after := #[{ on := 9, ground := Ground.data }], guard := none }) rfl (fun KK hKK => ?_) AllReadyH.nil
                        have kb := alloc_below y2 (.cells #[.string (str nm)] 9 (0, 0))
                        have HB : Hid (blockIs (y2.alloc (.cells #[.string (str nm)] 9 (0, 0))) y2.heap.size [.string (str nm)] 9) := Lib.hid (blockIs.new y2 [.string (str nm)] 9)
                        replace HC := Lib.hid (row_below HC.out kb (Nat.le_refl _))
                        have hN := hH.trans (kb.mono hH.size)
                        clear hH kb
                        go_simp
                        refine hKK.out _ _ hN (fun hH => ?_)
                        clear hKK KK hN
                        try simp only [Act.put, List.setIfInBounds_toArray, List.set_cons_zero, List.set_cons_succ]
                        generalize y2.alloc (.cells #[.string (str nm)] 9 (0, 0)) = y3 at *
                        generalize y2.heap.size = gb at *
                        refine wpAnyH_ready (rs := [11]) (by kernel_rfl) (by simp) ?_
                        refine AllReadyH.cons (o := { dst := some 145, op := Op.call { callee := Callee.builtin Builtin.append, args := #[Operand.tmp 138, Operand.tmp 144], argTypes := #[22, 22] }, type := 22, pos := "law.go:251", after := #[{ on := 4, ground := Ground.data }, { on := 10, ground := Ground.data }, { on := 4, ground := Ground.chain }], guard := none }) rfl (fun KK hKK => ?_) AllReadyH.nil
                        refine step_append_txs (by rfl) _ _ rfl w6.heap.size _ (W.take W.length) [nm] rfl HC.out _ rfl (texts_one HB.out) (by simp; omega) hH.size ?_
                        intro v5 y4 q1 q2 q3
                        have hN := hH.trans q3.out
                        have HC2 := q1
                        clear hH q1 q2 q3 HC HB
                        refine hKK.out _ _ hN (fun hH => ?_)
                        clear hKK KK hN
                        try simp only [Act.put, List.setIfInBounds_toArray, List.set_cons_zero, List.set_cons_succ]
                        refine wpAnyH_ready (rs := [15]) (by kernel_rfl) (by simp) ?_
                        refine AllReadyH.cons (o := { dst := some 149, op := Op.call { callee := Callee.builtin Builtin.append, args := #[Operand.tmp 145, Operand.tmp 148], argTypes := #[22, 22] }, type := 22, pos := "law.go:251", after := #[{ on := 11, ground := Ground.data }, { on := 14, ground := Ground.data }, { on := 11, ground := Ground.chain }], guard := none }) rfl (fun KK hKK => ?_) AllReadyH.nil
                        refine step_append_txs (by rfl) _ _ rfl w6.heap.size _ (W.take W.length ++ [nm]) (W.drop W.length) rfl HC2.out _ rfl (HT2.out.below hH (Nat.le_refl _)) (by simp; omega) hH.size ?_
                        intro v6 y5 q1 q2 q3
                        have hN := hH.trans q3.out
                        have HC3 := q1
                        clear hH q1 q2 q3 HC2
                        refine hKK.out _ _ hN (fun hH => ?_)
                        clear hKK KK hN
                        try simp only [Act.put, List.setIfInBounds_toArray, List.set_cons_zero, List.set_cons_succ]
                        refine wpAnyH_take (i := 16) (oi := { dst := some 8, op := Op.assign (Operand.tmp 149), type := 22, pos := "law.go:251", after := #[{ on := 15, ground := Ground.data }, { on := 15, ground := Ground.chain }, { on := 0, ground := Ground.phase }, { on := 1, ground := Ground.phase }, { on := 2, ground := Ground.phase }, { on := 3, ground := Ground.phase }, { on := 4, ground := Ground.phase }, { on := 5, ground := Ground.phase }, { on := 6, ground := Ground.phase }, { on := 7, ground := Ground.phase }, { on := 8, ground := Ground.phase }, { on := 9, ground := Ground.phase }, { on := 10, ground := Ground.phase }, { on := 11, ground := Ground.phase }, { on := 12, ground := Ground.phase }, { on := 13, ground := Ground.phase }, { on := 14, ground := Ground.phase }, { on := 15, ground := Ground.phase }], guard := none }) (v := v6) rfl (by kernel_rfl) (by kernel_rfl) (by kernel_rfl) (fun _ _ _ h => h) (Or.inl ⟨by rfl, fun wx hS => ?_⟩) hH ?_
                        · go_simp
                        simp only [Act.put, List.setIfInBounds_toArray, List.set_cons_zero, List.set_cons_succ]
                        refine wpAnyH_done (by kernel_rfl) ?_ _
                        refine NoPanic.normal ?_
                        have HR7 := Lib.hid (Go.Joins.ownsRow_le HC3.out HSZ.out)
                        have HD7 := Lib.hid (HD6.out.trans (hH.mono HSZ.out))
                        clear hH HC3 HT1 HT2
                        go_wp2_with fail
                        go_roundw
                        case rel => exact ⟨n + 1, (W.take W.length ++ [nm]) ++ W.drop W.length, by omega, by go_num, HWN, HR7, HD7⟩
                        case measure => simp [intOf]; omega
                      · have kb := alloc_below y1 (.cells #[.string (str nm)] 9 (0, 0))
                        have HB : Hid (blockIs (y1.alloc (.cells #[.string (str nm)] 9 (0, 0))) y1.heap.size [.string (str nm)] 9) := Lib.hid (blockIs.new y1 [.string (str nm)] 9)
                        have HNE : Hid (ga ≠ y1.heap.size) := Lib.hid (fun e => by have := (HA.out.lt ga rfl).2; omega)
                        replace HA := Lib.hid (row_below HA.out kb (Nat.le_refl _))
                        have hN := hH.trans (kb.mono hH.size)
                        clear hH kb
                        go_simp
                        refine hKK.out _ _ hN (fun hH => ?_)
                        clear hKK KK hN
                        try simp only [Act.put, List.setIfInBounds_toArray, List.set_cons_zero, List.set_cons_succ]
                        generalize y1.alloc (.cells #[.string (str nm)] 9 (0, 0)) = y2 at *
                        generalize y1.heap.size = gb at *
                        refine wpAnyH_ready (rs := [4]) (by kernel_rfl) (by simp) ?_
                        refine AllReadyH.cons (o := { dst := some 138, op := Op.call { callee := Callee.builtin Builtin.append, args := #[Operand.tmp 134, Operand.tmp 137], argTypes := #[22, 22] }, type := 22, pos := "law.go:251", after := #[{ on := 0, ground := Ground.data }, { on := 3, ground := Ground.data }], guard := none }) rfl (fun KK hKK => ?_) AllReadyH.nil
                        refine step_append_txs (by rfl) _ _ rfl w6.heap.size _ [] (W.take W.length) rfl HA.out _ rfl (HT1.out.below hH (Nat.le_refl _)) (by simp; omega) hH.size ?_
                        intro v4 y3 q1 q2 q3
                        have hN := hH.trans q3.out
                        have HC := q1
                        rw [List.nil_append] at HC
                        replace HB : Hid (blockIs y3 gb [.string (str nm)] 9) := Lib.hid ((q2.out.block gb HB.out.lt (fun e => HNE.out (Option.some.inj e).symm)).trans HB.out)
                        clear hH q1 q2 q3 HA HNE
                        refine hKK.out _ _ hN (fun hH => ?_)
                        clear hKK KK hN
                        try simp only [Act.put, List.setIfInBounds_toArray, List.set_cons_zero, List.set_cons_succ]
                        refine wpAnyH_ready (rs := [11]) (by kernel_rfl) (by simp) ?_
                        refine AllReadyH.cons (o := { dst := some 145, op := Op.call { callee := Callee.builtin Builtin.append, args := #[Operand.tmp 138, Operand.tmp 144], argTypes := #[22, 22] }, type := 22, pos := "law.go:251", after := #[{ on := 4, ground := Ground.data }, { on := 10, ground := Ground.data }, { on := 4, ground := Ground.chain }], guard := none }) rfl (fun KK hKK => ?_) AllReadyH.nil
                        refine step_append_txs (by rfl) _ _ rfl w6.heap.size _ (W.take W.length) [nm] rfl HC.out _ rfl (texts_one HB.out) (by simp; omega) hH.size ?_
                        intro v5 y4 q1 q2 q3
                        have hN := hH.trans q3.out
                        have HC2 := q1
                        clear hH q1 q2 q3 HC HB
                        refine hKK.out _ _ hN (fun hH => ?_)
                        clear hKK KK hN
                        try simp only [Act.put, List.setIfInBounds_toArray, List.set_cons_zero, List.set_cons_succ]
                        refine wpAnyH_ready (rs := [15]) (by kernel_rfl) (by simp) ?_
                        refine AllReadyH.cons (o := { dst := some 149, op := Op.call { callee := Callee.builtin Builtin.append, args := #[Operand.tmp 145, Operand.tmp 148], argTypes := #[22, 22] }, type := 22, pos := "law.go:251", after := #[{ on := 11, ground := Ground.data }, { on := 14, ground := Ground.data }, { on := 11, ground := Ground.chain }], guard := none }) rfl (fun KK hKK => ?_) AllReadyH.nil
                        refine step_append_txs (by rfl) _ _ rfl w6.heap.size _ (W.take W.length ++ [nm]) (W.drop W.length) rfl HC2.out _ rfl (HT2.out.below hH (Nat.le_refl _)) (by simp; omega) hH.size ?_
                        intro v6 y5 q1 q2 q3
                        have hN := hH.trans q3.out
                        have HC3 := q1
                        clear hH q1 q2 q3 HC2
                        refine hKK.out _ _ hN (fun hH => ?_)
                        clear hKK KK hN
                        try simp only [Act.put, List.setIfInBounds_toArray, List.set_cons_zero, List.set_cons_succ]
                        refine wpAnyH_take (i := 16) (oi := { dst := some 8, op := Op.assign (Operand.tmp 149), type := 22, pos := "law.go:251", after := #[{ on := 15, ground := Ground.data }, { on := 15, ground := Ground.chain }, { on := 0, ground := Ground.phase }, { on := 1, ground := Ground.phase }, { on := 2, ground := Ground.phase }, { on := 3, ground := Ground.phase }, { on := 4, ground := Ground.phase }, { on := 5, ground := Ground.phase }, { on := 6, ground := Ground.phase }, { on := 7, ground := Ground.phase }, { on := 8, ground := Ground.phase }, { on := 9, ground := Ground.phase }, { on := 10, ground := Ground.phase }, { on := 11, ground := Ground.phase }, { on := 12, ground := Ground.phase }, { on := 13, ground := Ground.phase }, { on := 14, ground := Ground.phase }, { on := 15, ground := Ground.phase }], guard := none }) (v := v6) rfl (by kernel_rfl) (by kernel_rfl) (by kernel_rfl) (fun _ _ _ h => h) (Or.inl ⟨by rfl, fun wx hS => ?_⟩) hH ?_
                        · go_simp
                        simp only [Act.put, List.setIfInBounds_toArray, List.set_cons_zero, List.set_cons_succ]
                        refine wpAnyH_done (by kernel_rfl) ?_ _
                        refine NoPanic.normal ?_
                        have HR7 := Lib.hid (Go.Joins.ownsRow_le HC3.out HSZ.out)
                        have HD7 := Lib.hid (HD6.out.trans (hH.mono HSZ.out))
                        clear hH HC3 HT1 HT2
                        go_wp2_with fail
                        go_roundw
                        case rel => exact ⟨n + 1, (W.take W.length ++ [nm]) ++ W.drop W.length, by omega, by go_num, HWN, HR7, HD7⟩
                        case measure => simp [intOf]; omega
                    · have kb := alloc_below y0 (.cells #[.string (str nm)] 9 (0, 0))
                      have HB : Hid (blockIs (y0.alloc (.cells #[.string (str nm)] 9 (0, 0))) y0.heap.size [.string (str nm)] 9) := Lib.hid (blockIs.new y0 [.string (str nm)] 9)
                      have hN := hH.trans (kb.mono hH.size)
                      clear hH kb
                      go_simp
                      refine hKK.out _ _ hN (fun hH => ?_)
                      clear hKK KK hN
                      try simp only [Act.put, List.setIfInBounds_toArray, List.set_cons_zero, List.set_cons_succ]
                      generalize y0.alloc (.cells #[.string (str nm)] 9 (0, 0)) = y1 at *
                      generalize y0.heap.size = gb at *
                      refine wpAnyH_ready (rs := [0]) (by kernel_rfl) (by simp) ?_
                      refine AllReadyH.cons (o := { dst := some 134, op := Op.buildSlice 22 0 #[], type := 22, pos := "law.go:251", after := #[], guard := none }) rfl (fun KK hKK => ?_) AllReadyH.nil
                      have kb := alloc_below y1 (.cells #[] 9 (0, 0))
                      have HA : Hid ((y1.alloc (.cells #[] 9 (0, 0))).ownsRow w6.heap.size 9 1 (.slice (some ⟨y1.heap.size, 0, none⟩) 0 0) ([] : List (List UInt8)).length (txs [])) := Lib.hid (World.ownsRow_lit y1 #[] 0 hH.size (by decide) (by simp))
                      have HNE : Hid (y1.heap.size ≠ gb) := Lib.hid (fun e => by have := HB.out.lt; omega)
                      replace HB := Lib.hid (HB.out.below kb HB.out.lt)
                      have hN := hH.trans (kb.mono hH.size)
                      clear hH kb
                      go_simp
                      refine hKK.out _ _ hN (fun hH => ?_)
                      clear hKK KK hN
                      try simp only [Act.put, List.setIfInBounds_toArray, List.set_cons_zero, List.set_cons_succ]
                      generalize y1.alloc (.cells #[] 9 (0, 0)) = y2 at *
                      generalize y1.heap.size = ga at *
                      refine wpAnyH_ready (rs := [4]) (by kernel_rfl) (by simp) ?_
                      refine AllReadyH.cons (o := { dst := some 138, op := Op.call { callee := Callee.builtin Builtin.append, args := #[Operand.tmp 134, Operand.tmp 137], argTypes := #[22, 22] }, type := 22, pos := "law.go:251", after := #[{ on := 0, ground := Ground.data }, { on := 3, ground := Ground.data }], guard := none }) rfl (fun KK hKK => ?_) AllReadyH.nil
                      refine step_append_txs (by rfl) _ _ rfl w6.heap.size _ [] (W.take W.length) rfl HA.out _ rfl (HT1.out.below hH (Nat.le_refl _)) (by simp; omega) hH.size ?_
                      intro v4 y3 q1 q2 q3
                      have hN := hH.trans q3.out
                      have HC := q1
                      rw [List.nil_append] at HC
                      replace HB : Hid (blockIs y3 gb [.string (str nm)] 9) := Lib.hid ((q2.out.block gb HB.out.lt (fun e => HNE.out (Option.some.inj e).symm)).trans HB.out)
                      clear hH q1 q2 q3 HA HNE
                      refine hKK.out _ _ hN (fun hH => ?_)
                      clear hKK KK hN
                      try simp only [Act.put, List.setIfInBounds_toArray, List.set_cons_zero, List.set_cons_succ]
                      refine wpAnyH_ready (rs := [11]) (by kernel_rfl) (by simp) ?_
                      refine AllReadyH.cons (o := { dst := some 145, op := Op.call { callee := Callee.builtin Builtin.append, args := #[Operand.tmp 138, Operand.tmp 144], argTypes := #[22, 22] }, type := 22, pos := "law.go:251", after := #[{ on := 4, ground := Ground.data }, { on := 10, ground := Ground.data }, { on := 4, ground := Ground.chain }], guard := none }) rfl (fun KK hKK => ?_) AllReadyH.nil
                      refine step_append_txs (by rfl) _ _ rfl w6.heap.size _ (W.take W.length) [nm] rfl HC.out _ rfl (texts_one HB.out) (by simp; omega) hH.size ?_
                      intro v5 y4 q1 q2 q3
                      have hN := hH.trans q3.out
                      have HC2 := q1
                      clear hH q1 q2 q3 HC HB
                      refine hKK.out _ _ hN (fun hH => ?_)
                      clear hKK KK hN
                      try simp only [Act.put, List.setIfInBounds_toArray, List.set_cons_zero, List.set_cons_succ]
                      refine wpAnyH_ready (rs := [15]) (by kernel_rfl) (by simp) ?_
                      refine AllReadyH.cons (o := { dst := some 149, op := Op.call { callee := Callee.builtin Builtin.append, args := #[Operand.tmp 145, Operand.tmp 148], argTypes := #[22, 22] }, type := 22, pos := "law.go:251", after := #[{ on := 11, ground := Ground.data }, { on := 14, ground := Ground.data }, { on := 11, ground := Ground.chain }], guard := none }) rfl (fun KK hKK => ?_) AllReadyH.nil
                      refine step_append_txs (by rfl) _ _ rfl w6.heap.size _ (W.take W.length ++ [nm]) (W.drop W.length) rfl HC2.out _ rfl (HT2.out.below hH (Nat.le_refl _)) (by simp; omega) hH.size ?_
                      intro v6 y5 q1 q2 q3
                      have hN := hH.trans q3.out
                      have HC3 := q1
                      clear hH q1 q2 q3 HC2
                      refine hKK.out _ _ hN (fun hH => ?_)
                      clear hKK KK hN
                      try simp only [Act.put, List.setIfInBounds_toArray, List.set_cons_zero, List.set_cons_succ]
                      refine wpAnyH_take (i := 16) (oi := { dst := some 8, op := Op.assign (Operand.tmp 149), type := 22, pos := "law.go:251", after := #[{ on := 15, ground := Ground.data }, { on := 15, ground := Ground.chain }, { on := 0, ground := Ground.phase }, { on := 1, ground := Ground.phase }, { on := 2, ground := Ground.phase }, { on := 3, ground := Ground.phase }, { on := 4, ground := Ground.phase }, { on := 5, ground := Ground.phase }, { on := 6, ground := Ground.phase }, { on := 7, ground := Ground.phase }, { on := 8, ground := Ground.phase }, { on := 9, ground := Ground.phase }, { on := 10, ground := Ground.phase }, { on := 11, ground := Ground.phase }, { on := 12, ground := Ground.phase }, { on := 13, ground := Ground.phase }, { on := 14, ground := Ground.phase }, { on := 15, ground := Ground.phase }], guard := none }) (v := v6) rfl (by kernel_rfl) (by kernel_rfl) (by kernel_rfl) (fun _ _ _ h => h) (Or.inl ⟨by rfl, fun wx hS => ?_⟩) hH ?_
                      · go_simp
                      simp only [Act.put, List.setIfInBounds_toArray, List.set_cons_zero, List.set_cons_succ]
                      refine wpAnyH_done (by kernel_rfl) ?_ _
                      refine NoPanic.normal ?_
                      have HR7 := Lib.hid (Go.Joins.ownsRow_le HC3.out HSZ.out)
                      have HD7 := Lib.hid (HD6.out.trans (hH.mono HSZ.out))
                      clear hH HC3 HT1 HT2
                      go_wp2_with fail
                      go_roundw
                      case rel => exact ⟨n + 1, (W.take W.length ++ [nm]) ++ W.drop W.length, by omega, by go_num, HWN, HR7, HD7⟩
                      case measure => simp [intOf]; omega
        · obtain rfl : n = E.length := by omega
          have qn : ¬ ((E.length : Int) < (E.length : Int)) := by omega
          have PL := live_any la lc E wr (by omega) (fun e he => by have := HE10.out e he; omega) (HNM.out.below HD.out (Nat.le_refl _))
          have PT := fun w => tells_any w
          go_wp2_with fail
          with_reducible refine PL.mono ?_
          clear PL
          rintro e w5 ⟨⟨v, D, rfl, hrow, hliv⟩, hb5⟩
          have HDW := Lib.hid (HW.out.same hliv)
          obtain ⟨ga, gc, rfl, g1, g2, gcell⟩ := row_names hrow
          have HGC := Lib.hid gcell
          have HRW := Lib.hid (row_below HR.out hb5 (Nat.le_refl _))
          have HD5 := Lib.hid (HD.out.trans (hb5.mono HD.out.size))
          have hdl : D.length ≤ 20 := by have := hliv.2.2; rw [List.length_map] at this; omega
          clear hrow hliv hb5 gcell HR HD HW
          go_wp2_with fail
          go_loopw [16, 15] (fun i v w6 => ∃ (p : Nat), p ≤ D.length ∧ i = .int .i64 p ∧ Hid (w6.ownsRow w5.heap.size 9 1 v p (txs ((D.map Prod.fst).take p))) ∧ Hid (Below w5.heap.size w5 w6)) (fun i _ _ => D.length - (intOf i).toNat)
          case atStart => exact ⟨0, Nat.zero_le _, rfl, Lib.hid (World.ownsRow_nil _ _ _ _), Lib.hid (Below.refl _ _)⟩
          case round =>
            obtain ⟨p, hp, rfl, HH, HB5⟩ := hrel
            have pp : 0 ≤ (p : Int) := by omega
            by_cases hpl : p < D.length
            · have qp : (p : Int) < (D.length : Int) := by omega
              obtain ⟨gb, rfl, hgc⟩ := HGC.out p hpl
              have gcx : wr.cell? ⟨gb, p * 3, none⟩ = some (.string (str D[p].1)) := (HB5.out.cell (p := ⟨gb, p * 3, none⟩) (block_lt_of_cell hgc)).trans hgc
              have HTK : Hid ((D.map Prod.fst).take (p + 1) = (D.map Prod.fst).take p ++ [D[p].1]) := Lib.hid (by
                rw [List.take_succ_eq_append_getElem (by rw [List.length_map]; exact hpl), List.getElem_map])
              clear hgc
              generalize D[p].1 = nm at *
              have hpl2 : ((D.map Prod.fst).take p).length = p := by rw [List.length_take, List.length_map]; omega
              have HA : Hid ((wr.alloc (.cells #[.string (str nm)] 9)).ownsRow w5.heap.size 9 1 _ ((D.map Prod.fst).take p).length (txs ((D.map Prod.fst).take p))) := Lib.hid (by rw [hpl2]; exact HH.out.alloc (.cells #[.string (str nm)] 9))
              clear hpl2
              have HT : Hid (textsIn (wr.alloc (.cells #[.string (str nm)] 9)) (.slice (some ⟨wr.heap.size, 0, none⟩) 1 1) [nm]) := Lib.hid (texts_one (blockIs.new wr [.string (str nm)] 9))
              have HBA := Lib.hid (HB5.out.alloc HB5.out.size (.cells #[.string (str nm)] 9))
              have HBS := Lib.hid HBA.out.size
              clear HH HB5
              go_wp2_with (refine append_txs rfl _ _ rfl w5.heap.size _ ((D.map Prod.fst).take p) [nm] rfl HA.out _ rfl HT.out (by rw [List.length_take, List.length_map]; simp; omega) HBS.out ?_)
              intro v7 w7 r1 r2
              have HB7 := Lib.hid (HBA.out.trans (own_grown HA.out r2.out HBS.out))
              have HR1 : Hid (w7.ownsRow w5.heap.size 9 1 v7 (p + 1) (txs ((D.map Prod.fst).take (p + 1)))) := Lib.hid (by
                have := r1.out
                rw [← HTK.out] at this
                exact this)
              clear r1 r2 HA HT HBA HBS HTK
              go_wp2_with fail
              go_roundw
              case rel => exact ⟨p + 1, by omega, by go_num, HR1, HB7⟩
              case measure => simp [intOf]; omega
            · obtain rfl : p = D.length := by omega
              have qp : ¬ ((D.length : Int) < (D.length : Int)) := by omega
              have hh := HH.out
              rw [List.take_of_length_le (by rw [List.length_map]; omega), HDW.out, show D.length = W.length by rw [← HDW.out, List.length_map]] at hh
              have HHV := Lib.hid (own_texts hh)
              have HWV := Lib.hid (own_texts (row_below HRW.out HB5.out (Nat.le_refl _)))
              have HDZ := Lib.hid (HD5.out.trans (HB5.out.mono HD5.out.size))
              clear hh HH HRW HB5 HD5
              go_wp2_with fail
              with_reducible refine (PT _).mono ?_
              clear PT
              rintro e w8 ⟨rfl, hb8⟩
              have PS := texts_same _ _ W w8 (HHV.out.below hb8 (Nat.le_refl _)) (HWV.out.below hb8 (Nat.le_refl _))
              have HB8 := Lib.hid (HDZ.out.trans (hb8.mono HDZ.out.size))
              clear hb8 HHV HWV HDZ
              go_wp2_with fail
              with_reducible refine PS.mono ?_
              clear PS
              rintro e w9 ⟨rfl, hb9⟩
              have HB9 := Lib.hid (HB8.out.trans (hb9.mono HB8.out.size))
              clear hb9
              go_wp2_with fail
              go_ret
              exact ⟨rfl, HB.out.trans (HB9.out.mono HB.out.size)⟩
end Go.Proofs.Ytfbekpkagncblaa
