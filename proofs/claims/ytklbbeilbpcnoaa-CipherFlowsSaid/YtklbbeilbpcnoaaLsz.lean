/- The law CipherSizes: its walk. -/
import Derived.Test.YtklbbeilbpcnoaaHid
namespace Go.Proofs.Ytklbbeilbpcnoaa
open Go.RowKit Sha Aes

set_option maxRecDepth 100000 in
set_option maxHeartbeats 1000000 in
theorem make_bad (a : Option Addr) (c n : Nat) (w : World) (hn : n ≠ 32) :
    Calls Try.prog 9 #[.slice a n c] w fun e w' => e = .returned (.tuple #[.pointer none, .int .i64 1]) ∧ w = w' := by
  have h1 : ¬ (n : Int) = 32 := by omega
  go_enter Try.func9, Try.ntmps9
  go_wp2_with fail
  refine bodyPost_ret (v := .tuple #[.pointer none, .int .i64 1]) (results_tmp2 (t := 2) (u := 3) rfl _ _ _) rfl ?_
  exact ⟨rfl, rfl⟩
theorem nobody_any (w : World) : Calls Try.prog 12 #[] w fun e w' => e = .returned (.pointer none) ∧ w = w' := by
  go_enter Try.func12, Try.ntmps12
  go_wp2_with fail
  go_ret
  exact ⟨rfl, rfl⟩
theorem nothing_any (w : World) : Calls Try.prog 17 #[] w fun e w' => e = .returned (.pointer none) ∧ w = w' := by
  go_enter Try.func17, Try.ntmps17
  go_wp2_with fail
  go_ret
  exact ⟨rfl, rfl⟩
set_option maxRecDepth 100000 in
theorem begin_nil (L : List Value) (w : World) :
    Calls Try.prog 10 #[.pointer none, .agg L.toArray] w fun e w' => e = .returned (.tuple #[.pointer none, .int .i64 1]) ∧ Below w.heap.size w w' := by
  go_enter Try.func10, Try.ntmps10
  go_wp2_with fail
  refine bodyPost_ret (v := .tuple #[.pointer none, .int .i64 1]) (results_tmp2 (t := 4) (u := 5) rfl _ _ _) rfl ?_
  exact ⟨rfl, alloc_below _ _⟩
theorem hide_nil (v : Value) (w : World) : Calls Try.prog 18 #[.pointer none, v] w fun e w' => e = .returned (.slice none 0 0) ∧ w = w' := by
  go_enter Try.func18, Try.ntmps18
  go_wp2_with fail
  go_ret
  exact ⟨rfl, rfl⟩
theorem at_nil (w : World) : Calls Try.prog 19 #[.pointer none] w fun e w' => e = .returned (.int .i64 0) ∧ w = w' := by
  go_enter Try.func19, Try.ntmps19
  go_wp2_with fail
  go_ret
  exact ⟨rfl, rfl⟩
theorem seek_nil (n : Int) (w : World) : Calls Try.prog 20 #[.pointer none, .int .i64 n] w fun e w' => e = .returned (.int .i64 1) ∧ w = w' := by
  go_enter Try.func20, Try.ntmps20
  go_wp2_with fail
  go_ret
  exact ⟨rfl, rfl⟩
set_option maxRecDepth 100000 in
set_option maxHeartbeats 4000000 in
theorem law_cipherSizes (a : Option Addr) (c : Nat) (F N : List UInt8) (w : World) (hin : bytesIn w a F) (hN : N.length = 16) :
    Calls Try.prog 4 #[.slice a F.length c, .agg (byteCells N).toArray] w fun e w' => e = .returned (.bool true) ∧ Below w.heap.size w w' := by
  have G1 := Lib.hid (blockIs.new w (byteCells N) 23)
  have B1 := Lib.hid (alloc_below w (.cells (byteCells N).toArray 23 (0, 0)))
  have HNL : Hid ((byteCells N).length = 16) := Lib.hid (by rw [byteCells_length]; exact hN)
  have Q1 := Lib.hid (hin.below B1.out)
  clear hin hN
  generalize byteCells N = LN at *
  by_cases hF : F.length = 32
  · have HM := Lib.hid (make_any a c F (w.alloc (.cells LN.toArray 23 (0, 0))) hF Q1.out)
    generalize F.length = n at *
    obtain rfl : n = 32 := hF
    go_enter Try.func4, Try.ntmps4
    go_wp2_with fail
    generalize w.alloc (.cells LN.toArray 23 (0, 0)) = w1 at *
    with_reducible refine HM.out.mono ?_
    rintro e w2 ⟨g, rfl, _, _, kk⟩
    have G2 := Lib.hid (G1.out.below kk G1.out.lt)
    have B2 := Lib.hid (B1.out.trans (kk.mono B1.out.size))
    clear kk HM G1 B1 Q1
    have RN : Hid (∀ X, Below w2.heap.size w2 X → X.rangeAt w.heap.size 0 LN) := Lib.hid (fun X hX => range_of (G2.out.below hX G2.out.lt))
    clear G2
    go_upto_region 2 with fail
    refine wp_region_noPanic ?_
    refine wp_region_held_drew (S := fun w' => Below w2.heap.size w2 w') (by kernel_rfl) (below_drew' (Below.refl _ _)) (fun hH => ?_)
    refine wpAnyH_take (i := 1) (oi := { dst := some 16, op := Op.load 23 (Operand.tmp 3), type := 23, pos := "law.go:40", after := #[], guard := none }) (v := .agg LN.toArray) rfl (by kernel_rfl) (by kernel_rfl) (by kernel_rfl) (fun _ _ _ h => h) (yieldsIf_load_mid (by rfl) 23 _ rfl w.heap.size 0 rfl LN _ (fun wx hS => RN.out wx hS) Try.underlying23 rfl (by rw [infoBlk, HNL.out])) hH ?_
    simp only [Act.put, List.setIfInBounds_toArray, List.set_cons_zero, List.set_cons_succ]
    refine wpAnyH_ready (rs := [0]) (by kernel_rfl) (by simp) ?_
    refine AllReadyH.cons (o := { dst := some 15, op := Op.call { callee := Callee.value (Operand.func 12), args := #[], argTypes := #[] }, type := 24, pos := "law.go:40", after := #[], guard := none }) rfl (fun KK hKK => ?_) AllReadyH.nil
    go_simp
    refine (nobody_any _).mono ?_
    rintro e x0 ⟨rfl, rfl⟩
    refine hKK.out _ _ hH (fun hH => ?_)
    clear hKK KK
    try simp only [Act.put, List.setIfInBounds_toArray, List.set_cons_zero, List.set_cons_succ]
    refine wpAnyH_ready (rs := [2]) (by kernel_rfl) (by simp) ?_
    refine AllReadyH.cons (o := { dst := some 17, op := Op.call { callee := Callee.value (Operand.func 10), args := #[Operand.tmp 15, Operand.tmp 16], argTypes := #[24, 23] }, type := 30, pos := "law.go:40", after := #[{ on := 0, ground := Ground.data }, { on := 1, ground := Ground.data }, { on := 0, ground := Ground.chain }], guard := none }) rfl (fun KK hKK => ?_) AllReadyH.nil
    go_simp
    refine (begin_nil LN _).mono ?_
    rintro e x2 ⟨rfl, kk⟩
    have hN := hH.trans (kk.mono hH.size)
    clear hH kk
    refine hKK.out _ _ hN (fun hH => ?_)
    clear hKK KK hN
    try simp only [Act.put, List.setIfInBounds_toArray, List.set_cons_zero, List.set_cons_succ]
    refine wpAnyH_take (i := 3) (oi := { dst := some 14, op := Op.move (Operand.tmp 17), type := 30, pos := "law.go:40", after := #[{ on := 2, ground := Ground.data }], guard := none }) (v := .tuple #[.pointer none, .int .i64 1]) rfl (by kernel_rfl) (by kernel_rfl) (by kernel_rfl) (fun _ _ _ h => h) (Or.inl ⟨by rfl, fun wx hS => ?_⟩) hH ?_
    · go_simp
    simp only [Act.put, List.setIfInBounds_toArray, List.set_cons_zero, List.set_cons_succ]
    refine wpAnyH_take (i := 4) (oi := { dst := some 18, op := Op.extract (Operand.tmp 14) 0, type := 29, pos := "law.go:40", after := #[{ on := 3, ground := Ground.data }], guard := none }) (v := .pointer none) rfl (by kernel_rfl) (by kernel_rfl) (by kernel_rfl) (fun _ _ _ h => h) (Or.inl ⟨by rfl, fun wx hS => ?_⟩) hH ?_
    · go_simp
    simp only [Act.put, List.setIfInBounds_toArray, List.set_cons_zero, List.set_cons_succ]
    refine wpAnyH_take (i := 5) (oi := { dst := some 19, op := Op.extract (Operand.tmp 14) 1, type := 25, pos := "law.go:40", after := #[{ on := 3, ground := Ground.data }, { on := 6, ground := Ground.gcOnly Departure.lateStores }], guard := none }) (v := .int .i64 1) rfl (by kernel_rfl) (by kernel_rfl) (by kernel_rfl) (fun _ _ _ h => h) (Or.inl ⟨by rfl, fun wx hS => ?_⟩) hH ?_
    · go_simp
    simp only [Act.put, List.setIfInBounds_toArray, List.set_cons_zero, List.set_cons_succ]
    refine wpAnyH_take (i := 6) (oi := { dst := some 7, op := Op.assign (Operand.tmp 18), type := 29, pos := "law.go:40", after := #[{ on := 4, ground := Ground.data }, { on := 2, ground := Ground.chain }, { on := 0, ground := Ground.phase }, { on := 1, ground := Ground.phase }, { on := 2, ground := Ground.phase }, { on := 3, ground := Ground.phase }, { on := 4, ground := Ground.phase }, { on := 5, ground := Ground.textOnly Departure.lateStores }], guard := none }) (v := .pointer none) rfl (by kernel_rfl) (by kernel_rfl) (by kernel_rfl) (fun _ _ _ h => h) (Or.inl ⟨by rfl, fun wx hS => ?_⟩) hH ?_
    · go_simp
    simp only [Act.put, List.setIfInBounds_toArray, List.set_cons_zero, List.set_cons_succ]
    refine wpAnyH_take (i := 7) (oi := { dst := some 8, op := Op.assign (Operand.tmp 19), type := 25, pos := "law.go:40", after := #[{ on := 5, ground := Ground.data }, { on := 6, ground := Ground.chain }, { on := 0, ground := Ground.phase }, { on := 1, ground := Ground.phase }, { on := 2, ground := Ground.phase }, { on := 3, ground := Ground.phase }, { on := 4, ground := Ground.phase }, { on := 5, ground := Ground.phase }, { on := 6, ground := Ground.phase }], guard := none }) (v := .int .i64 1) rfl (by kernel_rfl) (by kernel_rfl) (by kernel_rfl) (fun _ _ _ h => h) (Or.inl ⟨by rfl, fun wx hS => ?_⟩) hH ?_
    · go_simp
    simp only [Act.put, List.setIfInBounds_toArray, List.set_cons_zero, List.set_cons_succ]
    refine wpAnyH_done (by kernel_rfl) ?_ _
    refine NoPanic.normal ?_
    have B3 := Lib.hid (B2.out.trans (hH.mono B2.out.size))
    clear hH B2 RN
    go_wp2_with fail
    refine (hides_any _).mono ?_
    rintro e w5 ⟨rfl, kk⟩
    have B5 := Lib.hid (B3.out.trans (kk.mono B3.out.size))
    clear kk B3
    go_wp2_with fail
    refine (nothing_any _).mono ?_
    rintro e w6 ⟨rfl, rfl⟩
    have B6 := Lib.hid (below_alloc' B5.out (.cells #[.slice a 32 c] 28 (0, 0)))
    go_wp2_with fail
    refine (hide_nil _ _).mono ?_
    rintro e w7 ⟨rfl, rfl⟩
    go_wp2_with fail
    refine (nothing_any _).mono ?_
    rintro e w8 ⟨rfl, rfl⟩
    go_wp2_with fail
    refine (at_nil _).mono ?_
    rintro e w9 ⟨rfl, rfl⟩
    go_wp2_with fail
    refine (nothing_any _).mono ?_
    rintro e w10 ⟨rfl, rfl⟩
    go_wp2_with fail
    refine (seek_nil _ _).mono ?_
    rintro e w11 ⟨rfl, rfl⟩
    go_wp2_with fail
    go_ret
    exact ⟨rfl, B6.out⟩
  · have HM := Lib.hid (make_bad a c F.length (w.alloc (.cells LN.toArray 23 (0, 0))) hF)
    have eF : ¬ (F.length : Int) = 32 := by omega
    have eB : ((F.length : Int) == 32) = false := by simpa using eF
    generalize F.length = n at *
    go_enter Try.func4, Try.ntmps4
    go_wp2_with fail
    generalize w.alloc (.cells LN.toArray 23 (0, 0)) = w1 at *
    with_reducible refine HM.out.mono ?_
    rintro e w2 ⟨rfl, rfl⟩
    have G2 := G1
    have B2 := B1
    clear HM G1 B1 Q1
    generalize w1 = w2 at *
    have RN : Hid (∀ X, Below w2.heap.size w2 X → X.rangeAt w.heap.size 0 LN) := Lib.hid (fun X hX => range_of (G2.out.below hX G2.out.lt))
    clear G2
    go_upto_region 2 with fail
    refine wp_region_noPanic ?_
    refine wp_region_held_drew (S := fun w' => Below w2.heap.size w2 w') (by kernel_rfl) (below_drew' (Below.refl _ _)) (fun hH => ?_)
    refine wpAnyH_take (i := 1) (oi := { dst := some 16, op := Op.load 23 (Operand.tmp 3), type := 23, pos := "law.go:40", after := #[], guard := none }) (v := .agg LN.toArray) rfl (by kernel_rfl) (by kernel_rfl) (by kernel_rfl) (fun _ _ _ h => h) (yieldsIf_load_mid (by rfl) 23 _ rfl w.heap.size 0 rfl LN _ (fun wx hS => RN.out wx hS) Try.underlying23 rfl (by rw [infoBlk, HNL.out])) hH ?_
    simp only [Act.put, List.setIfInBounds_toArray, List.set_cons_zero, List.set_cons_succ]
    refine wpAnyH_ready (rs := [0]) (by kernel_rfl) (by simp) ?_
    refine AllReadyH.cons (o := { dst := some 15, op := Op.call { callee := Callee.value (Operand.func 12), args := #[], argTypes := #[] }, type := 24, pos := "law.go:40", after := #[], guard := none }) rfl (fun KK hKK => ?_) AllReadyH.nil
    go_simp
    refine (nobody_any _).mono ?_
    rintro e x0 ⟨rfl, rfl⟩
    refine hKK.out _ _ hH (fun hH => ?_)
    clear hKK KK
    try simp only [Act.put, List.setIfInBounds_toArray, List.set_cons_zero, List.set_cons_succ]
    refine wpAnyH_ready (rs := [2]) (by kernel_rfl) (by simp) ?_
    refine AllReadyH.cons (o := { dst := some 17, op := Op.call { callee := Callee.value (Operand.func 10), args := #[Operand.tmp 15, Operand.tmp 16], argTypes := #[24, 23] }, type := 30, pos := "law.go:40", after := #[{ on := 0, ground := Ground.data }, { on := 1, ground := Ground.data }, { on := 0, ground := Ground.chain }], guard := none }) rfl (fun KK hKK => ?_) AllReadyH.nil
    go_simp
    refine (begin_nil LN _).mono ?_
    rintro e x2 ⟨rfl, kk⟩
    have hN := hH.trans (kk.mono hH.size)
    clear hH kk
    refine hKK.out _ _ hN (fun hH => ?_)
    clear hKK KK hN
    try simp only [Act.put, List.setIfInBounds_toArray, List.set_cons_zero, List.set_cons_succ]
    refine wpAnyH_take (i := 3) (oi := { dst := some 14, op := Op.move (Operand.tmp 17), type := 30, pos := "law.go:40", after := #[{ on := 2, ground := Ground.data }], guard := none }) (v := .tuple #[.pointer none, .int .i64 1]) rfl (by kernel_rfl) (by kernel_rfl) (by kernel_rfl) (fun _ _ _ h => h) (Or.inl ⟨by rfl, fun wx hS => ?_⟩) hH ?_
    · go_simp
    simp only [Act.put, List.setIfInBounds_toArray, List.set_cons_zero, List.set_cons_succ]
    refine wpAnyH_take (i := 4) (oi := { dst := some 18, op := Op.extract (Operand.tmp 14) 0, type := 29, pos := "law.go:40", after := #[{ on := 3, ground := Ground.data }], guard := none }) (v := .pointer none) rfl (by kernel_rfl) (by kernel_rfl) (by kernel_rfl) (fun _ _ _ h => h) (Or.inl ⟨by rfl, fun wx hS => ?_⟩) hH ?_
    · go_simp
    simp only [Act.put, List.setIfInBounds_toArray, List.set_cons_zero, List.set_cons_succ]
    refine wpAnyH_take (i := 5) (oi := { dst := some 19, op := Op.extract (Operand.tmp 14) 1, type := 25, pos := "law.go:40", after := #[{ on := 3, ground := Ground.data }, { on := 6, ground := Ground.gcOnly Departure.lateStores }], guard := none }) (v := .int .i64 1) rfl (by kernel_rfl) (by kernel_rfl) (by kernel_rfl) (fun _ _ _ h => h) (Or.inl ⟨by rfl, fun wx hS => ?_⟩) hH ?_
    · go_simp
    simp only [Act.put, List.setIfInBounds_toArray, List.set_cons_zero, List.set_cons_succ]
    refine wpAnyH_take (i := 6) (oi := { dst := some 7, op := Op.assign (Operand.tmp 18), type := 29, pos := "law.go:40", after := #[{ on := 4, ground := Ground.data }, { on := 2, ground := Ground.chain }, { on := 0, ground := Ground.phase }, { on := 1, ground := Ground.phase }, { on := 2, ground := Ground.phase }, { on := 3, ground := Ground.phase }, { on := 4, ground := Ground.phase }, { on := 5, ground := Ground.textOnly Departure.lateStores }], guard := none }) (v := .pointer none) rfl (by kernel_rfl) (by kernel_rfl) (by kernel_rfl) (fun _ _ _ h => h) (Or.inl ⟨by rfl, fun wx hS => ?_⟩) hH ?_
    · go_simp
    simp only [Act.put, List.setIfInBounds_toArray, List.set_cons_zero, List.set_cons_succ]
    refine wpAnyH_take (i := 7) (oi := { dst := some 8, op := Op.assign (Operand.tmp 19), type := 25, pos := "law.go:40", after := #[{ on := 5, ground := Ground.data }, { on := 6, ground := Ground.chain }, { on := 0, ground := Ground.phase }, { on := 1, ground := Ground.phase }, { on := 2, ground := Ground.phase }, { on := 3, ground := Ground.phase }, { on := 4, ground := Ground.phase }, { on := 5, ground := Ground.phase }, { on := 6, ground := Ground.phase }], guard := none }) (v := .int .i64 1) rfl (by kernel_rfl) (by kernel_rfl) (by kernel_rfl) (fun _ _ _ h => h) (Or.inl ⟨by rfl, fun wx hS => ?_⟩) hH ?_
    · go_simp
    simp only [Act.put, List.setIfInBounds_toArray, List.set_cons_zero, List.set_cons_succ]
    refine wpAnyH_done (by kernel_rfl) ?_ _
    refine NoPanic.normal ?_
    have B3 := Lib.hid (B2.out.trans (hH.mono B2.out.size))
    clear hH B2 RN
    go_wp2_with fail
    refine (hides_any _).mono ?_
    rintro e w5 ⟨rfl, kk⟩
    have B5 := Lib.hid (B3.out.trans (kk.mono B3.out.size))
    clear kk B3
    go_wp2_with fail
    refine (nothing_any _).mono ?_
    rintro e w6 ⟨rfl, rfl⟩
    have B6 := Lib.hid (below_alloc' B5.out (.cells #[.slice a n c] 28 (0, 0)))
    go_wp2_with fail
    refine (hide_nil _ _).mono ?_
    rintro e w7 ⟨rfl, rfl⟩
    go_wp2_with fail
    refine (nothing_any _).mono ?_
    rintro e w8 ⟨rfl, rfl⟩
    go_wp2_with fail
    refine (at_nil _).mono ?_
    rintro e w9 ⟨rfl, rfl⟩
    go_wp2_with fail
    refine (nothing_any _).mono ?_
    rintro e w10 ⟨rfl, rfl⟩
    go_wp2_with fail
    refine (seek_nil _ _).mono ?_
    rintro e w11 ⟨rfl, rfl⟩
    go_wp2_with fail
    go_ret
    exact ⟨rfl, B6.out⟩
end Go.Proofs.Ytklbbeilbpcnoaa
