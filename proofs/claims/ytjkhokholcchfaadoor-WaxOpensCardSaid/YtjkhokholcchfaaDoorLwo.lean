/- The law WaxOpens: its walk. -/
import Derived.Test.YtjkhokholcchfaaDoorGp
namespace Go.Proofs.YtjkhokholcchfaaDoor
open Go.RowKit Sha

set_option maxRecDepth 100000 in
set_option maxHeartbeats 4000000 in
theorem law_waxOpens (H M : List UInt8) (kd : UInt8) (nm N : List UInt8) (a : Option Addr) (c : Nat) (F0 : List UInt8) (w : World) (hH : H.length = 32) (hM : M.length = 32) (hN : N.length = 16) (hF : F0.length ≤ c) (hc : c ≤ 9223372036854775807) (_ : a = none → c = 0) (hin : bytesIn w a F0) (ht : tables w) :
    Calls Tryd.prog 5 #[.agg (letterCells H M kd nm N (.slice a F0.length c)).toArray] w fun e w' => e = .returned (.bool true) ∧ Below w.heap.size w w' := by
  have KL : Hid ((keyCells H M).length = 64) := Lib.hid (keyCells_length hH hM)
  have B1 := Lib.hid (alloc_below w (.cells (letterCells H M kd nm N (.slice a F0.length c)).toArray 38 (0, 0)))
  have L1 := Lib.hid (letter_of hH hM hN (blockIs.new w (letterCells H M kd nm N (.slice a F0.length c)) 38))
  have T1 := Lib.hid (ht.below B1.out ht.2.2.1 ht.2.2.2)
  have I1 := Lib.hid ((hin.take 250).below B1.out)
  have hsz := str_size nm
  have e3 : (F0.take 250).length ≤ c := by rw [List.length_take]; omega
  have e4 : (F0.take 250).length ≤ 250 := by rw [List.length_take]; omega
  have CT := Lib.hid (fun X => to_any H M X hH hM)
  have CD := Lib.hid (fun X (f : List UInt8) h => docOpenR_any H M kd nm f X hH hM h)
  have CO0 := Lib.hid (fun X (f : List UInt8) a c h1 h2 h3 h4 h5 => openR_any H M kd nm f a c X hH hM h1 h2 h3 h4 h5)
  clear hin ht hH hM hN
  obtain ⟨C, hC⟩ : ∃ C, C = keyCells H M := ⟨_, rfl⟩
  have LKEY : Hid (∀ X g v, letterAt X g H M kd nm N v → X.rangeAt g 0 C) := Lib.hid (fun X g v h => by rw [hC]; exact h.keys)
  rw [← hC] at KL CT CD CO0
  clear hC
  generalize letterCells H M kd nm N (.slice a F0.length c) = CC at *
  go_enter Tryd.func5, Tryd.ntmps5
  have c65 := L1.out.name
  have c82 := L1.out.bytes
  go_upto_region 1 with fail
  generalize w.alloc (.cells CC.toArray 38 (0, 0)) = w1 at *
  obtain ⟨g, hg⟩ : ∃ g, g = w.heap.size := ⟨_, rfl⟩
  rw [← hg] at L1 c65 c82 ⊢
  have HG := Lib.hid hg
  clear hg
  by_cases hbig : 1000 < nm.length
  · have g0 : (1000 : Int) < (nm.length : Int) := by omega
    have WX := Lib.hid (waxes_any w1 T1.out)
    go_wp2_with fail
    with_reducible refine WX.out.mono ?_
    rintro e w2 ⟨rfl, kk⟩
    have B2 := Lib.hid (B1.out.trans (kk.mono B1.out.size))
    clear kk
    go_wp2_with fail
    go_ret
    exact ⟨rfl, B2.out⟩
  have g0 : ¬ (1000 : Int) < (nm.length : Int) := by omega
  go_upto_region 3 with fail
  go_cut [3] (fun v wx => v = .slice a (F0.take 250).length c ∧ w1 = wx)
  case first =>
    go_wp2_with fail
    all_goals
      go_meet
      case rel => exact ⟨slice_lenW (by rw [List.length_take]; omega), rfl⟩
  obtain ⟨rfl, rfl⟩ := hcut
  clear hF c82 g0
  generalize F0.take 250 = f at *
  have c64 := L1.out.kind
  have R0 := Lib.hid (LKEY.out _ _ _ L1.out)
  have cv := conv_string w1 a f c I1.out
  have CD1 := Lib.hid (CD.out w1 f (by omega))
  go_wp2_with (refine Ci.wpList_load_mid_if (by rfl) 36 _ rfl g 0 rfl C _ R0.out Tryd.underlying36 rfl (by rw [infoRK, KL.out]) ?_)
  with_reducible refine CD1.out.mono ?_
  rintro e w2 ⟨rfl, kk⟩
  have B2 := Lib.hid (B1.out.trans (kk.mono B1.out.size))
  have LT := Lib.hid (L1.out.below kk)
  have T2 := Lib.hid (T1.out.below kk T1.out.2.2.1 T1.out.2.2.2)
  have CO : Hid (∀ X, Below w2.heap.size w2 X → _) := Lib.hid (fun X (hX : Below w2.heap.size w2 X) => CO0.out X f a c (by omega) e3 hc ((I1.out.below kk).below hX) (T2.out.below hX T2.out.2.2.1 T2.out.2.2.2))
  have LK2 := Lib.hid (fun X (hX : Below w2.heap.size w2 X) => LKEY.out X g _ (LT.out.below hX))
  clear kk cv CD1 CD CO0 c64 c65 R0 I1 L1 T1 B1 LKEY
  go_upto_region 5 with fail
  refine wp_region_noPanic ?_
  refine wp_region_held_drew (S := fun w' => Below w2.heap.size w2 w') (by kernel_rfl) (below_drew' (Below.refl _ _)) (fun hH => ?_)
  generalize w2.drew = x0 at *
  refine wpAnyH_take (i := 0) (oi := { dst := some 33, op := Op.fieldAddr 38 (Operand.tmp 1) 0, type := 0, pos := "law.go:53", after := #[], guard := none }) (v := .pointer (some ⟨g, 0, none⟩)) rfl (by kernel_rfl) (by kernel_rfl) (by kernel_rfl) (fun _ _ _ h => h) (Or.inl ⟨by rfl, fun wx hS => ?_⟩) hH ?_
  · go_simp
  simp only [Act.put, List.setIfInBounds_toArray, List.set_cons_zero, List.set_cons_succ]
  refine wpAnyH_take (i := 1) (oi := { dst := some 34, op := Op.load 36 (Operand.tmp 33), type := 36, pos := "law.go:53", after := #[{ on := 0, ground := Ground.data }], guard := none }) (v := .agg (C).toArray) rfl (by kernel_rfl) (by kernel_rfl) (by kernel_rfl) (fun _ _ _ h => h) (yieldsIf_load_mid (by rfl) 36 _ rfl (g) 0 rfl (C) _ (fun wx hS => LK2.out wx hS) Tryd.underlying36 rfl (by rw [infoRK, KL.out])) hH ?_
  simp only [Act.put, List.setIfInBounds_toArray, List.set_cons_zero, List.set_cons_succ]
  refine wpAnyH_take (i := 3) (oi := { dst := some 36, op := Op.fieldAddr 38 (Operand.tmp 1) 1, type := 0, pos := "law.go:53", after := #[], guard := none }) (v := .pointer (some ⟨g, 64, none⟩)) rfl (by kernel_rfl) (by kernel_rfl) (by kernel_rfl) (fun _ _ _ h => h) (Or.inl ⟨by rfl, fun wx hS => ?_⟩) hH ?_
  · go_simp
  simp only [Act.put, List.setIfInBounds_toArray, List.set_cons_zero, List.set_cons_succ]
  refine wpAnyH_take (i := 4) (oi := { dst := some 37, op := Op.load 5 (Operand.tmp 36), type := 5, pos := "law.go:53", after := #[{ on := 3, ground := Ground.data }], guard := none }) (v := .int .u8 (V kd)) rfl (by kernel_rfl) (by kernel_rfl) (by kernel_rfl) (fun _ _ _ h => h) (Or.inl ⟨by rfl, fun wx hS => ?_⟩) hH ?_
  · have e1 := (LT.out.below hS).kind; go_simp
  simp only [Act.put, List.setIfInBounds_toArray, List.set_cons_zero, List.set_cons_succ]
  refine wpAnyH_take (i := 5) (oi := { dst := some 38, op := Op.fieldAddr 38 (Operand.tmp 1) 2, type := 0, pos := "law.go:53", after := #[], guard := none }) (v := .pointer (some ⟨g, 65, none⟩)) rfl (by kernel_rfl) (by kernel_rfl) (by kernel_rfl) (fun _ _ _ h => h) (Or.inl ⟨by rfl, fun wx hS => ?_⟩) hH ?_
  · go_simp
  simp only [Act.put, List.setIfInBounds_toArray, List.set_cons_zero, List.set_cons_succ]
  refine wpAnyH_take (i := 6) (oi := { dst := some 39, op := Op.load 9 (Operand.tmp 38), type := 9, pos := "law.go:53", after := #[{ on := 5, ground := Ground.data }], guard := none }) (v := .string (str nm)) rfl (by kernel_rfl) (by kernel_rfl) (by kernel_rfl) (fun _ _ _ h => h) (Or.inl ⟨by rfl, fun wx hS => ?_⟩) hH ?_
  · have e1 := (LT.out.below hS).name; go_simp
  simp only [Act.put, List.setIfInBounds_toArray, List.set_cons_zero, List.set_cons_succ]
  refine wpAnyH_take (i := 7) (oi := { dst := some 40, op := Op.move (Operand.tmp 3), type := 22, pos := "law.go:53", after := #[], guard := none }) (v := .slice a f.length c) rfl (by kernel_rfl) (by kernel_rfl) (by kernel_rfl) (fun _ _ _ h => h) (Or.inl ⟨by rfl, fun wx hS => ?_⟩) hH ?_
  · go_simp
  simp only [Act.put, List.setIfInBounds_toArray, List.set_cons_zero, List.set_cons_succ]
  refine wpAnyH_ready (rs := [2]) (by kernel_rfl) (by simp) ?_
  refine AllReadyH.cons (o := { dst := some 35, op := Op.call { callee := Callee.value (Operand.func 22), args := #[Operand.tmp 34], argTypes := #[36] }, type := 45, pos := "law.go:53", after := #[{ on := 1, ground := Ground.data }], guard := none }) rfl (fun KK hKK => ?_) AllReadyH.nil
  go_simp
  with_reducible refine (CT.out x0).mono ?_
  rintro e x1 ⟨rfl, kb⟩
  have hN := hH.trans (kb.mono hH.size)
  clear hH kb
  refine hKK.out _ _ hN (fun hH => ?_)
  clear hKK KK hN
  try simp only [Act.put, List.setIfInBounds_toArray, List.set_cons_zero, List.set_cons_succ]
  refine wpAnyH_ready (rs := [8]) (by kernel_rfl) (by simp) ?_
  refine AllReadyH.cons (o := { dst := some 41, op := Op.call { callee := Callee.value (Operand.func 25), args := #[Operand.tmp 35, Operand.tmp 37, Operand.tmp 39, Operand.tmp 40], argTypes := #[45, 5, 9, 22] }, type := 44, pos := "law.go:53", after := #[{ on := 2, ground := Ground.data }, { on := 4, ground := Ground.data }, { on := 6, ground := Ground.data }, { on := 7, ground := Ground.data }, { on := 2, ground := Ground.chain }], guard := none }) rfl (fun KK hKK => ?_) AllReadyH.nil
  go_simp
  with_reducible refine (CO.out x1 hH).mono ?_
  rintro e x2 ⟨v, rfl, ho, kb⟩
  have hN := hH.trans (kb.mono hH.size)
  clear hH kb
  refine hKK.out _ _ hN (fun hH => ?_)
  clear hKK KK hN
  try simp only [Act.put, List.setIfInBounds_toArray, List.set_cons_zero, List.set_cons_succ]
  obtain ⟨a', c', rfl, -, -, hin', -⟩ := ho.form
  refine wpAnyH_take (i := 9) (oi := { dst := some 32, op := Op.move (Operand.tmp 41), type := 44, pos := "law.go:53", after := #[{ on := 8, ground := Ground.data }], guard := none }) (v := .tuple #[.slice a' (openR H M kd nm f).1.length c', .int .i64 (openR H M kd nm f).2]) rfl (by kernel_rfl) (by kernel_rfl) (by kernel_rfl) (fun _ _ _ h => h) (Or.inl ⟨by rfl, fun wx hS => ?_⟩) hH ?_
  · go_simp
  simp only [Act.put, List.setIfInBounds_toArray, List.set_cons_zero, List.set_cons_succ]
  refine wpAnyH_take (i := 10) (oi := { dst := some 42, op := Op.extract (Operand.tmp 32) 0, type := 22, pos := "law.go:53", after := #[{ on := 9, ground := Ground.data }], guard := none }) (v := .slice a' (openR H M kd nm f).1.length c') rfl (by kernel_rfl) (by kernel_rfl) (by kernel_rfl) (fun _ _ _ h => h) (Or.inl ⟨by rfl, fun wx hS => ?_⟩) hH ?_
  · go_simp
  simp only [Act.put, List.setIfInBounds_toArray, List.set_cons_zero, List.set_cons_succ]
  refine wpAnyH_take (i := 11) (oi := { dst := some 43, op := Op.extract (Operand.tmp 32) 1, type := 41, pos := "law.go:53", after := #[{ on := 9, ground := Ground.data }, { on := 12, ground := Ground.gcOnly Departure.lateStores }], guard := none }) (v := .int .i64 (openR H M kd nm f).2) rfl (by kernel_rfl) (by kernel_rfl) (by kernel_rfl) (fun _ _ _ h => h) (Or.inl ⟨by rfl, fun wx hS => ?_⟩) hH ?_
  · go_simp
  simp only [Act.put, List.setIfInBounds_toArray, List.set_cons_zero, List.set_cons_succ]
  refine wpAnyH_ready (rs := [12]) (by kernel_rfl) (by simp) ?_
  refine AllReadyH.cons (o := { dst := some 6, op := Op.assign (Operand.tmp 42), type := 22, pos := "law.go:53", after := #[{ on := 10, ground := Ground.data }, { on := 8, ground := Ground.chain }, { on := 0, ground := Ground.phase }, { on := 1, ground := Ground.phase }, { on := 2, ground := Ground.phase }, { on := 3, ground := Ground.phase }, { on := 4, ground := Ground.phase }, { on := 5, ground := Ground.phase }, { on := 6, ground := Ground.phase }, { on := 7, ground := Ground.phase }, { on := 8, ground := Ground.phase }, { on := 9, ground := Ground.phase }, { on := 10, ground := Ground.phase }, { on := 11, ground := Ground.textOnly Departure.lateStores }], guard := none }) rfl (fun KK hKK => ?_) AllReadyH.nil
  go_simp
  refine hKK.out _ _ hH (fun hH => ?_)
  clear hKK KK
  try simp only [Act.put, List.setIfInBounds_toArray, List.set_cons_zero, List.set_cons_succ]
  refine wpAnyH_ready (rs := [13]) (by kernel_rfl) (by simp) ?_
  refine AllReadyH.cons (o := { dst := some 7, op := Op.assign (Operand.tmp 43), type := 41, pos := "law.go:53", after := #[{ on := 11, ground := Ground.data }, { on := 12, ground := Ground.chain }, { on := 0, ground := Ground.phase }, { on := 1, ground := Ground.phase }, { on := 2, ground := Ground.phase }, { on := 3, ground := Ground.phase }, { on := 4, ground := Ground.phase }, { on := 5, ground := Ground.phase }, { on := 6, ground := Ground.phase }, { on := 7, ground := Ground.phase }, { on := 8, ground := Ground.phase }, { on := 9, ground := Ground.phase }, { on := 10, ground := Ground.phase }, { on := 11, ground := Ground.phase }, { on := 12, ground := Ground.phase }], guard := none }) rfl (fun KK hKK => ?_) AllReadyH.nil
  go_simp
  refine hKK.out _ _ hH (fun hH => ?_)
  clear hKK KK
  try simp only [Act.put, List.setIfInBounds_toArray, List.set_cons_zero, List.set_cons_succ]
  refine wpAnyH_done (by kernel_rfl) ?_ _
  refine NoPanic.normal ?_
  have B3 := Lib.hid (B2.out.trans (hH.mono B2.out.size))
  have WX := Lib.hid (waxes_any x2 (T2.out.below hH T2.out.2.2.1 T2.out.2.2.2))
  have I3 := Lib.hid hin'
  clear hH ho hin' CO LK2 LT T2 B2
  generalize (openR H M kd nm f).1 = O at *
  generalize (openR H M kd nm f).2 = n at *
  go_wp2_with fail
  with_reducible refine WX.out.mono ?_
  rintro e w4 ⟨rfl, kk⟩
  have cv := conv_string w4 a' O c' (I3.out.below kk)
  have sb : ((str O).toList == (str O).toList) = true := by simp
  have B4 := Lib.hid (B3.out.trans (kk.mono B3.out.size))
  clear kk WX
  go_wp2_with fail
  go_ret
  exact ⟨rfl, B4.out⟩
end Go.Proofs.YtjkhokholcchfaaDoor
