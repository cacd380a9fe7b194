/- The law SumStretches: its walk. -/
import Derived.Test.YthgmebdbccjmlaaDoorTxt
import Derived.Test.YthgmebdbccjmlaaDoorRst
import Derived.Test.YthgmebdbccjmlaaDoorEq
import Derived.BigQuiet
import Derived.Deep.DeepCutAuto
namespace Go.Proofs.YthgmebdbccjmlaaDoor
open Go.RowKit Sha

theorem stretch_at (W : World) (p q : Pt) (hW : tables W) (hp : p.ok W) (hq : q.ok W) (hpl : p.l.length ≤ 800000) (hql : q.l.length ≤ 800000) (z : Int) (hz : z ≤ 100000) (X : World) (hX : Below W.heap.size W X) :
    Calls Tryd.prog 21 #[.slice p.a p.l.length p.c, .slice q.a q.l.length q.c, .int .i64 z] X fun e w' => e = .returned (.agg (byteCells (stretch p.l q.l z.toNat)).toArray) ∧ Below W.heap.size W w' :=
  (stretch_any p.a q.a p.c q.c p.l q.l z X hpl hp.1 hp.2.1 (hp.2.2.below hX) hql hq.1 hq.2.1 (hq.2.2.below hX) hz (hW.below hX hW.2.2.1 hW.2.2.2)).mono fun e w' ⟨h1, h2⟩ => ⟨h1, hX.trans (h2.mono hX.size)⟩
theorem rst_at (W : World) (K S0 : List UInt8) (z : Int) (hK : K.length ≤ 100000) (hS : S0.length ≤ 90000) (hz : z ≤ 100000) (X : World) (hX : Below W.heap.size W X) :
    Calls Tryd.prog 22 #[.string (str K), .string (str S0), .int .i64 z] X fun e w' => e = .returned (.string (str (stretch K S0 z.toNat))) ∧ Below W.heap.size W w' :=
  (rst_any K S0 z X hK hS hz).mono fun e w' ⟨h1, h2⟩ => ⟨h1, hX.trans (h2.mono hX.size)⟩

theorem slice_len {a : Option Addr} {n m c : Nat} (h : n = m) : Value.slice a n c = .slice a m c := by rw [h]

set_option maxRecDepth 100000 in
set_option maxHeartbeats 2000000 in
theorem law_sumStretches (a : Option Addr) (c : Nat) (K0 : List UInt8) (b : Option Addr) (d : Nat) (B : List UInt8) (z : Int) (w : World) (hK : K0.length ≤ c) (hc : c ≤ 140737488355328) (hink : bytesIn w a K0) (hB : B.length ≤ d) (hd : d ≤ 140737488355328) (hin : bytesIn w b B) (_ : (Lit.int .i64 z).wf = true) (ht : tables w) :
    Calls Tryd.prog 7 #[.slice a K0.length c, .slice b B.length d, .int .i64 z] w fun e w' => e = .returned (.bool true) ∧ Below w.heap.size w w' := by
  have hc := Nat.le_trans hc (show 140737488355328 ≤ 9223372036854775807 by omega)
  have hd := Nat.le_trans hd (show 140737488355328 ≤ 9223372036854775807 by omega)
  have HT := Lib.hid ht
  have HK := Lib.hid (hink.take 300)
  have HF := Lib.hid (hin.take 300)
  clear ht hink hin
  go_enter Tryd.func7, Tryd.ntmps7
  have e3 : (K0.take 300).length ≤ c := by rw [List.length_take]; omega
  have e4 : (K0.take 300).length ≤ 300 := by rw [List.length_take]; omega
  have e5 : (B.take 300).length ≤ d := by rw [List.length_take]; omega
  have e6 : (B.take 300).length ≤ 300 := by rw [List.length_take]; omega
  go_upto_region 1 with fail
  go_cut [0, 1] (fun s0 s1 wx => s0 = .slice a (K0.take 300).length c ∧ s1 = .slice b (B.take 300).length d ∧ Hid (Below w.heap.size w wx))
  case first =>
    go_quiet (fail)
    go_wp2_with fail
    all_goals
      go_meet
      case rel => exact ⟨slice_len (by rw [List.length_take]; omega), slice_len (by rw [List.length_take]; omega), Lib.hid (below_drewN' (Below.refl _ _) _)⟩
  obtain ⟨rfl, rfl, B0⟩ := hcut
  clear hK hB
  have Q1 := Lib.hid (HK.out.below B0.out)
  have Q2 := Lib.hid (HF.out.below B0.out)
  have Q3 := Lib.hid (HT.out.below B0.out HT.out.2.2.1 HT.out.2.2.2)
  generalize K0.take 300 = K at *
  generalize B.take 300 = f at *
  clear HK HF HT
  generalize wc = w2 at *
  go_upto_region 2 with fail
  go_cut [2] (fun v wx => ∃ y : Int, v = .int .i64 y ∧ y ≤ 100000 ∧ w2 = wx)
  case first =>
    go_wp2_with fail
    all_goals
      go_meet
      case rel => exact ⟨_, rfl, by omega, rfl⟩
  obtain ⟨y, rfl, hy2, rfl⟩ := hcut
  have cv1 : ∀ wx : World, Below w2.heap.size w2 wx → (convert 22 9 (.slice a K.length c)).run Tryd.prog wx = .ok (.string (str K)) wx := fun wx hx => conv_string wx a K c (Q1.out.below hx)
  have cv2 : ∀ wx : World, Below w2.heap.size w2 wx → (convert 22 9 (.slice b f.length d)).run Tryd.prog wx = .ok (.string (str f)) wx := fun wx hx => conv_string wx b f d (Q2.out.below hx)
  have hkk : (⟨a, c, K⟩ : Pt).ok w2 := ⟨e3, hc, Q1.out⟩
  have hff : (⟨b, d, f⟩ : Pt).ok w2 := ⟨e5, hd, Q2.out⟩
  have PS := Lib.hid (sums_at w2 Q3.out)
  have PT := Lib.hid (text_at w2 (stretch K f y.toNat) (stretch_length _ _ _))
  have P1 := Lib.hid (fun (z : Int) (hz : z ≤ 100000) => stretch_at w2 ⟨a, c, K⟩ ⟨b, d, f⟩ Q3.out hkk hff (by show K.length ≤ _; omega) (by show f.length ≤ _; omega) z hz)
  have P2 := Lib.hid (rst_at w2 K f y (by omega) (by omega) hy2)
  dsimp only at P1
  have t1 : Hid ((-1 : Int).toNat = 0) := Lib.hid rfl
  have P3 := Lib.hid (P1.out (-1) (by omega))
  have P4 := Lib.hid (P1.out 0 (by omega))
  rw [show (-1 : Int).toNat = 0 from rfl] at P3
  rw [show (0 : Int).toNat = 0 from rfl] at P4
  have P0 := Lib.hid (P1.out y hy2)
  clear P1 t1 hkk hff
  generalize stretch K f y.toNat = M at *
  have HM0 : Hid ((stretch K f 0).length = 32) := Lib.hid (stretch_length _ _ _)
  generalize stretch K f 0 = M0 at *
  have BB := Below.refl w2.heap.size w2
  go_wp2_with fail
  refine wp_region_noPanic ?_
  refine wp_region_held_drew (S := fun w' => Below w2.heap.size w2 w') (by kernel_rfl) (below_drew' BB) (fun hH => ?_)
  refine wpAnyH_ready (rs := [0]) (by kernel_rfl) (by simp) ?_
  refine AllReadyH.cons (o := { dst := some 19, op := Op.call { callee := Callee.value (Operand.func 12), args := #[], argTypes := #[] }, type := 4, pos := "law.go:70", after := #[], guard := none }) rfl (fun KK hKK => ?_) AllReadyH.nil
  go_simp
  refine (PS.out _ hH).mono ?_
  rintro e w3 ⟨rfl, k3⟩
  clear hH
  refine hKK.out _ _ k3 (fun hH => ?_)
  clear hKK KK k3
  try simp only [Act.put, List.setIfInBounds_toArray, List.set_cons_zero, List.set_cons_succ]
  refine wpAnyH_take (i := 1) (oi := { dst := some 20, op := Op.move (Operand.tmp 19), type := 4, pos := "law.go:70", after := #[{ on := 0, ground := Ground.data }, { on := 0, ground := Ground.chain }], guard := none }) (v := .bool true) rfl (by kernel_rfl) (by kernel_rfl) (by kernel_rfl) (fun _ _ _ h => h) (Or.inl ⟨by rfl, fun wx hS => ?_⟩) hH ?_
  · go_simp
  simp only [Act.put, List.setIfInBounds_toArray, List.set_cons_zero, List.set_cons_succ]
  refine wpAnyH_take (i := 2) (oi := { dst := some 21, op := Op.move (Operand.tmp 0), type := 22, pos := "law.go:70", after := #[{ on := 1, ground := Ground.guard }], guard := some (1, true) }) (v := .slice a K.length c) rfl (by kernel_rfl) (by kernel_rfl) (by kernel_rfl) (fun _ _ _ h => h) (Or.inl ⟨by rfl, fun wx hS => ?_⟩) hH ?_
  · go_simp
  simp only [Act.put, List.setIfInBounds_toArray, List.set_cons_zero, List.set_cons_succ]
  refine wpAnyH_take (i := 3) (oi := { dst := some 22, op := Op.move (Operand.tmp 1), type := 22, pos := "law.go:70", after := #[{ on := 1, ground := Ground.guard }], guard := some (1, true) }) (v := .slice b f.length d) rfl (by kernel_rfl) (by kernel_rfl) (by kernel_rfl) (fun _ _ _ h => h) (Or.inl ⟨by rfl, fun wx hS => ?_⟩) hH ?_
  · go_simp
  simp only [Act.put, List.setIfInBounds_toArray, List.set_cons_zero, List.set_cons_succ]
  refine wpAnyH_take (i := 4) (oi := { dst := some 23, op := Op.move (Operand.tmp 2), type := 3, pos := "law.go:70", after := #[{ on := 1, ground := Ground.guard }], guard := some (1, true) }) (v := .int .i64 y) rfl (by kernel_rfl) (by kernel_rfl) (by kernel_rfl) (fun _ _ _ h => h) (Or.inl ⟨by rfl, fun wx hS => ?_⟩) hH ?_
  · go_simp
  simp only [Act.put, List.setIfInBounds_toArray, List.set_cons_zero, List.set_cons_succ]
  refine wpAnyH_take (i := 7) (oi := { dst := some 26, op := Op.move (Operand.tmp 0), type := 22, pos := "law.go:70", after := #[{ on := 1, ground := Ground.guard }], guard := some (1, true) }) (v := .slice a K.length c) rfl (by kernel_rfl) (by kernel_rfl) (by kernel_rfl) (fun _ _ _ h => h) (Or.inl ⟨by rfl, fun wx hS => ?_⟩) hH ?_
  · go_simp
  simp only [Act.put, List.setIfInBounds_toArray, List.set_cons_zero, List.set_cons_succ]
  refine wpAnyH_take (i := 8) (oi := { dst := some 27, op := Op.convert 22 9 (Operand.tmp 26), type := 9, pos := "law.go:70", after := #[{ on := 7, ground := Ground.data }, { on := 1, ground := Ground.guard }], guard := some (1, true) }) (v := .string (str K)) rfl (by kernel_rfl) (by kernel_rfl) (by kernel_rfl) (fun _ _ _ h => h) (Or.inl ⟨by rfl, fun wx hS => ?_⟩) hH ?_
  · go_simp
  simp only [Act.put, List.setIfInBounds_toArray, List.set_cons_zero, List.set_cons_succ]
  refine wpAnyH_take (i := 9) (oi := { dst := some 28, op := Op.move (Operand.tmp 1), type := 22, pos := "law.go:70", after := #[{ on := 1, ground := Ground.guard }], guard := some (1, true) }) (v := .slice b f.length d) rfl (by kernel_rfl) (by kernel_rfl) (by kernel_rfl) (fun _ _ _ h => h) (Or.inl ⟨by rfl, fun wx hS => ?_⟩) hH ?_
  · go_simp
  simp only [Act.put, List.setIfInBounds_toArray, List.set_cons_zero, List.set_cons_succ]
  refine wpAnyH_take (i := 10) (oi := { dst := some 29, op := Op.convert 22 9 (Operand.tmp 28), type := 9, pos := "law.go:70", after := #[{ on := 9, ground := Ground.data }, { on := 1, ground := Ground.guard }], guard := some (1, true) }) (v := .string (str f)) rfl (by kernel_rfl) (by kernel_rfl) (by kernel_rfl) (fun _ _ _ h => h) (Or.inl ⟨by rfl, fun wx hS => ?_⟩) hH ?_
  · go_simp
  simp only [Act.put, List.setIfInBounds_toArray, List.set_cons_zero, List.set_cons_succ]
  refine wpAnyH_take (i := 11) (oi := { dst := some 30, op := Op.move (Operand.tmp 2), type := 3, pos := "law.go:70", after := #[{ on := 1, ground := Ground.guard }], guard := some (1, true) }) (v := .int .i64 y) rfl (by kernel_rfl) (by kernel_rfl) (by kernel_rfl) (fun _ _ _ h => h) (Or.inl ⟨by rfl, fun wx hS => ?_⟩) hH ?_
  · go_simp
  simp only [Act.put, List.setIfInBounds_toArray, List.set_cons_zero, List.set_cons_succ]
  refine wpAnyH_ready (rs := [5]) (by kernel_rfl) (by simp) ?_
  refine AllReadyH.cons (o := { dst := some 24, op := Op.call { callee := Callee.value (Operand.func 21), args := #[Operand.tmp 21, Operand.tmp 22, Operand.tmp 23], argTypes := #[22, 22, 3] }, type := 28, pos := "law.go:70", after := #[{ on := 2, ground := Ground.data }, { on := 3, ground := Ground.data }, { on := 4, ground := Ground.data }, { on := 1, ground := Ground.chain }, { on := 1, ground := Ground.guard }], guard := some (1, true) }) rfl (fun KK hKK => ?_) AllReadyH.nil
  go_simp
  refine (P0.out _ hH).mono ?_
  rintro e w4 ⟨rfl, k4⟩
  clear hH
  refine hKK.out _ _ k4 (fun hH => ?_)
  clear hKK KK k4
  try simp only [Act.put, List.setIfInBounds_toArray, List.set_cons_zero, List.set_cons_succ]
  refine wpAnyH_ready (rs := [6]) (by kernel_rfl) (by simp) ?_
  refine AllReadyH.cons (o := { dst := some 25, op := Op.call { callee := Callee.value (Operand.func 13), args := #[Operand.tmp 24], argTypes := #[28] }, type := 9, pos := "law.go:70", after := #[{ on := 5, ground := Ground.data }, { on := 5, ground := Ground.chain }, { on := 1, ground := Ground.guard }], guard := some (1, true) }) rfl (fun KK hKK => ?_) AllReadyH.nil
  go_simp
  refine (PT.out _ hH).mono ?_
  rintro e w5 ⟨rfl, k5⟩
  clear hH
  refine hKK.out _ _ k5 (fun hH => ?_)
  clear hKK KK k5
  try simp only [Act.put, List.setIfInBounds_toArray, List.set_cons_zero, List.set_cons_succ]
  refine wpAnyH_ready (rs := [12]) (by kernel_rfl) (by simp) ?_
  refine AllReadyH.cons (o := { dst := some 31, op := Op.call { callee := Callee.value (Operand.func 22), args := #[Operand.tmp 27, Operand.tmp 29, Operand.tmp 30], argTypes := #[9, 9, 3] }, type := 9, pos := "law.go:70", after := #[{ on := 8, ground := Ground.data }, { on := 10, ground := Ground.data }, { on := 11, ground := Ground.data }, { on := 6, ground := Ground.chain }, { on := 1, ground := Ground.guard }], guard := some (1, true) }) rfl (fun KK hKK => ?_) AllReadyH.nil
  go_simp
  refine (P2.out _ hH).mono ?_
  rintro e w6 ⟨rfl, k6⟩
  clear hH
  refine hKK.out _ _ k6 (fun hH => ?_)
  clear hKK KK k6
  try simp only [Act.put, List.setIfInBounds_toArray, List.set_cons_zero, List.set_cons_succ]
  refine wpAnyH_take (i := 13) (oi := { dst := some 32, op := Op.binOp BinOp.eql 9 (Operand.tmp 25) (Operand.tmp 31) 9, type := 4, pos := "law.go:70", after := #[{ on := 6, ground := Ground.data }, { on := 12, ground := Ground.data }, { on := 1, ground := Ground.guard }], guard := some (1, true) }) (v := .bool true) rfl (by kernel_rfl) (by kernel_rfl) (by kernel_rfl) (fun _ _ _ h => h) (Or.inl ⟨by rfl, fun wx hS => ?_⟩) hH ?_
  · go_simp
  simp only [Act.put, List.setIfInBounds_toArray, List.set_cons_zero, List.set_cons_succ]
  refine wpAnyH_take (i := 14) (oi := { dst := some 33, op := Op.pick (Operand.tmp 20) (Operand.tmp 32) (Operand.const (Value.bool false)), type := 4, pos := "law.go:70", after := #[{ on := 1, ground := Ground.data }, { on := 13, ground := Ground.data }], guard := none }) (v := .bool true) rfl (by kernel_rfl) (by kernel_rfl) (by kernel_rfl) (fun _ _ _ h => h) (Or.inl ⟨by rfl, fun wx hS => ?_⟩) hH ?_
  · go_simp
  simp only [Act.put, List.setIfInBounds_toArray, List.set_cons_zero, List.set_cons_succ]
  refine wpAnyH_take (i := 15) (oi := { dst := some 34, op := Op.move (Operand.tmp 33), type := 4, pos := "law.go:70", after := #[{ on := 14, ground := Ground.data }, { on := 12, ground := Ground.chain }], guard := none }) (v := .bool true) rfl (by kernel_rfl) (by kernel_rfl) (by kernel_rfl) (fun _ _ _ h => h) (Or.inl ⟨by rfl, fun wx hS => ?_⟩) hH ?_
  · go_simp
  simp only [Act.put, List.setIfInBounds_toArray, List.set_cons_zero, List.set_cons_succ]
  refine wpAnyH_take (i := 16) (oi := { dst := some 35, op := Op.move (Operand.tmp 0), type := 22, pos := "law.go:70", after := #[{ on := 15, ground := Ground.guard }], guard := some (15, true) }) (v := .slice a K.length c) rfl (by kernel_rfl) (by kernel_rfl) (by kernel_rfl) (fun _ _ _ h => h) (Or.inl ⟨by rfl, fun wx hS => ?_⟩) hH ?_
  · go_simp
  simp only [Act.put, List.setIfInBounds_toArray, List.set_cons_zero, List.set_cons_succ]
  refine wpAnyH_take (i := 17) (oi := { dst := some 36, op := Op.move (Operand.tmp 1), type := 22, pos := "law.go:70", after := #[{ on := 15, ground := Ground.guard }], guard := some (15, true) }) (v := .slice b f.length d) rfl (by kernel_rfl) (by kernel_rfl) (by kernel_rfl) (fun _ _ _ h => h) (Or.inl ⟨by rfl, fun wx hS => ?_⟩) hH ?_
  · go_simp
  simp only [Act.put, List.setIfInBounds_toArray, List.set_cons_zero, List.set_cons_succ]
  refine wpAnyH_take (i := 19) (oi := { dst := some 38, op := Op.move (Operand.tmp 0), type := 22, pos := "law.go:70", after := #[{ on := 15, ground := Ground.guard }], guard := some (15, true) }) (v := .slice a K.length c) rfl (by kernel_rfl) (by kernel_rfl) (by kernel_rfl) (fun _ _ _ h => h) (Or.inl ⟨by rfl, fun wx hS => ?_⟩) hH ?_
  · go_simp
  simp only [Act.put, List.setIfInBounds_toArray, List.set_cons_zero, List.set_cons_succ]
  refine wpAnyH_take (i := 20) (oi := { dst := some 39, op := Op.move (Operand.tmp 1), type := 22, pos := "law.go:70", after := #[{ on := 15, ground := Ground.guard }], guard := some (15, true) }) (v := .slice b f.length d) rfl (by kernel_rfl) (by kernel_rfl) (by kernel_rfl) (fun _ _ _ h => h) (Or.inl ⟨by rfl, fun wx hS => ?_⟩) hH ?_
  · go_simp
  simp only [Act.put, List.setIfInBounds_toArray, List.set_cons_zero, List.set_cons_succ]
  refine wpAnyH_ready (rs := [18]) (by kernel_rfl) (by simp) ?_
  refine AllReadyH.cons (o := { dst := some 37, op := Op.call { callee := Callee.value (Operand.func 21), args := #[Operand.tmp 35, Operand.tmp 36, Operand.const (Value.int IntKind.i64 (-1))], argTypes := #[22, 22, 3] }, type := 28, pos := "law.go:70", after := #[{ on := 16, ground := Ground.data }, { on := 17, ground := Ground.data }, { on := 15, ground := Ground.chain }, { on := 15, ground := Ground.guard }], guard := some (15, true) }) rfl (fun KK hKK => ?_) AllReadyH.nil
  go_simp
  refine (P3.out _ hH).mono ?_
  rintro e w7 ⟨rfl, k7⟩
  clear hH
  refine hKK.out _ _ k7 (fun hH => ?_)
  clear hKK KK k7
  try simp only [Act.put, List.setIfInBounds_toArray, List.set_cons_zero, List.set_cons_succ]
  refine wpAnyH_ready (rs := [21]) (by kernel_rfl) (by simp) ?_
  refine AllReadyH.cons (o := { dst := some 40, op := Op.call { callee := Callee.value (Operand.func 21), args := #[Operand.tmp 38, Operand.tmp 39, Operand.const (Value.int IntKind.i64 0)], argTypes := #[22, 22, 3] }, type := 28, pos := "law.go:70", after := #[{ on := 19, ground := Ground.data }, { on := 20, ground := Ground.data }, { on := 18, ground := Ground.chain }, { on := 15, ground := Ground.guard }], guard := some (15, true) }) rfl (fun KK hKK => ?_) AllReadyH.nil
  go_simp
  refine (P4.out _ hH).mono ?_
  rintro e w8 ⟨rfl, k8⟩
  clear hH
  refine hKK.out _ _ k8 (fun hH => ?_)
  clear hKK KK k8
  try simp only [Act.put, List.setIfInBounds_toArray, List.set_cons_zero, List.set_cons_succ]
  refine wpAnyH_take (i := 22) (oi := { dst := some 41, op := Op.binOp BinOp.eql 28 (Operand.tmp 37) (Operand.tmp 40) 28, type := 4, pos := "law.go:70", after := #[{ on := 18, ground := Ground.data }, { on := 21, ground := Ground.data }, { on := 15, ground := Ground.guard }], guard := some (15, true) }) (v := .bool true) rfl (by kernel_rfl) (by kernel_rfl) (by kernel_rfl) (fun _ _ _ h => h) (Or.inl ⟨by rfl, fun wx hS => ?_⟩) hH ?_
  · exact eql_op _ _ _ _ M0 rfl rfl rfl HM0.out wx
  simp only [Act.put, List.setIfInBounds_toArray, List.set_cons_zero, List.set_cons_succ]
  refine wpAnyH_take (i := 23) (oi := { dst := some 42, op := Op.pick (Operand.tmp 34) (Operand.tmp 41) (Operand.const (Value.bool false)), type := 4, pos := "law.go:70", after := #[{ on := 15, ground := Ground.data }, { on := 22, ground := Ground.data }], guard := none }) (v := .bool true) rfl (by kernel_rfl) (by kernel_rfl) (by kernel_rfl) (fun _ _ _ h => h) (Or.inl ⟨by rfl, fun wx hS => ?_⟩) hH ?_
  · go_simp
  simp only [Act.put, List.setIfInBounds_toArray, List.set_cons_zero, List.set_cons_succ]
  refine wpAnyH_take (i := 24) (oi := { dst := some 6, op := Op.assign (Operand.tmp 42), type := 4, pos := "law.go:70", after := #[{ on := 23, ground := Ground.data }, { on := 21, ground := Ground.chain }, { on := 0, ground := Ground.phase }, { on := 1, ground := Ground.phase }, { on := 2, ground := Ground.phase }, { on := 3, ground := Ground.phase }, { on := 4, ground := Ground.phase }, { on := 5, ground := Ground.phase }, { on := 6, ground := Ground.phase }, { on := 7, ground := Ground.phase }, { on := 8, ground := Ground.phase }, { on := 9, ground := Ground.phase }, { on := 10, ground := Ground.phase }, { on := 11, ground := Ground.phase }, { on := 12, ground := Ground.phase }, { on := 13, ground := Ground.phase }, { on := 14, ground := Ground.phase }, { on := 15, ground := Ground.phase }, { on := 16, ground := Ground.phase }, { on := 17, ground := Ground.phase }, { on := 18, ground := Ground.phase }, { on := 19, ground := Ground.phase }, { on := 20, ground := Ground.phase }, { on := 21, ground := Ground.phase }, { on := 22, ground := Ground.phase }, { on := 23, ground := Ground.phase }], guard := none }) (v := .bool true) rfl (by kernel_rfl) (by kernel_rfl) (by kernel_rfl) (fun _ _ _ h => h) (Or.inl ⟨by rfl, fun wx hS => ?_⟩) hH ?_
  · go_simp
  simp only [Act.put, List.setIfInBounds_toArray, List.set_cons_zero, List.set_cons_succ]
  refine wpAnyH_done (by kernel_rfl) ?_ _
  refine NoPanic.normal ?_
  clear cv1 cv2
  go_wp2_with fail
  go_ret
  exact ⟨rfl, B0.out.trans (hH.mono B0.out.size)⟩
end Go.Proofs.YthgmebdbccjmlaaDoor
