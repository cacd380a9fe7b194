/- The laws' pens. -/
import Derived.Test.YtjkhokholcchfaaDoorKln
namespace Go.Proofs.YtjkhokholcchfaaDoor
open Go.RowKit Sha

theorem salt_at (X : World) : Calls Tryd.prog 30 #[] X fun e w' => ∃ sg : Nat, e = .returned (.slice (some ⟨sg, 0, none⟩) 16 16) ∧ bytesIn w' (some ⟨sg, 0, none⟩) saltL ∧ Below X.heap.size X w' :=
  (salt_any X).mono fun e w' ⟨h1, h2⟩ => ⟨_, h1, by subst h2; exact salt_in _ _ _ _ (heap_alloc_new X _), by subst h2; exact alloc_below X _⟩
theorem w_lit (X : World) : (convert 22 22 (.slice (some ⟨X.heap.size, 0, none⟩) 1 1)).run Tryd.prog (X.alloc (.cells #[.int .u8 119] 5 (0, 0))) = .ok (.slice (some ⟨X.heap.size, 0, none⟩) 1 1) (X.alloc (.cells #[.int .u8 119] 5 (1, 2))) :=
  Joins.run_convert_bytes_const_at X 22 5 _ 1 1 _ rfl Tryd.underlying22 Tryd.underlying5
theorem w_row (X : World) : rowM (X.alloc (.cells #[.int .u8 119] 5 (1, 2))) X.heap.size (.slice (some ⟨X.heap.size, 0, none⟩) 1 1) [119] :=
  ⟨rfl, .inr ⟨X.heap.size, 1, _, (1, 2), rfl, Nat.le_refl _, heap_alloc_new X _, .inr (by decide), Nat.le_refl _, by unfold maxLen; omega, rfl, rfl⟩⟩
theorem meetW {w : World} {base : Nat} {v : Value} {l B : List UInt8} (h : rowM w base v ([119] ++ l)) (hl : 119 :: l = B) : ∃ ka kc, v = .slice ka B.length kc ∧ Pt.ok0 w ⟨ka, kc, B⟩ := by
  obtain ⟨a, c, hv, h1, h2, h3, h4, -⟩ := h.bytes
  rw [show [119] ++ l = B from hl] at hv h1 h3
  exact ⟨a, c, hv, ⟨h1, by unfold maxLen at h2; exact h2, h3⟩, h4⟩

theorem penCells_length (R : List UInt8) (tb : Nat) (hR : R.length = 96) : (penCells R tb).length = 97 := by
  unfold penCells
  rw [List.length_append, byteCells_length, hR]
  rfl
theorem penCells_one (R : List UInt8) (tb : Nat) : ∀ v ∈ penCells R tb, v.oneCell' = true := by
  intro v hv
  unfold penCells at hv
  rcases List.mem_append.1 hv with h | h
  · exact byteCells_one _ v h
  · rw [List.mem_singleton.1 h]; rfl
theorem tapeAt.other {X Y : World} {tb g : Nat} {fa : Option Addr} {fc : Nat} {F : List UInt8} {told : Nat} (h : tapeAt X tb fa fc F told) (k : But g X Y) (h1 : tb ≠ g) (h2 : ∀ x, fa = some x → x.block ≠ g) : tapeAt Y tb fa fc F told := by
  refine ⟨k.is h.is h1, ?_, h.apart, h.len, h.cap, h.most⟩
  rcases h.row with e | ⟨b, o, rfl, hc⟩
  · exact .inl e
  · exact .inr ⟨b, o, rfl, fun j hj => k.cell (hc j hj) (show b ≠ g from h2 ⟨b, o, none⟩ rfl)⟩
theorem run_buildO {P : Program} {o : Oper} {w : World} (a : Act) (ty : TypeId) (ps : Array (Nat × Operand)) (ho : o.op = .build ty ps)
    (qs : Array (Nat × Value)) (v : Value) (hrun : (Instr.build ty qs).run P w = .ok v w) (hq : (ps.toList.map fun p => (p.1, a.eval p.2)) = qs.toList) : (execOp a.eval o).run P w = .ok (.value v) w := by
  have e : (ps.map fun (i, x) => (i, a.eval x)) = qs := by
    apply Array.toList_inj.1
    rw [Array.toList_map, ← hq]
  unfold execOp
  simp only [ho, Sem.run_bind, e, hrun, Result.andThen_ok, Sem.run_pure]
/-- What holds while pen's last line runs. -/
structure PenS (w : World) (rg : Nat) (CL : List Value) (RG : List UInt8) (X : World) : Prop where
  b : Below w.heap.size w X
  r : blockIs X rg (byteCells RG) 58
  l : blockIs X w.heap.size CL 56
theorem PenS.size {w X : World} {rg : Nat} {CL : List Value} {RG : List UInt8} (_h : PenS w rg CL RG X) : X.heap.size ≤ X.heap.size := Nat.le_refl _
theorem PenS.trans {w X Y : World} {rg : Nat} {CL : List Value} {RG : List UInt8} (h : PenS w rg CL RG X) (k : Below X.heap.size X Y) : PenS w rg CL RG Y := ⟨h.b.trans (k.mono h.b.size), h.r.below k h.r.lt, h.l.below k h.l.lt⟩
theorem PenS.drew {w X : World} {rg : Nat} {CL : List Value} {RG : List UInt8} (h : PenS w rg CL RG X) : PenS w rg CL RG X.drew := ⟨below_drew' h.b, h.r.drewN 1, h.l.drewN 1⟩
theorem PenS.but {w X Y : World} {rg g : Nat} {CL : List Value} {RG : List UInt8} (h : PenS w rg CL RG X) (k : But g X Y) (h1 : rg ≠ g) (h2 : w.heap.size < g) : PenS w rg CL RG Y := ⟨h.b.trans (k.below (by omega) h.b.size), k.is h.r h1, k.is h.l (by omega)⟩
theorem PenS.two {w X : World} {rg : Nat} {CL : List Value} {RG : List UInt8} {v : Value} (h : PenS w rg CL RG X) (hc : CL[2]? = some v) : X.cell? ⟨w.heap.size, 2, none⟩ = some v := by rw [h.l.cell]; exact hc

set_option maxRecDepth 100000 in
set_option maxHeartbeats 8000000 in
theorem pen_any (L : Ln) (w : World) (hok : L.ok w) (ht : tables w) :
    Calls Tryd.prog 26 #[.agg L.cells.toArray] w fun e w' => ∃ tb fa fc, e = .returned (.tuple #[.agg (penCells L.ring tb).toArray, .agg (byteCells L.ring).toArray, .bool true]) ∧ w.heap.size ≤ tb ∧ tapeAt w' tb fa fc (L.G.take 100) 0 ∧ Below w.heap.size w w' := by
  have N0 := ((blockIs.new w L.cells 56).alloc (.cells (zeros 96 ++ [Value.pointer none]).toArray 60 (0, 0))).alloc (.cells (zeros 96).toArray 62 (0, 0))
  have P0 := (blockIs.last (w.alloc (.cells L.cells.toArray 56 (0, 0))) (zeros 96 ++ [Value.pointer none]) 60 (w.heap.size + 1) (by simp)).alloc (.cells (zeros 96).toArray 62 (0, 0))
  have Q0 := blockIs.last ((w.alloc (.cells L.cells.toArray 56 (0, 0))).alloc (.cells (zeros 96 ++ [Value.pointer none]).toArray 60 (0, 0))) (zeros 96) 62 (w.heap.size + 2) (by simp)
  have A0 := alloc_below w (.cells L.cells.toArray 56 (0, 0))
  have B1 := Lib.hid ((A0.alloc A0.size (.cells (zeros 96 ++ [Value.pointer none]).toArray 60 (0, 0))).alloc (by simp; omega) (.cells (zeros 96).toArray 62 (0, 0)))
  have N1 := Lib.hid N0
  have P1 := Lib.hid P0
  have Q1 := Lib.hid Q0
  have OK1 := Lib.hid (hok.below B1.out)
  have T1 := Lib.hid (ht.below B1.out ht.2.2.1 ht.2.2.2)
  clear N0 P0 Q0 A0 hok ht
  have hzp := zeroPen
  have hzr := zeroRing2
  obtain ⟨K, hK⟩ : ∃ K, K = L.word := ⟨_, rfl⟩
  have hKl : K.length ≤ 101 := by rw [hK]; exact L.word_length
  have hK0 : 0 < K.length := by rw [hK]; unfold Ln.word; simp
  obtain ⟨z, hz⟩ : ∃ z, z = L.z := ⟨_, rfl⟩
  have ZE : Hid (wrap64 ((IntKind.u64.wrap L.st).tmod 5) = (z : Int)) := Lib.hid (by rw [hz]; exact L.z_eq.1)
  have hz5 : z < 5 := by rw [hz]; exact L.z_eq.2
  obtain ⟨RG, hRG⟩ : ∃ RG, RG = L.ring := ⟨_, rfl⟩
  have HRG : Hid (RG = ringL (stretch K saltL z)) := Lib.hid (by rw [hRG, hK, hz]; rfl)
  have hRl : RG.length = 96 := by rw [hRG]; exact L.ring_length
  rw [← hRG]
  obtain ⟨G2, hG2⟩ : ∃ G2, G2 = L.G.take 100 := ⟨_, rfl⟩
  rw [← hG2]
  have hKW : 119 :: L.W.take 100 = K := hK.symm
  obtain ⟨g, hg⟩ : ∃ g, g = min L.G.length 100 := ⟨_, rfl⟩
  obtain ⟨wa, wc, W, st, ba, bc, G, ra, rc, R, kd, nm⟩ := L
  dsimp only at hKW ZE hG2 hg
  have HMIN : Hid (min (G.length : Int) 100 = (g : Int)) := Lib.hid (by omega)
  have hGl : G2.length ≤ 400 := by rw [hG2, List.length_take]; omega
  have OKW := Lib.hid OK1.out.word
  have OKG := Lib.hid OK1.out.begins
  dsimp only at OKW OKG
  generalize hCL : Ln.cells ⟨wa, wc, W, st, ba, bc, G, ra, rc, R, kd, nm⟩ = CL at *
  have C0 : Hid (CL[0]? = some (.slice wa W.length wc)) := Lib.hid (by rw [← hCL]; rfl)
  have C1 : Hid (CL[1]? = some (.int .i64 st)) := Lib.hid (by rw [← hCL]; rfl)
  have C2 : Hid (CL[2]? = some (.slice ba G.length bc)) := Lib.hid (by rw [← hCL]; rfl)
  clear hCL hK hz hRG OK1
  go_enter Tryd.func26, Tryd.ntmps26
  go_upto_region 1 with fail
  generalize ((w.alloc (.cells CL.toArray 56 (0, 0))).alloc (.cells (zeros 96 ++ [Value.pointer none]).toArray 60 (0, 0))).alloc (.cells (zeros 96).toArray 62 (0, 0)) = w1 at *
  clear hzp hzr
  have HSL : ∃ sa sc, (∀ X, (Instr.slice 22 (.slice ba G.length bc) none (some (.int .i64 (g : Int))) none).run Tryd.prog X = .ok (.slice sa G2.length sc) X) ∧ Pt.ok0 w1 ⟨sa, sc, G2⟩ := by
    have e : G2 = (Pt.sub ⟨ba, bc, G⟩ 0 g).l := by rw [hG2]; unfold Pt.sub; rw [List.drop_zero, hg]; simp only [List.take_eq_take_iff]; omega
    refine ⟨(Pt.sub ⟨ba, bc, G⟩ 0 g).a, (Pt.sub ⟨ba, bc, G⟩ 0 g).c, fun X => ?_, ?_⟩
    · rw [e]; exact Pt.run_h ⟨ba, bc, G⟩ g (by show g ≤ G.length; omega) OKG.out.1.1 X
    · rw [e]; exact Pt.sub_ok0 OKG.out 0 g (by omega) (by show g ≤ G.length; omega)
  obtain ⟨sa, sc, hsl, hok⟩ := HSL
  have SL := Lib.hid hsl
  have OKS1 := Lib.hid hok
  clear hsl hok hg hG2
  have wl := w_lit w1
  have LIT := Lib.hid (w_row w1)
  have KLL := Lib.hid (alloc_below w1 (.cells #[.int .u8 119] 5 (1, 2)))
  have c0 : (w1.alloc (.cells #[.int .u8 119] 5 (1, 2))).cell? ⟨w.heap.size, 0, none⟩ = some (.slice wa W.length wc) := by rw [(N1.out.below KLL.out N1.out.lt).cell]; exact C0.out
  have IW := Lib.hid (OKW.out.1.2.2.below KLL.out)
  go_cut [5] (fun v wx => ∃ ka kc, v = .slice ka K.length kc ∧ Hid (Pt.ok0 wx ⟨ka, kc, K⟩) ∧ Hid (Below w1.heap.size w1 wx))
  case first =>
    by_cases h8 : 100 < W.length
    · have q8 : (100 : Int) < (W.length : Int) := by omega
      have H8 : Hid (100 = (W.take 100).length) := Lib.hid (by rw [List.length_take]; omega)
      have hl9 : ([119] : List UInt8).length + (W.take 100).length ≤ 1000000 := by rw [← H8.out]; decide
      have hc8 : (100 : Int) ≤ (wc : Int) := by have h : W.length ≤ wc := OKW.out.1.1; omega
      have I8 := IW.out.take 100
      go_wp2_with (at_builtin; go_loud (refine append_M0 rfl _ _ rfl w1.heap.size _ [119] rfl LIT.out wa 100 wc (W.take 100) H8.out rfl I8 hl9 KLL.out.size ?_; intro v' w' r1 r2))
      go_meet
      case rel =>
        obtain ⟨ka, kc, e1, e2⟩ := meetW r1 hKW
        exact ⟨ka, kc, e1, Lib.hid e2, Lib.hid (KLL.out.trans (LIT.out.grown r2 KLL.out.size))⟩
    · have q8 : ¬ (100 : Int) < (W.length : Int) := by omega
      have hl9 : ([119] : List UInt8).length + W.length ≤ 1000000 := by show 1 + _ ≤ _; omega
      have hc8 : (W.length : Int) ≤ (wc : Int) := by have h : W.length ≤ wc := OKW.out.1.1; omega
      go_wp2_with (at_builtin; go_loud (refine append_M0 rfl _ _ rfl w1.heap.size _ [119] rfl LIT.out wa W.length wc W rfl rfl IW.out hl9 KLL.out.size ?_; intro v' w' r1 r2))
      go_meet
      case rel =>
        obtain ⟨ka, kc, e1, e2⟩ := meetW (B := K) r1 (by rw [← hKW, List.take_of_length_le (by omega)])
        exact ⟨ka, kc, e1, Lib.hid e2, Lib.hid (KLL.out.trans (LIT.out.grown r2 KLL.out.size))⟩
  obtain ⟨ka, kc, rfl, OKK, KB⟩ := hcut
  rename World => w2
  have B2 := Lib.hid (B1.out.trans (KB.out.mono B1.out.size))
  have N2 := Lib.hid (N1.out.below KB.out N1.out.lt)
  have P2 := Lib.hid (P1.out.below KB.out P1.out.lt)
  have Q2 := Lib.hid (Q1.out.below KB.out Q1.out.lt)
  have T2 := Lib.hid (T1.out.below KB.out T1.out.2.2.1 T1.out.2.2.2)
  have OKS2 := Lib.hid (OKS1.out.below KB.out)
  have SZ2 : Hid (w.heap.size + 3 ≤ w2.heap.size) := Lib.hid (by have := Q2.out.lt; omega)
  have CELL1 := Lib.hid (fun X (hX : Below w2.heap.size w2 X) => show X.cell? ⟨w.heap.size, 1, none⟩ = some (.int .i64 st) by rw [(N2.out.below hX N2.out.lt).cell]; exact C1.out)
  have CELL2 := Lib.hid (fun X (hX : Below w2.heap.size w2 X) => show X.cell? ⟨w.heap.size, 2, none⟩ = some (.slice ba G.length bc) by rw [(N2.out.below hX N2.out.lt).cell]; exact C2.out)
  have MK := Lib.hid (fun X (hX : Below w2.heap.size w2 X) sg (hs : bytesIn X (some ⟨sg, 0, none⟩) saltL) => make_ok ka (some ⟨sg, 0, none⟩) kc 16 K saltL (z : Int) X hK0 (by omega) OKK.out.1.1 OKK.out.1.2.1 (OKK.out.1.2.2.below hX) rfl (by decide) (by omega) hs (by omega) (by omega) (T2.out.below hX T2.out.2.2.1 T2.out.2.2.2))
  rw [show saltL.length = 16 from rfl] at MK
  simp only [Int.toNat_natCast] at MK
  rw [← HRG.out] at MK
  clear wl LIT KLL c0 IW OKW KB B1 N1 P1 Q1 T1 OKG OKS1 C0 hKW
  go_upto_region 2 with fail
  refine wp_region_noPanic ?_
  refine wp_region_held_drew (S := fun w' => Below w2.heap.size w2 w') (by kernel_rfl) (below_drew' (Below.refl _ _)) (fun hH => ?_)
  generalize w2.drew = x0 at *
  refine wpAnyH_take (i := 0) (oi := { dst := some 19, op := Op.move (Operand.tmp 5), type := 22, pos := "law.go:71", after := #[], guard := none }) (v := .slice ka K.length kc) rfl (by kernel_rfl) (by kernel_rfl) (by kernel_rfl) (fun _ _ _ h => h) (Or.inl ⟨by rfl, fun wx hS => ?_⟩) hH ?_
  · go_simp
  simp only [Act.put, List.setIfInBounds_toArray, List.set_cons_zero, List.set_cons_succ]
  refine wpAnyH_take (i := 2) (oi := { dst := some 21, op := Op.fieldAddr 56 (Operand.tmp 1) 1, type := 0, pos := "law.go:71", after := #[], guard := none }) (v := .pointer (some ⟨w.heap.size, 1, none⟩)) rfl (by kernel_rfl) (by kernel_rfl) (by kernel_rfl) (fun _ _ _ h => h) (Or.inl ⟨by rfl, fun wx hS => ?_⟩) hH ?_
  · go_simp
  simp only [Act.put, List.setIfInBounds_toArray, List.set_cons_zero, List.set_cons_succ]
  refine wpAnyH_take (i := 3) (oi := { dst := some 22, op := Op.load 3 (Operand.tmp 21), type := 3, pos := "law.go:71", after := #[{ on := 2, ground := Ground.data }], guard := none }) (v := .int .i64 st) rfl (by kernel_rfl) (by kernel_rfl) (by kernel_rfl) (fun _ _ _ h => h) (Or.inl ⟨by rfl, fun wx hS => ?_⟩) hH ?_
  · have e1 := CELL1.out wx hS; go_simp
  simp only [Act.put, List.setIfInBounds_toArray, List.set_cons_zero, List.set_cons_succ]
  refine wpAnyH_take (i := 4) (oi := { dst := some 23, op := Op.convert 3 40 (Operand.tmp 22), type := 40, pos := "law.go:71", after := #[{ on := 3, ground := Ground.data }], guard := none }) (v := .int .u64 (IntKind.u64.wrap st)) rfl (by kernel_rfl) (by kernel_rfl) (by kernel_rfl) (fun _ _ _ h => h) (Or.inl ⟨by rfl, fun wx hS => ?_⟩) hH ?_
  · go_simp
  simp only [Act.put, List.setIfInBounds_toArray, List.set_cons_zero, List.set_cons_succ]
  refine wpAnyH_take (i := 5) (oi := { dst := some 24, op := Op.binOp BinOp.rem 40 (Operand.tmp 23) (Operand.const (Value.int IntKind.u64 5)) 40, type := 40, pos := "law.go:71", after := #[{ on := 4, ground := Ground.data }], guard := none }) (v := .int .u64 ((IntKind.u64.wrap st).tmod 5)) rfl (by kernel_rfl) (by kernel_rfl) (by kernel_rfl) (fun _ _ _ h => h) (Or.inl ⟨by rfl, fun wx hS => ?_⟩) hH ?_
  · go_simp
  simp only [Act.put, List.setIfInBounds_toArray, List.set_cons_zero, List.set_cons_succ]
  refine wpAnyH_take (i := 6) (oi := { dst := some 25, op := Op.convert 40 3 (Operand.tmp 24), type := 3, pos := "law.go:71", after := #[{ on := 5, ground := Ground.data }], guard := none }) (v := .int .i64 (z : Int)) rfl (by kernel_rfl) (by kernel_rfl) (by kernel_rfl) (fun _ _ _ h => h) (Or.inl ⟨by rfl, fun wx hS => ?_⟩) hH ?_
  · go_simp; have e1 := ZE.out; unfold wrap64 at e1; rw [IntKind.wrap_i64]; generalize (IntKind.u64.wrap st).tmod 5 = q at *; omega
  simp only [Act.put, List.setIfInBounds_toArray, List.set_cons_zero, List.set_cons_succ]
  have hz96 := zeroRing
  have SALT := Lib.hid (fun X => salt_at X)
  revert hH
  refine join2 (Q := ?Q2_1_) (H := fun sg rg wx => Below w2.heap.size w2 wx ∧ True ∧ bytesIn wx (some ⟨sg, 0, none⟩) saltL ∧ (blockIs wx rg (zeros 96) 58 ∧ w2.heap.size ≤ rg)) (fun REST => ?main2_1_) ?rest2_1_
  case main2_1_ =>
    intro hH 
    refine wpAnyH_ready (rs := [1, 11]) (by kernel_rfl) (by simp) ?_
    refine AllReadyH.cons (o := { dst := some 20, op := Op.call { callee := Callee.value (Operand.func 30), args := #[], argTypes := #[] }, type := 22, pos := "law.go:71", after := #[], guard := none }) rfl (fun KK hKK => ?_) (AllReadyH.cons (o := { dst := some 6, op := Op.alloc 58, type := 0, pos := "law.go:71", after := #[], guard := none }) rfl (fun KK hKK => ?_) AllReadyH.nil)
    · go_simp
      with_reducible refine (SALT.out x0).mono ?_
      rintro e x2_1_0 ⟨sg, rfl, hsg, kb⟩
      have hN := hH.trans (kb.mono hH.size)
      clear hH kb
      refine hKK.out _ _ hN (fun hH => ?_)
      clear hKK KK hN
      try simp only [Act.put, List.setIfInBounds_toArray, List.set_cons_zero, List.set_cons_succ]
      refine wpAnyH_ready (rs := [7, 11]) (by kernel_rfl) (by simp) ?_
      refine AllReadyH.cons (o := { dst := some 26, op := Op.call { callee := Callee.value (Operand.func 29), args := #[Operand.tmp 19, Operand.tmp 20, Operand.tmp 25], argTypes := #[22, 22, 3] }, type := 67, pos := "law.go:71", after := #[{ on := 0, ground := Ground.data }, { on := 1, ground := Ground.data }, { on := 6, ground := Ground.data }, { on := 1, ground := Ground.chain }], guard := none }) rfl (fun KK hKK => ?_) (AllReadyH.cons (o := { dst := some 6, op := Op.alloc 58, type := 0, pos := "law.go:71", after := #[], guard := none }) rfl (fun KK hKK => ?_) AllReadyH.nil)
      · go_simp
        with_reducible refine (MK.out x2_1_0 hH sg hsg).mono ?_
        rintro e x2_1_1 ⟨rfl, kb⟩
        replace hsg := hsg.below kb
        have hN := hH.trans (kb.mono hH.size)
        clear hH kb
        refine hKK.out _ _ hN (fun hH => ?_)
        clear hKK KK hN
        try simp only [Act.put, List.setIfInBounds_toArray, List.set_cons_zero, List.set_cons_succ]
        refine wpAnyH_take (i := 8) (oi := { dst := some 18, op := Op.move (Operand.tmp 26), type := 67, pos := "law.go:71", after := #[{ on := 7, ground := Ground.data }], guard := none }) (v := .tuple #[.agg (byteCells RG).toArray, .int .i64 0]) rfl (by kernel_rfl) (by kernel_rfl) (by kernel_rfl) (fun _ _ _ h => h) (Or.inl ⟨by rfl, fun wx hS => ?_⟩) hH ?_
        · go_simp
        simp only [Act.put, List.setIfInBounds_toArray, List.set_cons_zero, List.set_cons_succ]
        refine wpAnyH_take (i := 9) (oi := { dst := some 27, op := Op.extract (Operand.tmp 18) 0, type := 58, pos := "law.go:71", after := #[{ on := 8, ground := Ground.data }], guard := none }) (v := .agg (byteCells RG).toArray) rfl (by kernel_rfl) (by kernel_rfl) (by kernel_rfl) (fun _ _ _ h => h) (Or.inl ⟨by rfl, fun wx hS => ?_⟩) hH ?_
        · go_simp
        simp only [Act.put, List.setIfInBounds_toArray, List.set_cons_zero, List.set_cons_succ]
        refine wpAnyH_take (i := 10) (oi := { dst := some 28, op := Op.extract (Operand.tmp 18) 1, type := 41, pos := "law.go:71", after := #[{ on := 8, ground := Ground.data }, { on := 12, ground := Ground.gcOnly Departure.lateStores }], guard := none }) (v := .int .i64 0) rfl (by kernel_rfl) (by kernel_rfl) (by kernel_rfl) (fun _ _ _ h => h) (Or.inl ⟨by rfl, fun wx hS => ?_⟩) hH ?_
        · go_simp
        simp only [Act.put, List.setIfInBounds_toArray, List.set_cons_zero, List.set_cons_succ]
        refine wpAnyH_ready (rs := [11]) (by kernel_rfl) (by simp) ?_
        refine AllReadyH.cons (o := { dst := some 6, op := Op.alloc 58, type := 0, pos := "law.go:71", after := #[], guard := none }) rfl (fun KK hKK => ?_) AllReadyH.nil
        have kb := alloc_below x2_1_1 (.cells (zeros 96).toArray 58 (0, 0))
        replace hsg := hsg.below kb
        have q_rg := And.intro (blockIs.new x2_1_1 (zeros 96) 58) hH.size
        have hN := hH.trans (kb.mono hH.size)
        clear hH kb
        go_simp
        refine hKK.out _ _ hN (fun hH => ?_)
        clear hKK KK hN
        try simp only [Act.put, List.setIfInBounds_toArray, List.set_cons_zero, List.set_cons_succ]
        generalize x2_1_1.alloc (.cells (zeros 96).toArray 58 (0, 0)) = x2_1_2 at *
        generalize x2_1_1.heap.size = rg at q_rg ⊢
        refine wpAnyH_listed (L2 := #[true, true, true, true, true, true, true, true, true, true, true, true, false, false]) (by kernel_rfl) ?_
        exact REST sg rg x2_1_2 ⟨hH, True.intro, hsg, q_rg⟩
      · have kb := alloc_below x2_1_0 (.cells (zeros 96).toArray 58 (0, 0))
        replace hsg := hsg.below kb
        have q_rg := And.intro (blockIs.new x2_1_0 (zeros 96) 58) hH.size
        have hN := hH.trans (kb.mono hH.size)
        clear hH kb
        go_simp
        refine hKK.out _ _ hN (fun hH => ?_)
        clear hKK KK hN
        try simp only [Act.put, List.setIfInBounds_toArray, List.set_cons_zero, List.set_cons_succ]
        generalize x2_1_0.alloc (.cells (zeros 96).toArray 58 (0, 0)) = x2_1_1 at *
        generalize x2_1_0.heap.size = rg at q_rg ⊢
        refine wpAnyH_ready (rs := [7]) (by kernel_rfl) (by simp) ?_
        refine AllReadyH.cons (o := { dst := some 26, op := Op.call { callee := Callee.value (Operand.func 29), args := #[Operand.tmp 19, Operand.tmp 20, Operand.tmp 25], argTypes := #[22, 22, 3] }, type := 67, pos := "law.go:71", after := #[{ on := 0, ground := Ground.data }, { on := 1, ground := Ground.data }, { on := 6, ground := Ground.data }, { on := 1, ground := Ground.chain }], guard := none }) rfl (fun KK hKK => ?_) AllReadyH.nil
        go_simp
        with_reducible refine (MK.out x2_1_1 hH sg hsg).mono ?_
        rintro e x2_1_2 ⟨rfl, kb⟩
        replace hsg := hsg.below kb
        replace q_rg := And.intro (q_rg.1.below kb q_rg.1.lt) q_rg.2
        have hN := hH.trans (kb.mono hH.size)
        clear hH kb
        refine hKK.out _ _ hN (fun hH => ?_)
        clear hKK KK hN
        try simp only [Act.put, List.setIfInBounds_toArray, List.set_cons_zero, List.set_cons_succ]
        refine wpAnyH_take (i := 8) (oi := { dst := some 18, op := Op.move (Operand.tmp 26), type := 67, pos := "law.go:71", after := #[{ on := 7, ground := Ground.data }], guard := none }) (v := .tuple #[.agg (byteCells RG).toArray, .int .i64 0]) rfl (by kernel_rfl) (by kernel_rfl) (by kernel_rfl) (fun _ _ _ h => h) (Or.inl ⟨by rfl, fun wx hS => ?_⟩) hH ?_
        · go_simp
        simp only [Act.put, List.setIfInBounds_toArray, List.set_cons_zero, List.set_cons_succ]
        refine wpAnyH_take (i := 9) (oi := { dst := some 27, op := Op.extract (Operand.tmp 18) 0, type := 58, pos := "law.go:71", after := #[{ on := 8, ground := Ground.data }], guard := none }) (v := .agg (byteCells RG).toArray) rfl (by kernel_rfl) (by kernel_rfl) (by kernel_rfl) (fun _ _ _ h => h) (Or.inl ⟨by rfl, fun wx hS => ?_⟩) hH ?_
        · go_simp
        simp only [Act.put, List.setIfInBounds_toArray, List.set_cons_zero, List.set_cons_succ]
        refine wpAnyH_take (i := 10) (oi := { dst := some 28, op := Op.extract (Operand.tmp 18) 1, type := 41, pos := "law.go:71", after := #[{ on := 8, ground := Ground.data }, { on := 12, ground := Ground.gcOnly Departure.lateStores }], guard := none }) (v := .int .i64 0) rfl (by kernel_rfl) (by kernel_rfl) (by kernel_rfl) (fun _ _ _ h => h) (Or.inl ⟨by rfl, fun wx hS => ?_⟩) hH ?_
        · go_simp
        simp only [Act.put, List.setIfInBounds_toArray, List.set_cons_zero, List.set_cons_succ]
        refine wpAnyH_listed (L2 := #[true, true, true, true, true, true, true, true, true, true, true, true, false, false]) (by kernel_rfl) ?_
        exact REST sg rg x2_1_2 ⟨hH, True.intro, hsg, q_rg⟩
    · have kb := alloc_below x0 (.cells (zeros 96).toArray 58 (0, 0))
      have q_rg := And.intro (blockIs.new x0 (zeros 96) 58) hH.size
      have hN := hH.trans (kb.mono hH.size)
      clear hH kb
      go_simp
      refine hKK.out _ _ hN (fun hH => ?_)
      clear hKK KK hN
      try simp only [Act.put, List.setIfInBounds_toArray, List.set_cons_zero, List.set_cons_succ]
      generalize x0.alloc (.cells (zeros 96).toArray 58 (0, 0)) = x2_1_0 at *
      generalize x0.heap.size = rg at q_rg ⊢
      refine wpAnyH_ready (rs := [1]) (by kernel_rfl) (by simp) ?_
      refine AllReadyH.cons (o := { dst := some 20, op := Op.call { callee := Callee.value (Operand.func 30), args := #[], argTypes := #[] }, type := 22, pos := "law.go:71", after := #[], guard := none }) rfl (fun KK hKK => ?_) AllReadyH.nil
      go_simp
      with_reducible refine (SALT.out x2_1_0).mono ?_
      rintro e x2_1_1 ⟨sg, rfl, hsg, kb⟩
      replace q_rg := And.intro (q_rg.1.below kb q_rg.1.lt) q_rg.2
      have hN := hH.trans (kb.mono hH.size)
      clear hH kb
      refine hKK.out _ _ hN (fun hH => ?_)
      clear hKK KK hN
      try simp only [Act.put, List.setIfInBounds_toArray, List.set_cons_zero, List.set_cons_succ]
      refine wpAnyH_ready (rs := [7]) (by kernel_rfl) (by simp) ?_
      refine AllReadyH.cons (o := { dst := some 26, op := Op.call { callee := Callee.value (Operand.func 29), args := #[Operand.tmp 19, Operand.tmp 20, Operand.tmp 25], argTypes := #[22, 22, 3] }, type := 67, pos := "law.go:71", after := #[{ on := 0, ground := Ground.data }, { on := 1, ground := Ground.data }, { on := 6, ground := Ground.data }, { on := 1, ground := Ground.chain }], guard := none }) rfl (fun KK hKK => ?_) AllReadyH.nil
      go_simp
      with_reducible refine (MK.out x2_1_1 hH sg hsg).mono ?_
      rintro e x2_1_2 ⟨rfl, kb⟩
      replace hsg := hsg.below kb
      replace q_rg := And.intro (q_rg.1.below kb q_rg.1.lt) q_rg.2
      have hN := hH.trans (kb.mono hH.size)
      clear hH kb
      refine hKK.out _ _ hN (fun hH => ?_)
      clear hKK KK hN
      try simp only [Act.put, List.setIfInBounds_toArray, List.set_cons_zero, List.set_cons_succ]
      refine wpAnyH_take (i := 8) (oi := { dst := some 18, op := Op.move (Operand.tmp 26), type := 67, pos := "law.go:71", after := #[{ on := 7, ground := Ground.data }], guard := none }) (v := .tuple #[.agg (byteCells RG).toArray, .int .i64 0]) rfl (by kernel_rfl) (by kernel_rfl) (by kernel_rfl) (fun _ _ _ h => h) (Or.inl ⟨by rfl, fun wx hS => ?_⟩) hH ?_
      · go_simp
      simp only [Act.put, List.setIfInBounds_toArray, List.set_cons_zero, List.set_cons_succ]
      refine wpAnyH_take (i := 9) (oi := { dst := some 27, op := Op.extract (Operand.tmp 18) 0, type := 58, pos := "law.go:71", after := #[{ on := 8, ground := Ground.data }], guard := none }) (v := .agg (byteCells RG).toArray) rfl (by kernel_rfl) (by kernel_rfl) (by kernel_rfl) (fun _ _ _ h => h) (Or.inl ⟨by rfl, fun wx hS => ?_⟩) hH ?_
      · go_simp
      simp only [Act.put, List.setIfInBounds_toArray, List.set_cons_zero, List.set_cons_succ]
      refine wpAnyH_take (i := 10) (oi := { dst := some 28, op := Op.extract (Operand.tmp 18) 1, type := 41, pos := "law.go:71", after := #[{ on := 8, ground := Ground.data }, { on := 12, ground := Ground.gcOnly Departure.lateStores }], guard := none }) (v := .int .i64 0) rfl (by kernel_rfl) (by kernel_rfl) (by kernel_rfl) (fun _ _ _ h => h) (Or.inl ⟨by rfl, fun wx hS => ?_⟩) hH ?_
      · go_simp
      simp only [Act.put, List.setIfInBounds_toArray, List.set_cons_zero, List.set_cons_succ]
      refine wpAnyH_listed (L2 := #[true, true, true, true, true, true, true, true, true, true, true, true, false, false]) (by kernel_rfl) ?_
      exact REST sg rg x2_1_2 ⟨hH, True.intro, hsg, q_rg⟩
  case rest2_1_ =>
    rintro sg rg x1 ⟨hH, -, hsg, q_rg⟩
    clear SALT hsg hz96 MK
    refine wpAnyH_ready (rs := [12]) (by kernel_rfl) (by simp) ?_
    refine AllReadyH.cons (o := { dst := none, op := Op.store 58 (Operand.tmp 6) (Operand.tmp 27), type := 0, pos := "law.go:71", after := #[{ on := 11, ground := Ground.data }, { on := 9, ground := Ground.data }, { on := 7, ground := Ground.chain }, { on := 0, ground := Ground.phase }, { on := 1, ground := Ground.phase }, { on := 2, ground := Ground.phase }, { on := 3, ground := Ground.phase }, { on := 4, ground := Ground.phase }, { on := 5, ground := Ground.phase }, { on := 6, ground := Ground.phase }, { on := 7, ground := Ground.phase }, { on := 8, ground := Ground.phase }, { on := 9, ground := Ground.phase }, { on := 10, ground := Ground.textOnly Departure.lateStores }, { on := 11, ground := Ground.phase }], guard := none }) rfl (fun KK hKK => ?_) AllReadyH.nil
    refine Ci.step_store_block rfl 58 _ _ rfl rg 0 (byteCells RG) rfl rfl (zeros 96) 58 q_rg.1 (by rw [infoRing, byteCells_length, hRl]) (by simp [zeros, byteCells_length, hRl]) (byteCells_one _) ?_
    intro x2 h1 h2 h3
    have h1 := h1.out
    rw [splice_all _ _ (by simp [zeros, byteCells_length, hRl])] at h1
    have E2 := Lib.hid h1
    have hN := hH.trans (h2.out.below q_rg.2 hH.size)
    have RLO := Lib.hid q_rg.2
    clear h1 h2 h3 hH q_rg
    refine hKK.out _ _ hN (fun hH => ?_)
    clear hKK KK hN
    try simp only [Act.put, List.setIfInBounds_toArray, List.set_cons_zero, List.set_cons_succ]
    refine wpAnyH_ready (rs := [13]) (by kernel_rfl) (by simp) ?_
    refine AllReadyH.cons (o := { dst := some 7, op := Op.assign (Operand.tmp 28), type := 41, pos := "law.go:71", after := #[{ on := 10, ground := Ground.data }, { on := 12, ground := Ground.chain }, { on := 0, ground := Ground.phase }, { on := 1, ground := Ground.phase }, { on := 2, ground := Ground.phase }, { on := 3, ground := Ground.phase }, { on := 4, ground := Ground.phase }, { on := 5, ground := Ground.phase }, { on := 6, ground := Ground.phase }, { on := 7, ground := Ground.phase }, { on := 8, ground := Ground.phase }, { on := 9, ground := Ground.phase }, { on := 10, ground := Ground.phase }, { on := 11, ground := Ground.phase }, { on := 12, ground := Ground.phase }], guard := none }) rfl (fun KK hKK => ?_) AllReadyH.nil
    go_simp
    refine hKK.out _ _ hH (fun hH => ?_)
    clear hKK KK
    try simp only [Act.put, List.setIfInBounds_toArray, List.set_cons_zero, List.set_cons_succ]
    refine wpAnyH_done (by kernel_rfl) ?_ _
    refine NoPanic.normal ?_
    have PS0 : PenS w rg CL RG x2 := ⟨B2.out.trans (hH.mono B2.out.size), E2.out, N2.out.below hH N2.out.lt⟩
    have P3 := Lib.hid (P2.out.below hH P2.out.lt)
    have Q3 := Lib.hid (Q2.out.below hH Q2.out.lt)
    have OKS := Lib.hid (OKS2.out.below hH)
    have HLO : Hid (w.heap.size + 3 ≤ rg ∧ w.heap.size + 3 ≤ x2.heap.size) := Lib.hid ⟨Nat.le_trans SZ2.out RLO.out, Nat.le_trans SZ2.out hH.size⟩
    clear B2 E2 N2 P2 Q2 OKS2 SZ2 RLO hH T2 OKK CELL1 CELL2 ZE
    go_upto_region 3 with fail
    refine wp_region_noPanic ?_
    refine wp_region_held_drew (S := fun w' => PenS w rg CL RG w') (by kernel_rfl) (PS0.drew) (fun hH => ?_)
    clear PS0
    have WD := Lib.hid (fun X (hX : Below x2.heap.size x2 X) => wind_any sa G2 sc X (OKS.out.1.2.2.below hX) OKS.out.2 hGl)
    have k2 := below_drew' (Below.refl x2.heap.size x2)
    have p2 : blockIs x2.drew (w.heap.size + 1) (zeros 96 ++ [Value.pointer none]) 60 := P3.out.drewN 1
    have q2 : blockIs x2.drew (w.heap.size + 2) (zeros 96) 62 := Q3.out.drewN 1
    generalize x2.drew = y0 at *
    have ky := k2.size
    refine wpAnyH_take (i := 0) (oi := { dst := some 29, op := Op.load 58 (Operand.tmp 6), type := 58, pos := "law.go:72", after := #[], guard := none }) (v := .agg (byteCells RG).toArray) rfl (by kernel_rfl) (by kernel_rfl) (by kernel_rfl) (fun _ _ _ h => h) (yieldsIf_load_mid (by rfl) 58 _ rfl (rg) 0 rfl (byteCells RG) _ (fun wx hS => range_of hS.r) Tryd.underlying58 rfl (by rw [infoRing, byteCells_length, hRl])) hH ?_
    simp only [Act.put, List.setIfInBounds_toArray, List.set_cons_zero, List.set_cons_succ]
    refine wpAnyH_take (i := 1) (oi := { dst := some 30, op := Op.fieldAddr 56 (Operand.tmp 1) 2, type := 0, pos := "law.go:72", after := #[], guard := none }) (v := .pointer (some ⟨w.heap.size, 2, none⟩)) rfl (by kernel_rfl) (by kernel_rfl) (by kernel_rfl) (fun _ _ _ h => h) (Or.inl ⟨by rfl, fun wx hS => ?_⟩) hH ?_
    · go_simp
    simp only [Act.put, List.setIfInBounds_toArray, List.set_cons_zero, List.set_cons_succ]
    refine wpAnyH_take (i := 2) (oi := { dst := some 31, op := Op.load 22 (Operand.tmp 30), type := 22, pos := "law.go:72", after := #[{ on := 1, ground := Ground.data }], guard := none }) (v := .slice ba G.length bc) rfl (by kernel_rfl) (by kernel_rfl) (by kernel_rfl) (fun _ _ _ h => h) (Or.inl ⟨by rfl, fun wx hS => ?_⟩) hH ?_
    · have e1 := hS.two C2.out; go_simp
    simp only [Act.put, List.setIfInBounds_toArray, List.set_cons_zero, List.set_cons_succ]
    refine wpAnyH_take (i := 3) (oi := { dst := some 32, op := Op.fieldAddr 56 (Operand.tmp 1) 2, type := 0, pos := "law.go:72", after := #[], guard := none }) (v := .pointer (some ⟨w.heap.size, 2, none⟩)) rfl (by kernel_rfl) (by kernel_rfl) (by kernel_rfl) (fun _ _ _ h => h) (Or.inl ⟨by rfl, fun wx hS => ?_⟩) hH ?_
    · go_simp
    simp only [Act.put, List.setIfInBounds_toArray, List.set_cons_zero, List.set_cons_succ]
    refine wpAnyH_take (i := 4) (oi := { dst := some 33, op := Op.load 22 (Operand.tmp 32), type := 22, pos := "law.go:72", after := #[{ on := 3, ground := Ground.data }], guard := none }) (v := .slice ba G.length bc) rfl (by kernel_rfl) (by kernel_rfl) (by kernel_rfl) (fun _ _ _ h => h) (Or.inl ⟨by rfl, fun wx hS => ?_⟩) hH ?_
    · have e1 := hS.two C2.out; go_simp
    simp only [Act.put, List.setIfInBounds_toArray, List.set_cons_zero, List.set_cons_succ]
    refine wpAnyH_take (i := 5) (oi := { dst := some 34, op := Op.call { callee := Callee.builtin Builtin.len, args := #[Operand.tmp 33], argTypes := #[22] }, type := 3, pos := "law.go:72", after := #[{ on := 4, ground := Ground.data }], guard := none }) (v := .int .i64 (G.length : Int)) rfl (by kernel_rfl) (by kernel_rfl) (by kernel_rfl) (fun _ _ _ h => h) (Or.inl ⟨by rfl, fun wx hS => ?_⟩) hH ?_
    · go_simp
    simp only [Act.put, List.setIfInBounds_toArray, List.set_cons_zero, List.set_cons_succ]
    refine wpAnyH_take (i := 6) (oi := { dst := some 35, op := Op.call { callee := Callee.builtin Builtin.min, args := #[Operand.tmp 34, Operand.const (Value.int IntKind.i64 100)], argTypes := #[3, 3] }, type := 3, pos := "law.go:72", after := #[{ on := 5, ground := Ground.data }], guard := none }) (v := .int .i64 (g : Int)) rfl (by kernel_rfl) (by kernel_rfl) (by kernel_rfl) (fun _ _ _ h => h) (Or.inl ⟨by rfl, fun wx hS => ?_⟩) hH ?_
    · go_simp; have e1 := HMIN.out; omega
    simp only [Act.put, List.setIfInBounds_toArray, List.set_cons_zero, List.set_cons_succ]
    refine wpAnyH_take (i := 7) (oi := { dst := some 36, op := Op.slice 22 (Operand.tmp 31) none (some (Operand.tmp 35)) none, type := 22, pos := "law.go:72", after := #[{ on := 2, ground := Ground.data }, { on := 6, ground := Ground.data }], guard := none }) (v := .slice sa G2.length sc) rfl (by kernel_rfl) (by kernel_rfl) (by kernel_rfl) (fun _ _ _ h => h) (Or.inl ⟨by rfl, fun wx hS => ?_⟩) hH ?_
    · have e1 := SL.out wx; go_simp
    simp only [Act.put, List.setIfInBounds_toArray, List.set_cons_zero, List.set_cons_succ]
    refine wpAnyH_take (i := 10) (oi := { dst := some 39, op := Op.load 58 (Operand.tmp 6), type := 58, pos := "law.go:72", after := #[], guard := none }) (v := .agg (byteCells RG).toArray) rfl (by kernel_rfl) (by kernel_rfl) (by kernel_rfl) (fun _ _ _ h => h) (yieldsIf_load_mid (by rfl) 58 _ rfl (rg) 0 rfl (byteCells RG) _ (fun wx hS => range_of hS.r) Tryd.underlying58 rfl (by rw [infoRing, byteCells_length, hRl])) hH ?_
    simp only [Act.put, List.setIfInBounds_toArray, List.set_cons_zero, List.set_cons_succ]
    refine wpAnyH_take (i := 12) (oi := { dst := some 41, op := Op.move (Operand.tmp 7), type := 41, pos := "law.go:72", after := #[{ on := 15, ground := Ground.gcOnly Departure.lateStores }], guard := none }) (v := .int .i64 0) rfl (by kernel_rfl) (by kernel_rfl) (by kernel_rfl) (fun _ _ _ h => h) (Or.inl ⟨by rfl, fun wx hS => ?_⟩) hH ?_
    · go_simp
    simp only [Act.put, List.setIfInBounds_toArray, List.set_cons_zero, List.set_cons_succ]
    refine wpAnyH_take (i := 13) (oi := { dst := some 42, op := Op.binOp BinOp.eql 41 (Operand.tmp 41) (Operand.const (Value.int IntKind.i64 0)) 41, type := 4, pos := "law.go:72", after := #[{ on := 12, ground := Ground.data }, { on := 15, ground := Ground.gcOnly Departure.lateStores }], guard := none }) (v := .bool true) rfl (by kernel_rfl) (by kernel_rfl) (by kernel_rfl) (fun _ _ _ h => h) (Or.inl ⟨by rfl, fun wx hS => ?_⟩) hH ?_
    · go_simp
    simp only [Act.put, List.setIfInBounds_toArray, List.set_cons_zero, List.set_cons_succ]
    refine wpAnyH_ready (rs := [8]) (by kernel_rfl) (by simp) ?_
    refine AllReadyH.cons (o := { dst := some 37, op := Op.call { callee := Callee.value (Operand.func 16), args := #[Operand.tmp 36], argTypes := #[22] }, type := 25, pos := "law.go:72", after := #[{ on := 7, ground := Ground.data }], guard := none }) rfl (fun KK hKK => ?_) AllReadyH.nil
    go_simp
    with_reducible refine (WD.out y0 k2).mono ?_
    rintro e y1 ⟨tb, fa, fc, rfl, hlo, htp, hfa, kb⟩
    replace k2 := k2.trans (kb.mono k2.size)
    replace p2 := p2.below kb p2.lt
    replace q2 := q2.below kb q2.lt
    replace hlo := Nat.le_trans ky hlo
    replace hfa := fun x e => Nat.le_trans ky (hfa x e)
    have hN := hH.trans (kb.mono hH.size)
    clear hH kb
    refine hKK.out _ _ hN (fun hH => ?_)
    clear hKK KK hN
    try simp only [Act.put, List.setIfInBounds_toArray, List.set_cons_zero, List.set_cons_succ]
    clear WD
    refine wpAnyH_take (i := 9) (oi := { dst := some 38, op := Op.build 60 #[(0, Operand.tmp 29), (1, Operand.tmp 37)], type := 60, pos := "law.go:72", after := #[{ on := 0, ground := Ground.data }, { on := 8, ground := Ground.data }], guard := none }) (v := .agg (penCells RG tb).toArray) rfl (by kernel_rfl) (by kernel_rfl) (by kernel_rfl) (fun _ _ _ h => h) (Or.inl ⟨by rfl, fun wx hS => ?_⟩) hH ?_
    · exact run_buildO _ 60 _ rfl _ _ (buildPen RG tb hRl wx) rfl
    simp only [Act.put, List.setIfInBounds_toArray, List.set_cons_zero, List.set_cons_succ]
    refine wpAnyH_ready (rs := [11]) (by kernel_rfl) (by simp) ?_
    refine AllReadyH.cons (o := { dst := some 40, op := Op.call { callee := Callee.value (Operand.func 31), args := #[Operand.tmp 39], argTypes := #[58] }, type := 62, pos := "law.go:72", after := #[{ on := 10, ground := Ground.data }, { on := 8, ground := Ground.chain }], guard := none }) rfl (fun KK hKK => ?_) AllReadyH.nil
    go_simp
    with_reducible refine (from_any RG y1 hRl).mono ?_
    rintro e y2 ⟨rfl, kb⟩
    replace k2 := k2.trans (kb.mono k2.size)
    replace p2 := p2.below kb p2.lt
    replace q2 := q2.below kb q2.lt
    replace htp := htp.below kb
    have hN := hH.trans (kb.mono hH.size)
    clear hH kb
    refine hKK.out _ _ hN (fun hH => ?_)
    clear hKK KK hN
    try simp only [Act.put, List.setIfInBounds_toArray, List.set_cons_zero, List.set_cons_succ]
    have HB := HLO.out
    refine wpAnyH_ready (rs := [14]) (by kernel_rfl) (by simp) ?_
    refine AllReadyH.cons (o := { dst := none, op := Op.store 60 (Operand.tmp 2) (Operand.tmp 38), type := 0, pos := "law.go:72", after := #[{ on := 9, ground := Ground.data }, { on := 11, ground := Ground.chain }, { on := 0, ground := Ground.phase }, { on := 1, ground := Ground.phase }, { on := 2, ground := Ground.phase }, { on := 3, ground := Ground.phase }, { on := 4, ground := Ground.phase }, { on := 5, ground := Ground.phase }, { on := 6, ground := Ground.phase }, { on := 7, ground := Ground.phase }, { on := 8, ground := Ground.phase }, { on := 9, ground := Ground.phase }, { on := 10, ground := Ground.textOnly Departure.lateStores }, { on := 11, ground := Ground.textOnly Departure.lateStoresUnsure }, { on := 12, ground := Ground.textOnly Departure.lateStores }, { on := 13, ground := Ground.textOnly Departure.lateStores }], guard := none }) rfl (fun KK hKK => ?_) AllReadyH.nil
    refine Ci.step_store_block rfl 60 _ _ rfl (w.heap.size + 1) 0 (penCells RG tb) rfl rfl (zeros 96 ++ [Value.pointer none]) 60 p2 (by rw [infoPen, penCells_length RG tb hRl]) (by rw [penCells_length RG tb hRl]; simp [zeros]) (penCells_one _ _) ?_
    intro y3 h1 h2 h3
    have h1 := h1.out
    rw [splice_all _ _ (by rw [penCells_length RG tb hRl]; simp [zeros])] at h1
    have hN : PenS w rg CL RG y3 := hH.but h2.out (by omega) (by omega)
    replace htp := htp.other h2.out (by omega) (fun x e => by have := hfa x e; omega)
    have p3 := h1
    have q3 := h2.out.is q2 (by omega)
    clear q2
    have q2 := q3
    clear p2 q3
    clear h1 h2 h3 hH k2
    refine hKK.out _ _ hN (fun hH => ?_)
    clear hKK KK hN
    try simp only [Act.put, List.setIfInBounds_toArray, List.set_cons_zero, List.set_cons_succ]
    refine wpAnyH_ready (rs := [15]) (by kernel_rfl) (by simp) ?_
    refine AllReadyH.cons (o := { dst := none, op := Op.store 62 (Operand.tmp 3) (Operand.tmp 40), type := 0, pos := "law.go:72", after := #[{ on := 11, ground := Ground.data }, { on := 14, ground := Ground.chain }, { on := 0, ground := Ground.phase }, { on := 1, ground := Ground.phase }, { on := 2, ground := Ground.phase }, { on := 3, ground := Ground.phase }, { on := 4, ground := Ground.phase }, { on := 5, ground := Ground.phase }, { on := 6, ground := Ground.phase }, { on := 7, ground := Ground.phase }, { on := 8, ground := Ground.phase }, { on := 9, ground := Ground.phase }, { on := 10, ground := Ground.phase }, { on := 11, ground := Ground.phase }, { on := 12, ground := Ground.textOnly Departure.lateStores }, { on := 13, ground := Ground.textOnly Departure.lateStores }, { on := 14, ground := Ground.phase }], guard := none }) rfl (fun KK hKK => ?_) AllReadyH.nil
    refine Ci.step_store_block rfl 62 _ _ rfl (w.heap.size + 2) 0 (byteCells RG) rfl rfl (zeros 96) 62 q2 (by rw [infoRing2, byteCells_length, hRl]) (by simp [zeros, byteCells_length, hRl]) (byteCells_one _) ?_
    intro y4 h1 h2 h3
    have h1 := h1.out
    rw [splice_all _ _ (by simp [zeros, byteCells_length, hRl])] at h1
    have hN : PenS w rg CL RG y4 := hH.but h2.out (by omega) (by omega)
    replace htp := htp.other h2.out (by omega) (fun x e => by have := hfa x e; omega)
    have q3 := h1
    have p4 := h2.out.is p3 (by omega)
    clear h1 h2 h3 hH
    refine hKK.out _ _ hN (fun hH => ?_)
    clear hKK KK hN
    try simp only [Act.put, List.setIfInBounds_toArray, List.set_cons_zero, List.set_cons_succ]
    refine wpAnyH_ready (rs := [16]) (by kernel_rfl) (by simp) ?_
    refine AllReadyH.cons (o := { dst := some 4, op := Op.assign (Operand.tmp 42), type := 4, pos := "law.go:72", after := #[{ on := 13, ground := Ground.data }, { on := 15, ground := Ground.chain }, { on := 0, ground := Ground.phase }, { on := 1, ground := Ground.phase }, { on := 2, ground := Ground.phase }, { on := 3, ground := Ground.phase }, { on := 4, ground := Ground.phase }, { on := 5, ground := Ground.phase }, { on := 6, ground := Ground.phase }, { on := 7, ground := Ground.phase }, { on := 8, ground := Ground.phase }, { on := 9, ground := Ground.phase }, { on := 10, ground := Ground.phase }, { on := 11, ground := Ground.phase }, { on := 12, ground := Ground.phase }, { on := 13, ground := Ground.phase }, { on := 14, ground := Ground.phase }, { on := 15, ground := Ground.phase }], guard := none }) rfl (fun KK hKK => ?_) AllReadyH.nil
    go_simp
    refine hKK.out _ _ hH (fun hH => ?_)
    clear hKK KK
    try simp only [Act.put, List.setIfInBounds_toArray, List.set_cons_zero, List.set_cons_succ]
    refine wpAnyH_done (by kernel_rfl) ?_ _
    refine NoPanic.normal ?_
    have HF := Lib.hid htp
    have HS := Lib.hid hH.b
    have HT : Hid (w.heap.size ≤ tb) := Lib.hid (by omega)
    have Q9 := Lib.hid q3
    have P9 := Lib.hid p4
    clear q3 p4 p3 q2 hH htp HB hlo hfa
    go_wp2_with fail
    refine bodyPost_ret (v := .tuple #[.agg (penCells RG tb).toArray, .agg (byteCells RG).toArray, .bool true]) (results_two_tmp (p := 2) (q := 3) (u := 4) rfl _ _ (w.heap.size + 1) (w.heap.size + 2) _ _ rfl rfl (run_loadVar_row _ _ 60 _ _ (0, 0) _ P9.out Tryd.underlying60 rfl (by rw [infoPen]; simp [penCells_length RG tb hRl])) (run_loadVar_row _ _ 62 _ _ (0, 0) _ Q9.out Tryd.underlying62 rfl (by rw [infoRing2]; simp [byteCells_length, hRl]))) rfl ?_
    exact ⟨tb, fa, fc, rfl, HT.out, HF.out, HS.out⟩

end Go.Proofs.YtjkhokholcchfaaDoor
