/- The law ShelfKeeps: its walk. -/
import Derived.Test.YthefledeoiegjaaKpw
namespace Go.Proofs.Ythefledeoiegjaa
open Go.RowKit

set_option maxRecDepth 100000 in
set_option maxHeartbeats 8000000 in
theorem law_shelfKeeps (ta : Option Addr) (tc : Nat) (Ts : List (List UInt8)) (fa : Option Addr) (fc : Nat) (Fs : List Bool) (z : Int) (pa : Option Addr) (pc : Nat) (Ps : List Int) (w : World)
    (hT : rowStrs w ta tc Ts) (hF : rowFlags w fa fc Fs) (hP : rowInts w pa pc Ps) (hpz : pa = none → pc = 0) :
    Calls Try.prog 3 #[.agg #[.slice ta Ts.length tc, .slice fa Fs.length fc, .int .i64 z, .slice pa Ps.length pc]] w fun e w' => e = .returned (.bool true) ∧ Below w.heap.size w w' := by
  have hTl : (Ts.length : Int) ≤ 9223372036854775807 := by have := hT.1; have := hT.2.1; omega
  have hFl : (Fs.length : Int) ≤ 9223372036854775807 := by have := hF.1; have := hF.2.1; omega
  obtain ⟨CL, hCL⟩ : ∃ CL, CL = [Value.slice ta Ts.length tc, .slice fa Fs.length fc, .int .i64 z, .slice pa Ps.length pc] := ⟨_, rfl⟩
  rw [show (#[.slice ta Ts.length tc, .slice fa Fs.length fc, .int .i64 z, .slice pa Ps.length pc] : Array Value) = CL.toArray by rw [hCL]]
  have K0 : Hid (CL[0]? = some (.slice ta Ts.length tc)) := Lib.hid (by rw [hCL]; rfl)
  have K1 : Hid (CL[1]? = some (.slice fa Fs.length fc)) := Lib.hid (by rw [hCL]; rfl)
  have K2 : Hid (CL[2]? = some (.int .i64 z)) := Lib.hid (by rw [hCL]; rfl)
  have K3 : Hid (CL[3]? = some (.slice pa Ps.length pc)) := Lib.hid (by rw [hCL]; rfl)
  clear hCL
  have A0 := alloc_below w (.cells CL.toArray 26 (0, 0))
  have N1 := Lib.hid (blockIs.new w CL 26)
  have W1 := Lib.hid A0
  have VT := Lib.hid (hT.2.2.2.below A0 (Nat.le_refl _))
  have VF := Lib.hid (hF.2.2.below A0 (Nat.le_refl _))
  have VP := Lib.hid (hP.2.2.2.below A0 (Nat.le_refl _))
  have TL := Lib.hid hT.2.2.1
  have PL := Lib.hid (And.intro hP.2.2.1 (And.intro hP.1 (And.intro hP.2.1 hpz)))
  clear A0 hT hF hP hpz
  obtain ⟨left, hleft, hl60⟩ := modq z 60 (by decide) (by decide)
  go_enter Try.func3, Try.ntmps3
  go_upto_region 1 with fail
  generalize w.alloc (.cells CL.toArray 26 (0, 0)) = w1 at *
  have NW := Lib.hid (new_any 1048576 w1 (by decide) (by decide))
  have NX := Lib.hid (fun X (hX : Below w1.heap.size w1 X) => N1.out.below hX N1.out.lt)
  go_wp2_with fail
  with_reducible refine NW.out.mono ?_
  rintro e w2 ⟨k, rfl, h2, b2⟩
  have H2 := Lib.hid h2
  have B2 := Lib.hid b2
  clear h2 b2 NW
  have ST := Lib.hid (stands_any w2)
  go_wp2_with fail
  with_reducible refine ST.out.mono ?_
  rintro e w3 ⟨rfl, k3⟩
  have H3 := Lib.hid (H2.out.below k3)
  have B3 := Lib.hid (B2.out.trans (k3.mono B2.out.size))
  clear k3 H2 B2 ST
  have c2 : w3.cell? ⟨w.heap.size, 2, none⟩ = some (.int .i64 z) := by rw [(NX.out _ B3.out).cell]; exact K2.out
  have AR := Lib.hid (arm_any w1.heap.size k none (newSh 1048576) (left : Int) w3 H3.out (WalkArith.wf_i64 (by omega)))
  rw [armed_K] at AR
  go_upto_region 4 with fail
  go_wp2_with fail
  with_reducible refine AR.out.mono ?_
  rintro e w4 ⟨rfl, h4, s4⟩
  have H4 := Lib.hid h4
  have B4 := Lib.hid (B3.out.trans (H3.out.step_below s4))
  clear h4 s4 H3 B3 c2 AR hleft
  go_upto_block 0 with fail
  go_cut [5, 6, 7, 8] (fun v5 v6 v7 v8 wx => ∃ i, i ≤ 20 ∧ KpAt w1.heap.size k v5 v6 v7 v8 i wx ∧ Hid (Below w1.heap.size w1 wx))
  case first =>
    go_wp2_with fail
    go_loopw [5, 6, 7, 8, 9] (fun v5 v6 v7 v8 iv wr => ∃ i : Nat, i ≤ 20 ∧ i ≤ Ts.length ∧ iv = .int .i64 (i : Int) ∧ KpAt w1.heap.size k v5 v6 v7 v8 i wr ∧ Hid (Below w1.heap.size w1 wr)) (fun _ _ _ _ iv _ => 20 - (intOf iv).toNat)
    case atStart => exact ⟨0, by omega, by omega, rfl, ⟨none, [], [], [], [], [], 0, left, false, KpOk.none, by omega, by omega, H4.out, Four.none _ _⟩, B4⟩
    case round =>
      obtain ⟨i, hi20, hiT, rfl, ⟨m, L, A, Xn, K, N, t, lf, off, ho, ht3, hlf, hs, hf4⟩, HB⟩ := hrel
      have HO := Lib.hid ho
      have HS := Lib.hid hs
      have H4 := Lib.hid hf4
      clear ho hs hf4
      have c0 : wr.cell? ⟨w.heap.size, 0, none⟩ = some (.slice ta Ts.length tc) := by rw [(NX.out _ HB.out).cell]; exact K0.out
      by_cases hgo : i < Ts.length ∧ i < 20
      · obtain ⟨hiT2, hi⟩ := hgo
        have q1 : (i : Int) < (Ts.length : Int) := by omega
        have q2 : (i : Int) < 20 := by omega
        have p0 : (0 : Int) ≤ (i : Int) := by omega
        obtain ⟨tb, tO, rfl, hck⟩ := VT.out.at i (by rw [svals_length]; exact hiT2)
        obtain ⟨T, hT⟩ : ∃ T, T = Ts.getD i [] := ⟨_, rfl⟩
        have hck : w1.cell? ⟨tb, tO + i, none⟩ = some (.string (str T)) := by
          rw [hck, hT]
          simp [svals, hiT2]
        obtain ⟨q, hq⟩ : ∃ q, q = min T.length 2000 := ⟨_, rfl⟩
        obtain ⟨y, hy⟩ : ∃ y, y = T.take 2000 := ⟨_, rfl⟩
        have hyl : y.length ≤ 2000 := by rw [hy, List.length_take]; omega
        have HMIN : Hid (min (T.length : Int) 2000 = (q : Int)) := Lib.hid (by omega)
        have HQL : Hid (q ≤ T.length) := Lib.hid (by omega)
        have EXT : Hid ((str T).extract 0 q = str y) := Lib.hid (by
          rw [str_take, hy, hq]
          congr 1
          rw [List.take_eq_take_iff]
          omega)
        have TSZ := Lib.hid (str_size T)
        have C0 : Hid (∀ X, Below w1.heap.size w1 X → X.cell? ⟨w.heap.size, 0, none⟩ = some (.slice (some ⟨tb, tO, none⟩) Ts.length tc)) := Lib.hid (fun X hX => by rw [(NX.out X hX).cell]; exact K0.out)
        have CT : Hid (∀ X, Below w1.heap.size w1 X → X.cell? ⟨tb, tO + i, none⟩ = some (.string (str T))) := Lib.hid (fun X hX => by rw [hX.cell (block_lt_of_cell hck)]; exact hck)
        clear hck hT hy hq
        go_upto_region 10 with fail
        clear c0
        refine wp_region_noPanic ?_
        refine wp_region_held_drew (S := fun w' => Below w1.heap.size w1 w') (by kernel_rfl) (below_drewN HB.out 1) (fun hH => ?_)
        have k0 := below_drewN (Below.refl wr.heap.size wr) 1
        change Below wr.heap.size wr wr.drew at k0
        generalize hx0 : wr.drew = x0 at *
        clear hx0
        refine wpAnyH_take (i := 0) (oi := { dst := some 48, op := Op.fieldAddr 26 (Operand.tmp 1) 0, type := 0, pos := "law.go:186", after := #[], guard := none }) (v := .pointer (some ⟨w.heap.size, 0, none⟩)) rfl (by kernel_rfl) (by kernel_rfl) (by kernel_rfl) (fun _ _ _ h => h) (Or.inl ⟨by rfl, fun wx hS => ?_⟩) hH ?_
        · go_simp
        simp only [Act.put, List.setIfInBounds_toArray, List.set_cons_zero, List.set_cons_succ]
        refine wpAnyH_take (i := 1) (oi := { dst := some 49, op := Op.load 22 (Operand.tmp 48), type := 22, pos := "law.go:186", after := #[{ on := 0, ground := Ground.data }], guard := none }) (v := .slice (some ⟨tb, tO, none⟩) Ts.length tc) rfl (by kernel_rfl) (by kernel_rfl) (by kernel_rfl) (fun _ _ _ h => h) (Or.inl ⟨by rfl, fun wx hS => ?_⟩) hH ?_
        · have e1 := C0.out wx hS; go_simp
        simp only [Act.put, List.setIfInBounds_toArray, List.set_cons_zero, List.set_cons_succ]
        refine wpAnyH_take (i := 2) (oi := { dst := some 50, op := Op.move (Operand.tmp 9), type := 3, pos := "law.go:186", after := #[], guard := none }) (v := .int .i64 (i : Int)) rfl (by kernel_rfl) (by kernel_rfl) (by kernel_rfl) (fun _ _ _ h => h) (Or.inl ⟨by rfl, fun wx hS => ?_⟩) hH ?_
        · go_simp
        simp only [Act.put, List.setIfInBounds_toArray, List.set_cons_zero, List.set_cons_succ]
        refine wpAnyH_take (i := 3) (oi := { dst := some 51, op := Op.indexAddr 22 (Operand.tmp 49) (Operand.tmp 50), type := 0, pos := "law.go:186", after := #[{ on := 1, ground := Ground.data }, { on := 2, ground := Ground.data }], guard := none }) (v := .pointer (some ⟨tb, tO + i, none⟩)) rfl (by kernel_rfl) (by kernel_rfl) (by kernel_rfl) (fun _ _ _ h => h) (Or.inl ⟨by rfl, fun wx hS => ?_⟩) hH ?_
        · go_simp
        simp only [Act.put, List.setIfInBounds_toArray, List.set_cons_zero, List.set_cons_succ]
        refine wpAnyH_take (i := 4) (oi := { dst := some 52, op := Op.load 9 (Operand.tmp 51), type := 9, pos := "law.go:186", after := #[{ on := 3, ground := Ground.data }], guard := none }) (v := .string (str T)) rfl (by kernel_rfl) (by kernel_rfl) (by kernel_rfl) (fun _ _ _ h => h) (Or.inl ⟨by rfl, fun wx hS => ?_⟩) hH ?_
        · have e1 := CT.out wx hS; go_simp
        simp only [Act.put, List.setIfInBounds_toArray, List.set_cons_zero, List.set_cons_succ]
        refine wpAnyH_take (i := 5) (oi := { dst := some 53, op := Op.fieldAddr 26 (Operand.tmp 1) 0, type := 0, pos := "law.go:186", after := #[], guard := none }) (v := .pointer (some ⟨w.heap.size, 0, none⟩)) rfl (by kernel_rfl) (by kernel_rfl) (by kernel_rfl) (fun _ _ _ h => h) (Or.inl ⟨by rfl, fun wx hS => ?_⟩) hH ?_
        · go_simp
        simp only [Act.put, List.setIfInBounds_toArray, List.set_cons_zero, List.set_cons_succ]
        refine wpAnyH_take (i := 6) (oi := { dst := some 54, op := Op.load 22 (Operand.tmp 53), type := 22, pos := "law.go:186", after := #[{ on := 5, ground := Ground.data }], guard := none }) (v := .slice (some ⟨tb, tO, none⟩) Ts.length tc) rfl (by kernel_rfl) (by kernel_rfl) (by kernel_rfl) (fun _ _ _ h => h) (Or.inl ⟨by rfl, fun wx hS => ?_⟩) hH ?_
        · have e1 := C0.out wx hS; go_simp
        simp only [Act.put, List.setIfInBounds_toArray, List.set_cons_zero, List.set_cons_succ]
        refine wpAnyH_take (i := 7) (oi := { dst := some 55, op := Op.move (Operand.tmp 9), type := 3, pos := "law.go:186", after := #[], guard := none }) (v := .int .i64 (i : Int)) rfl (by kernel_rfl) (by kernel_rfl) (by kernel_rfl) (fun _ _ _ h => h) (Or.inl ⟨by rfl, fun wx hS => ?_⟩) hH ?_
        · go_simp
        simp only [Act.put, List.setIfInBounds_toArray, List.set_cons_zero, List.set_cons_succ]
        refine wpAnyH_take (i := 8) (oi := { dst := some 56, op := Op.indexAddr 22 (Operand.tmp 54) (Operand.tmp 55), type := 0, pos := "law.go:186", after := #[{ on := 6, ground := Ground.data }, { on := 7, ground := Ground.data }], guard := none }) (v := .pointer (some ⟨tb, tO + i, none⟩)) rfl (by kernel_rfl) (by kernel_rfl) (by kernel_rfl) (fun _ _ _ h => h) (Or.inl ⟨by rfl, fun wx hS => ?_⟩) hH ?_
        · go_simp
        simp only [Act.put, List.setIfInBounds_toArray, List.set_cons_zero, List.set_cons_succ]
        refine wpAnyH_take (i := 9) (oi := { dst := some 57, op := Op.load 9 (Operand.tmp 56), type := 9, pos := "law.go:186", after := #[{ on := 8, ground := Ground.data }], guard := none }) (v := .string (str T)) rfl (by kernel_rfl) (by kernel_rfl) (by kernel_rfl) (fun _ _ _ h => h) (Or.inl ⟨by rfl, fun wx hS => ?_⟩) hH ?_
        · have e1 := CT.out wx hS; go_simp
        simp only [Act.put, List.setIfInBounds_toArray, List.set_cons_zero, List.set_cons_succ]
        refine wpAnyH_take (i := 10) (oi := { dst := some 58, op := Op.call { callee := Callee.builtin Builtin.len, args := #[Operand.tmp 57], argTypes := #[9] }, type := 3, pos := "law.go:186", after := #[{ on := 9, ground := Ground.data }], guard := none }) (v := .int .i64 (T.length : Int)) rfl (by kernel_rfl) (by kernel_rfl) (by kernel_rfl) (fun _ _ _ h => h) (Or.inl ⟨by rfl, fun wx hS => ?_⟩) hH ?_
        · have e1 := TSZ.out; go_simp
        simp only [Act.put, List.setIfInBounds_toArray, List.set_cons_zero, List.set_cons_succ]
        refine wpAnyH_take (i := 11) (oi := { dst := some 59, op := Op.call { callee := Callee.builtin Builtin.min, args := #[Operand.tmp 58, Operand.const (Value.int IntKind.i64 2000)], argTypes := #[3, 3] }, type := 3, pos := "law.go:186", after := #[{ on := 10, ground := Ground.data }], guard := none }) (v := .int .i64 (q : Int)) rfl (by kernel_rfl) (by kernel_rfl) (by kernel_rfl) (fun _ _ _ h => h) (Or.inl ⟨by rfl, fun wx hS => ?_⟩) hH ?_
        · go_simp; have e1 := HMIN.out; omega
        simp only [Act.put, List.setIfInBounds_toArray, List.set_cons_zero, List.set_cons_succ]
        refine wpAnyH_take (i := 12) (oi := { dst := some 60, op := Op.slice 9 (Operand.tmp 52) none (some (Operand.tmp 59)) none, type := 9, pos := "law.go:186", after := #[{ on := 4, ground := Ground.data }, { on := 11, ground := Ground.data }], guard := none }) (v := .string (str y)) rfl (by kernel_rfl) (by kernel_rfl) (by kernel_rfl) (fun _ _ _ h => h) (Or.inl ⟨by rfl, fun wx hS => ?_⟩) hH ?_
        · have e1 := TSZ.out; have e2 := EXT.out; have e3 : q ≤ T.length := (by have := HQL.out; omega); go_simp
        simp only [Act.put, List.setIfInBounds_toArray, List.set_cons_zero, List.set_cons_succ]
        refine wpAnyH_ready (rs := [13]) (by kernel_rfl) (by simp) ?_
        refine AllReadyH.cons (o := { dst := some 10, op := Op.assign (Operand.tmp 60), type := 9, pos := "law.go:186", after := #[{ on := 12, ground := Ground.data }, { on := 0, ground := Ground.phase }, { on := 1, ground := Ground.phase }, { on := 2, ground := Ground.phase }, { on := 3, ground := Ground.phase }, { on := 4, ground := Ground.phase }, { on := 5, ground := Ground.phase }, { on := 6, ground := Ground.phase }, { on := 7, ground := Ground.phase }, { on := 8, ground := Ground.phase }, { on := 9, ground := Ground.phase }, { on := 10, ground := Ground.phase }, { on := 11, ground := Ground.phase }, { on := 12, ground := Ground.phase }], guard := none }) rfl (fun KK hKK => ?_) AllReadyH.nil
        go_simp
        refine hKK.out _ _ hH (fun hH => ?_)
        clear hKK KK
        try simp only [Act.put, List.setIfInBounds_toArray, List.set_cons_zero, List.set_cons_succ]
        refine wpAnyH_done (by kernel_rfl) ?_ _
        refine NoPanic.normal ?_
        have HS0 := Lib.hid (HS.out.below k0)
        have H40 := Lib.hid (H4.out.below k0)
        have HB0 := Lib.hid hH
        clear HS H4 HB hH k0 HMIN HQL EXT TSZ C0 CT q1 q2 p0
        have hi26 : i < 26 := by omega
        have bn := byte_nm hi26
        obtain ⟨bt, hbt⟩ : ∃ bt, bt = UInt8.ofNat (97 + i) := ⟨_, rfl⟩
        have HNM : Hid (nm i = [bt]) := Lib.hid (by rw [hbt]; rfl)
        rw [← hbt] at bn
        clear hbt hi26
        have LB := Lib.hid (blockIs.new x0 [.int .u8 (V bt)] 5)
        have LK := Lib.hid (alloc_below x0 (.cells #[.int .u8 (V bt)] 5 (0, 0)))
        have cv : (convert 34 9 (.slice (some ⟨x0.heap.size, 0, none⟩) 1 1)).run Try.prog (x0.alloc (.cells #[.int .u8 (V bt)] 5 (0, 0))) = .ok (.string (str (nm i))) (x0.alloc (.cells #[.int .u8 (V bt)] 5 (0, 0))) := by
          rw [HNM.out]
          exact conv_string _ (some ⟨x0.heap.size, 0, none⟩) [bt] 1 (.inr ⟨_, _, rfl, fun j hj => by
            obtain rfl : j = 0 := by simp at hj; exact hj
            rw [LB.out.cell]; rfl⟩)
        have hcat : (⟨#[110]⟩ : ByteArray) ++ str (nm i) = str (pn i) := cat_str 110 (nm i)
        have hsn : (str (nm i)).size = 1 := by rw [str_size]; rfl
        go_upto_region 11 with fail
        go_cut [11] (fun v wx => v = .string (str (pn i)) ∧ Hid (Below x0.heap.size x0 wx))
        case first =>
          go_wp2_with fail
          go_meet
          case rel => exact ⟨rfl, LK⟩
        obtain ⟨rfl, HK⟩ := hcut
        rename World => x1
        clear LB LK cv bn HNM hcat hsn
        have HS1 := Lib.hid (HS0.out.below HK.out)
        have H41 := Lib.hid (H40.out.below HK.out)
        have HB1 := Lib.hid (HB0.out.trans (HK.out.mono HB0.out.size))
        clear HS0 H40 HB0 HK
        have rc := run_cW x1 y
        have kb1 := cW_below x1 y
        have kb2 := alloc_below (cW x1 y) (.cells #[.slice (some ⟨x1.heap.size, 0, none⟩) y.length (cC x1 y)] 34 (0, 0))
        have IN := bytesIn.below (cW_in x1 y) kb2 (Nat.le_refl _)
        have VN := vals_lit (cW x1 y) [.slice (some ⟨x1.heap.size, 0, none⟩) y.length (cC x1 y)] 34
        have kb3 := kb1.trans (kb2.mono kb1.size)
        have HS2 := Lib.hid (HS1.out.below kb3)
        have H42 := Lib.hid (H41.out.below kb3)
        have HB2 := Lib.hid (HB1.out.trans (kb3.mono HB1.out.size))
        have hkl := HS1.out.is.lt
        have hz2 := HO.out.size
        have hl2 := HO.out.len
        have hf2 := HO.out.few
        have P := put_any w1.heap.size k m (sK L t off lf) (pn i) (some ⟨(cW x1 y).heap.size, 0, none⟩) [(some ⟨x1.heap.size, 0, none⟩, cC x1 y, y)] 1 _ HS2.out (sK_ok L t off lf (by omega) (by omega)) (by simp [pn, nm]) (by simp [partsJoin]; omega) (by simp) (by show sizeSum L ≤ _; omega) (by show L.length ≤ _; omega) (parts_one HS2.out IN VN (by omega) (by have := cW_size x1 y; omega))
        rw [show partsJoin [(some (⟨x1.heap.size, 0, none⟩ : Addr), cC x1 y, y)] = y by simp [partsJoin], show ([(some (⟨x1.heap.size, 0, none⟩ : Addr), cC x1 y, y)] : List Part).length = 1 from rfl] at P
        clear IN VN kb1 kb2 kb3 hkl hz2 hl2 hf2 HS1 H41 HB1
        rcases HO.out.put_is hi y hyl t off lf with ⟨e1, e2⟩ | ⟨rfl, h0, e1, e2⟩
        · rw [e1, e2] at P
          have PP := Lib.hid P
          clear P e1 e2
          go_upto_region 12 with fail
          go_wp2_with fail
          with_reducible refine PP.out.mono ?_
          rintro e x3 ⟨rfl, m3, h3, s3⟩
          have H43 := H42.out.step HS2.out s3
          have HB3 := Lib.hid (HB2.out.trans (HS2.out.step_below s3))
          have KP : KpAt w1.heap.size k _ _ _ _ i x3 := ⟨m3, L, A, Xn, K, N, t, lf, true, HO.out, ht3, hlf, h3, H43⟩
          have HKP := Lib.hid KP
          clear KP h3 s3 PP rc
          go_wp2_with fail
          go_meet
          case rel => exact ⟨i, hi20, HKP.out, HB3⟩
        · rw [e1, e2] at P
          have PP := Lib.hid P
          clear P e1 e2
          obtain ⟨ok1, hg1⟩ := HO.out.put hi y hyl
          have OK1 := Lib.hid ok1
          have HG1 := Lib.hid hg1
          clear ok1 hg1
          go_upto_region 12 with fail
          go_wp2_with fail
          with_reducible refine PP.out.mono ?_
          rintro e x3 ⟨rfl, m3, h3, s3⟩
          have HS3 := Lib.hid h3
          have H43 := Lib.hid (H42.out.step HS2.out s3)
          have HB3 := Lib.hid (HB2.out.trans (HS2.out.step_below s3))
          clear h3 s3 PP rc HS2 H42 HB2
          have HAL : Hid (A.length ≤ 100 ∧ Xn.length ≤ 100 ∧ K.length ≤ 100 ∧ N.length ≤ 100) := Lib.hid (by have := HO.out.few; have := HO.out.lenA; have := HO.out.lenK; have := HO.out.fewK; omega)
          go_upto_region 13 with fail
          have kb := alloc_below x3 (.cells #[.string (str y)] 9 (0, 0))
          have HSa := Lib.hid (HS3.out.below kb)
          have H4a := Lib.hid (H43.out.below kb)
          have HBa := Lib.hid (HB3.out.trans (kb.mono HB3.out.size))
          have SC1 := Lib.hid (str_cell x3 y)
          clear kb HS3 H43 HB3
          go_wp2_with (at_builtin; refine append_one_at rfl _ _ rfl w1.heap.size _ A rfl H4a.out.a x3.heap.size y rfl SC1.out (by have := HAL.out.1; omega) HBa.out.size ?_)
          intro v6 x4 a1 a2 a3
          have HS3 := Lib.hid (HSa.out.grown_str H4a.out.a a2.out)
          have HB3 := Lib.hid (HBa.out.trans (H4a.out.a.grew HBa.out.size a2.out))
          have H43 := Lib.hid (H4a.out.all a1.out a2.out (a3.out.imp id (fun e => e.trans (by simp))))
          clear a1 a2 a3 HSa H4a HBa SC1
          have kb := alloc_below x4 (.cells #[.string (str (pn i))] 9 (0, 0))
          have HSa := Lib.hid (HS3.out.below kb)
          have H4a := Lib.hid (H43.out.below kb)
          have HBa := Lib.hid (HB3.out.trans (kb.mono HB3.out.size))
          have SC2 := Lib.hid (str_cell x4 (pn i))
          clear kb HS3 H43 HB3
          go_wp2_with (at_builtin; refine append_one_at rfl _ _ rfl w1.heap.size _ Xn rfl H4a.out.x x4.heap.size (pn i) rfl SC2.out (by have := HAL.out.2.1; omega) HBa.out.size ?_)
          intro v8 x5 a1 a2 a3
          have HS3 := Lib.hid (HSa.out.grown_str H4a.out.x a2.out)
          have HB3 := Lib.hid (HBa.out.trans (H4a.out.x.grew HBa.out.size a2.out))
          have H43 := Lib.hid (H4a.out.last a1.out a2.out (a3.out.imp id (fun e => e.trans (by simp))))
          clear a1 a2 a3 HSa H4a HBa SC2
          have hcf : x5.cell? ⟨w.heap.size, 1, none⟩ = some (.slice fa Fs.length fc) := by rw [(NX.out _ HB3.out).cell]; exact K1.out
          obtain ⟨sure, hsu⟩ : ∃ sure : Bool, sure = (decide (i < Fs.length) && Fs.getD i false) := ⟨_, rfl⟩
          go_upto_region 14 with fail
          go_cut [93] (fun v wx => v = .bool sure ∧ x5 = wx)
          case first =>
            by_cases q1 : i < Fs.length
            · have qa : (i : Int) < (Fs.length : Int) := by omega
              have p0 : (0 : Int) ≤ (i : Int) := by omega
              obtain ⟨sb, sO, rfl, hck⟩ := VF.out.at i (by rw [fvals_length]; exact q1)
              obtain ⟨bb, hbb⟩ : ∃ bb, bb = Fs.getD i false := ⟨_, rfl⟩
              have cb : x5.cell? ⟨sb, sO + i, none⟩ = some (.bool bb) := by
                rw [HB3.out.cell (block_lt_of_cell hck), hck, hbb]
                simp [fvals, q1]
              have ES : Hid (sure = bb) := Lib.hid (by rw [hsu, hbb]; simp only [q1, decide_true, Bool.true_and])
              clear hck hbb hsu q1
              go_wp2_with fail
              go_meet
              case rel => exact ⟨by rw [ES.out], rfl⟩
            · have qa : ¬ (i : Int) < (Fs.length : Int) := by omega
              have ES : Hid (sure = false) := Lib.hid (by rw [hsu]; simp only [q1, decide_false, Bool.false_and])
              clear hsu q1
              go_wp2_with fail
              go_meet
              case rel => exact ⟨by rw [ES.out], rfl⟩
          obtain ⟨rfl, rfl⟩ := hcut
          clear hcf hsu
          cases sure with
          | false =>
            have HKP : Hid (KpAt w1.heap.size k _ _ _ _ (i + 1) x5) := Lib.hid ⟨m3, _, _, _, _, _, t + 1, lf - 1, false, OK1.out, by omega, by omega, HS3.out, H43.out⟩
            clear HS3 H43
            go_wp2_with fail
            go_roundw
            case rel => exact ⟨i + 1, by omega, by omega, by go_num, HKP.out, HB3⟩
            case measure => simp [intOf]; omega
          | true =>
            have kb := alloc_below x5 (.cells #[.string (str (pn i))] 9 (0, 0))
            have HSa := Lib.hid (HS3.out.below kb)
            have H4a := Lib.hid (H43.out.below kb)
            have HBa := Lib.hid (HB3.out.trans (kb.mono HB3.out.size))
            have SV := vals_lit x5 [.string (str (pn i))] 9
            have hgk : x5.heap.size ≠ k := Nat.ne_of_gt HS3.out.is.lt
            have P := sync_any w1.heap.size k m3 (sK (L ++ [(pn i, (y, false))]) (t + 1) false (lf - 1)) (some ⟨x5.heap.size, 0, none⟩) [pn i] 1 _ HSa.out (sK_ok _ _ _ _ (by omega) (by omega)) (by simp) (fun m' w' hs => HSa.out.keeps_vals hs SV (fun p e => by cases e; exact hgk))
            rw [show ([pn i] : List (List UInt8)).length = 1 from rfl] at P
            clear SV kb HS3 H43 HB3
            rcases sync_is HG1.out (t + 1) (lf - 1) with ⟨-, e1, e2⟩ | ⟨h1, e1, e2⟩
            · rw [e1, e2] at P
              have PP := Lib.hid P
              clear P e1 e2
              go_upto_region 15 with fail
              go_wp2_with fail
              with_reducible refine PP.out.mono ?_
              rintro e x6 ⟨rfl, m4, h3, s3⟩
              have HKP : Hid (KpAt w1.heap.size k _ _ _ _ (i + 1) x6) := Lib.hid ⟨m4, _, _, _, _, _, t + 1, lf - 1, true, OK1.out, by omega, by omega, h3, H4a.out.step HSa.out s3⟩
              have HB4 := Lib.hid (HBa.out.trans (HSa.out.step_below s3))
              clear h3 s3 PP HSa H4a HBa
              go_wp2_with fail
              go_meet
              case rel => exact ⟨i + 1, by omega, HKP.out, HB4⟩
            · rw [e1, e2] at P
              have PP := Lib.hid P
              clear P e1 e2
              obtain ⟨ok2, hg2⟩ := OK1.out.sync HG1.out
              have hnr := not_key HO.out hi y y
              have hrf : has (put (L ++ [(pn i, (y, false))]) (pn i) (y, true)) (rn i) = false := by rw [Bool.eq_false_iff]; intro e; exact hnr ((has_iff _ _).1 e)
              obtain ⟨L2, hL2⟩ : ∃ L2, L2 = put (L ++ [(pn i, (y, false))]) (pn i) (y, true) := ⟨_, rfl⟩
              rw [← hL2] at PP ok2 hg2 hnr hrf
              clear hL2
              go_upto_region 15 with fail
              go_wp2_with fail
              with_reducible refine PP.out.mono ?_
              rintro e x6 ⟨rfl, m4, h3, s3⟩
              have HS3 := Lib.hid h3
              have H43 := Lib.hid (H4a.out.step HSa.out s3)
              have HB3 := Lib.hid (HBa.out.trans (HSa.out.step_below s3))
              clear h3 s3 PP HSa H4a HBa
              obtain ⟨E, L3, t3, lf3, off3, nt, hE, hS, hcs, ok3, ht33, hlf3⟩ : ∃ (E : Int) (L3 : List Ent) (t3 lf3 : Nat) (off3 : Bool) (nt : List UInt8), renamedE (sK L2 (t + 1 + 1) false (lf - 1 - 1)) (pn i) (rn i) = E ∧ renamedS (sK L2 (t + 1 + 1) false (lf - 1 - 1)) (pn i) (rn i) = sK L3 t3 off3 lf3 ∧
                  ((E = 9 ∧ nt = pn i) ∨ (E = 0 ∧ nt = rn i)) ∧ KpOk L3 (A ++ [y]) (Xn ++ [nt]) (K ++ [y]) (N ++ [nt]) (i + 1) ∧ t3 ≤ t + 3 ∧ lf3 ≤ 60 := by
                rcases rename_is hg2 hrf (rn_is i hi) (t + 1 + 1) (lf - 1 - 1) with ⟨e1, e2⟩ | ⟨h2, e1, e2⟩
                · exact ⟨9, L2, _, _, true, pn i, e1, e2, .inl ⟨rfl, rfl⟩, HO.out.done ok2 hg2, by omega, by omega⟩
                · exact ⟨0, _, _, _, false, rn i, e1, e2, .inr ⟨rfl, rfl⟩, HO.out.renamed hi ok2 hg2 hnr, by omega, by omega⟩
              have RN := Lib.hid (rename_any w1.heap.size k m4 (sK L2 (t + 1 + 1) false (lf - 1 - 1)) (pn i) (rn i) x6 HS3.out (sK_ok _ _ _ _ (by omega) (by omega)) (by simp [rn, pn, nm]))
              rw [hE, hS] at RN
              have OK3 := Lib.hid ok3
              have HCS := Lib.hid hcs
              clear hE hS ok3 hcs ok2 hg2 hnr hrf OK1 HG1
              have hcat : (⟨#[114]⟩ : ByteArray) ++ str (pn i) = str (rn i) := cat_str 114 (pn i)
              have hsn : (str (pn i)).size = 2 := by rw [str_size]; rfl
              go_upto_region 17 with fail
              go_wp2_with fail
              with_reducible refine RN.out.mono ?_
              rintro e x7 ⟨rfl, m5, h3, s3⟩
              have HS4 := Lib.hid h3
              have H44 := Lib.hid (H43.out.step HS3.out s3)
              have HB4 := Lib.hid (HB3.out.trans (HS3.out.step_below s3))
              clear h3 s3 RN HS3 H43 HB3
              go_upto_if 105 with fail
              go_cut [12] (fun v wx => v = .string (str nt) ∧ x7 = wx)
              case first =>
                rcases HCS.out with ⟨rfl, h2⟩ | ⟨rfl, h2⟩
                · have EN := Lib.hid h2
                  clear h2 HCS
                  go_wp2_with fail
                  go_meet
                  case rel => exact ⟨by rw [EN.out], rfl⟩
                · have EN := Lib.hid h2
                  clear h2 HCS
                  go_wp2_with fail
                  go_meet
                  case rel => exact ⟨by rw [EN.out], rfl⟩
              obtain ⟨rfl, rfl⟩ := hcut
              clear HCS hcat hsn
              go_upto_region 19 with fail
              have kb := alloc_below x7 (.cells #[.string (str nt)] 9 (0, 0))
              have HSa := Lib.hid (HS4.out.below kb)
              have H4a := Lib.hid (H44.out.below kb)
              have HBa := Lib.hid (HB4.out.trans (kb.mono HB4.out.size))
              have SC3 := Lib.hid (str_cell x7 nt)
              clear kb HS4 H44 HB4
              go_wp2_with (at_builtin; refine append_one_at rfl _ _ rfl w1.heap.size _ N rfl H4a.out.n x7.heap.size nt rfl SC3.out (by have := HAL.out.2.2.2; omega) HBa.out.size ?_)
              intro v7 x8 a1 a2 a3
              have HS4 := Lib.hid (HSa.out.grown_str H4a.out.n a2.out)
              have HB4 := Lib.hid (HBa.out.trans (H4a.out.n.grew HBa.out.size a2.out))
              have H44 := Lib.hid (H4a.out.names a1.out a2.out (a3.out.imp id (fun e => e.trans (by simp))))
              clear a1 a2 a3 HSa H4a HBa SC3
              have kb := alloc_below x8 (.cells #[.string (str y)] 9 (0, 0))
              have HSa := Lib.hid (HS4.out.below kb)
              have H4a := Lib.hid (H44.out.below kb)
              have HBa := Lib.hid (HB4.out.trans (kb.mono HB4.out.size))
              have SC4 := Lib.hid (str_cell x8 y)
              clear kb HS4 H44 HB4
              go_wp2_with (at_builtin; refine append_one_at rfl _ _ rfl w1.heap.size _ K rfl H4a.out.k x8.heap.size y rfl SC4.out (by have := HAL.out.2.2.1; omega) HBa.out.size ?_)
              intro v5 x9 a1 a2 a3
              have HS4 := Lib.hid (HSa.out.grown_str H4a.out.k a2.out)
              have HB4 := Lib.hid (HBa.out.trans (H4a.out.k.grew HBa.out.size a2.out))
              have H44 := Lib.hid (H4a.out.kept a1.out a2.out (a3.out.imp id (fun e => e.trans (by simp))))
              clear a1 a2 a3 HSa H4a HBa SC4
              obtain ⟨lg, lc, hv8⟩ := row_some H44.out.x (by simp [svals])
              obtain ⟨ln, hln⟩ : ∃ ln, ln = Xn.length + 1 := ⟨_, rfl⟩
              rw [svals_length, show (Xn ++ [pn i]).length = ln by rw [hln]; simp] at hv8
              subst hv8
              obtain ⟨hs1, hs0, hs2, hs3, hs4⟩ := last_facts ln Xn.length (Nat.le_trans HAL.out.2.1 (by decide)) hln
              have HLN := Lib.hid hln
              clear hln
              go_upto_region 20 with fail
              go_wp2_with (refine store_str rfl _ _ rfl w1.heap.size lg Xn.length ln lc nt (Xn ++ [pn i]) (by first | rfl | (show Value.pointer (some ⟨lg, 0 + Xn.length, none⟩) = _; rw [Nat.zero_add])) rfl H44.out.x (by simp) ?_)
              intro x10 a1 a2
              have a1 := a1.out
              have HS5 := Lib.hid (HS4.out.grown_str H44.out.x a2.out)
              have HB5 := Lib.hid (HB4.out.trans (H44.out.x.grew HB4.out.size a2.out))
              have H45 := Lib.hid (H44.out.last a1 a2.out (.inl rfl))
              clear a1 a2 HS4 HB4 H44
              have HKP : Hid (KpAt w1.heap.size k _ _ _ _ (i + 1) x10) := Lib.hid ⟨m5, L3, _, _, _, _, t3, lf3, off3, OK3.out, by omega, by omega, HS5.out, H45.out⟩
              clear HS5 H45
              go_wp2_with fail
              go_roundw
              case rel => exact ⟨i + 1, by omega, by omega, by go_num, HKP.out, HB5⟩
              case measure => simp [intOf]; omega
      · have HKP : Hid (KpAt w1.heap.size k _ _ _ _ i wr) := Lib.hid ⟨m, L, A, Xn, K, N, t, lf, off, HO.out, ht3, hlf, HS.out, H4.out⟩
        clear HO HS H4
        by_cases h8 : i < 20
        · have q2 : (i : Int) < 20 := by omega
          have q1 : ¬ (i : Int) < (Ts.length : Int) := by omega
          go_wp2_with fail
          go_meet
          case rel => exact ⟨i, hi20, HKP.out, HB⟩
        · have q2 : ¬ (i : Int) < 20 := by omega
          by_cases hT : i < Ts.length
          · have q1 : (i : Int) < (Ts.length : Int) := by omega
            go_wp2_with fail
            go_meet
            case rel => exact ⟨i, hi20, HKP.out, HB⟩
          · have q1 : ¬ (i : Int) < (Ts.length : Int) := by omega
            go_wp2_with fail
            go_meet
            case rel => exact ⟨i, hi20, HKP.out, HB⟩
  obtain ⟨i, hi20, ⟨m, L, A, Xn, K, N, t, lf, off, ho, ht3, hlf, hs, hf4⟩, HB⟩ := hcut
  rename World => x0
  have HO := Lib.hid ho
  have HS := Lib.hid hs
  have H4 := Lib.hid hf4
  clear ho hs hf4
  have c3 : x0.cell? ⟨w.heap.size, 3, none⟩ = some (.slice pa Ps.length pc) := by rw [(NX.out _ HB.out).cell]; exact K3.out
  have HLN : Hid (L.length ≤ 100 ∧ sizeSum L ≤ 100000) := Lib.hid (by have := HO.out.size; have := HO.out.len; have := HO.out.few; omega)
  have CR := Lib.hid (crash_any w1.heap.size k m (sK L t off lf) pa Ps pc x0 HS.out (by show L.length ≤ _; have := HLN.out.1; omega) (small_of (by have := HLN.out.2; show sizeSum L ≤ _; omega)) PL.out.1 PL.out.2.1 PL.out.2.2.1 PL.out.2.2.2 (fun m' w' hst => by
    have h := VP.out.below HB.out (Nat.le_refl _)
    rcases h with h | ⟨b, o, rfl, hc⟩
    · exact .inl h
    · refine .inr ⟨b, o, rfl, fun j hj => ?_⟩
      have e := hc j hj
      rw [List.getElem?_eq_getElem hj] at e ⊢
      rcases VP.out with hv | ⟨b2, o2, e2, hc2⟩
      · rw [hv] at hj; exact absurd hj (Nat.not_lt_zero _)
      · cases e2
        have hlt := hc2 j hj
        rw [List.getElem?_eq_getElem hj] at hlt
        have h5 : b < w1.heap.size := block_lt_of_cell hlt
        exact HS.out.keeps_cell hst e (by have h6 := HS.out.lo; show b ≠ k; omega)))
  rw [crashed_K] at CR
  obtain ⟨hsure, hall, hlen⟩ := HO.out.crashed Ps
  have SU := Lib.hid hsure
  have AL := Lib.hid hall
  have LE := Lib.hid hlen
  have HLL : Hid (A.length = Xn.length ∧ K.length = N.length ∧ A.length ≤ 20 ∧ K.length ≤ A.length) := Lib.hid ⟨HO.out.lenA, HO.out.lenK, Nat.le_trans HO.out.few hi20, HO.out.fewK⟩
  clear hsure hall hlen
  generalize crashGo (namesOf L []) Ps L = L2 at *
  go_upto_region 21 with fail
  go_wp2_with fail
  with_reducible refine CR.out.mono ?_
  rintro e x1 ⟨rfl, m2, h2, s2⟩
  have HS1 := Lib.hid h2
  have H41 := Lib.hid (H4.out.step HS.out s2)
  have HB1 := Lib.hid (HB.out.trans (HS.out.step_below s2))
  clear h2 s2 CR HS H4 HB c3 HO
  obtain ⟨a7, c7, h7, -, h7v, -⟩ := H41.out.n.vals
  obtain ⟨a5, c5, h5, -, h5v, -⟩ := H41.out.k.vals
  obtain ⟨a8, c8, h8, -, h8v, -⟩ := H41.out.x.vals
  obtain ⟨a6, c6, h6, -, h6v, -⟩ := H41.out.a.vals
  rw [svals_length] at h5 h6 h7 h8
  subst h5 h6 h7 h8
  have V7 := Lib.hid h7v
  have V5 := Lib.hid h5v
  have V8 := Lib.hid h8v
  have V6 := Lib.hid h6v
  clear h5v h6v h7v h8v H41
  have wN := wrap_few N.length (by have := HLL.out; omega)
  have wX := wrap_few Xn.length (by have := HLL.out; omega)
  have wA := wrap_few A.length (by have := HLL.out; omega)
  go_upto_block 2 with fail
  go_cut [13] (fun v wx => Hid (Below x1.heap.size x1 wx))
  case first =>
    go_wp2_with fail
    go_loopw [13] (fun v wr => ∃ j : Nat, j ≤ N.length ∧ v = .int .i64 (j : Int) ∧ Hid (Below x1.heap.size x1 wr)) (fun v _ => N.length - (intOf v).toNat)
    case atStart => exact ⟨0, by omega, rfl, Lib.hid (Below.refl _ _)⟩
    case round =>
      obtain ⟨j, hj, rfl, HK⟩ := hrel
      by_cases hjn : j < N.length
      · have q1 : (j : Int) < (N.length : Int) := by omega
        have q2 : (j : Int) < (K.length : Int) := by have := HLL.out; omega
        have p0 : (0 : Int) ≤ (j : Int) := by omega
        have hjl : j < 20 := by have := HLL.out; omega
        have HS2 := Lib.hid (HS1.out.below HK.out)
        obtain ⟨nb, nO, rfl, hck⟩ := V7.out.at j (by rw [svals_length]; exact hjn)
        obtain ⟨qb, qO, rfl, hck2⟩ := V5.out.at j (by rw [svals_length]; have := HLL.out; omega)
        obtain ⟨y, hy⟩ : ∃ y, y = N.getD j [] := ⟨_, rfl⟩
        obtain ⟨a, ha⟩ : ∃ a, a = K.getD j [] := ⟨_, rfl⟩
        have cn : wr.cell? ⟨nb, nO + j, none⟩ = some (.string (str y)) := by
          rw [HK.out.cell (block_lt_of_cell hck), hck, hy]
          simp [svals, hjn]
        have ck : wr.cell? ⟨qb, qO + j, none⟩ = some (.string (str a)) := by
          have hja : j < K.length := by have := HLL.out; omega
          rw [HK.out.cell (block_lt_of_cell hck2), hck2, ha]
          simp [svals, hja]
        clear hck hck2
        obtain ⟨s1, s2⟩ := sure_is (SU.out j hjn) 1048576 (t : Nat)
        rw [← hy] at s1 s2
        rw [← ha] at s2
        obtain ⟨b, rfl⟩ : ∃ b, b = a := ⟨_, rfl⟩
        have GT := get_any w1.heap.size k m2 (onR 1048576 L2 (t : Nat)) y wr HS2.out
        unfold GotBytes at GT
        rw [s1, s2] at GT
        have GT := Lib.hid GT
        clear s1 s2 hy ha
        go_upto_region 25 with fail
        go_wp2_with fail
        with_reducible refine GT.out.mono ?_
        rintro e x2 ⟨ga, gc, rfl, hin, kb⟩
        have CK : Hid (∀ X, Below x2.heap.size x2 X → X.cell? ⟨qb, qO + j, none⟩ = some (.string (str b))) := Lib.hid (fun X hX => by
          have h0 := block_lt_of_cell ck
          rw [hX.cell (Nat.lt_of_lt_of_le h0 kb.size), kb.cell h0]
          exact ck)
        have SL : Hid (∀ X, Below x2.heap.size x2 X → bytesIn X ga b) := Lib.hid (fun X hX => hin.below hX (Nat.le_refl _))
        have HN := Lib.hid (HK.out.trans (kb.mono HK.out.size))
        clear hin kb cn ck GT HS2 HK
        go_upto_region 26 with fail
        refine wp_region_noPanic ?_
        refine wp_region_held_drew (S := fun w' => Below x2.heap.size x2 w') (by kernel_rfl) (below_drewN (Below.refl x2.heap.size x2) 1) (fun hH => ?_)
        generalize x2.drew = x3 at *
        refine wpAnyH_take (i := 0) (oi := { dst := some 141, op := Op.move (Operand.tmp 15), type := 28, pos := "law.go:207", after := #[], guard := none }) (v := .int .i64 0) rfl (by kernel_rfl) (by kernel_rfl) (by kernel_rfl) (fun _ _ _ h => h) (Or.inl ⟨by rfl, fun wx hS => ?_⟩) hH ?_
        · go_simp
        simp only [Act.put, List.setIfInBounds_toArray, List.set_cons_zero, List.set_cons_succ]
        refine wpAnyH_take (i := 1) (oi := { dst := some 142, op := Op.binOp BinOp.neq 28 (Operand.tmp 141) (Operand.const (Value.int IntKind.i64 0)) 28, type := 4, pos := "law.go:207", after := #[{ on := 0, ground := Ground.data }], guard := none }) (v := .bool false) rfl (by kernel_rfl) (by kernel_rfl) (by kernel_rfl) (fun _ _ _ h => h) (Or.inl ⟨by rfl, fun wx hS => ?_⟩) hH ?_
        · go_simp
        simp only [Act.put, List.setIfInBounds_toArray, List.set_cons_zero, List.set_cons_succ]
        refine wpAnyH_take (i := 2) (oi := { dst := some 143, op := Op.move (Operand.tmp 142), type := 4, pos := "law.go:207", after := #[{ on := 1, ground := Ground.data }], guard := none }) (v := .bool false) rfl (by kernel_rfl) (by kernel_rfl) (by kernel_rfl) (fun _ _ _ h => h) (Or.inl ⟨by rfl, fun wx hS => ?_⟩) hH ?_
        · go_simp
        simp only [Act.put, List.setIfInBounds_toArray, List.set_cons_zero, List.set_cons_succ]
        refine wpAnyH_take (i := 3) (oi := { dst := some 144, op := Op.move (Operand.tmp 14), type := 34, pos := "law.go:207", after := #[{ on := 2, ground := Ground.guard }], guard := some (2, false) }) (v := .slice ga b.length gc) rfl (by kernel_rfl) (by kernel_rfl) (by kernel_rfl) (fun _ _ _ h => h) (Or.inl ⟨by rfl, fun wx hS => ?_⟩) hH ?_
        · go_simp
        simp only [Act.put, List.setIfInBounds_toArray, List.set_cons_zero, List.set_cons_succ]
        refine wpAnyH_take (i := 4) (oi := { dst := some 145, op := Op.convert 34 9 (Operand.tmp 144), type := 9, pos := "law.go:207", after := #[{ on := 3, ground := Ground.data }, { on := 2, ground := Ground.guard }], guard := some (2, false) }) (v := .string (str b)) rfl (by kernel_rfl) (by kernel_rfl) (by kernel_rfl) (fun _ _ _ h => h) (Or.inl ⟨by rfl, fun wx hS => ?_⟩) hH ?_
        · have e1 := conv_string wx ga b gc (SL.out wx hS); go_simp
        simp only [Act.put, List.setIfInBounds_toArray, List.set_cons_zero, List.set_cons_succ]
        refine wpAnyH_take (i := 5) (oi := { dst := some 146, op := Op.move (Operand.tmp 5), type := 22, pos := "law.go:207", after := #[{ on := 2, ground := Ground.guard }], guard := some (2, false) }) (v := .slice (some ⟨qb, qO, none⟩) K.length c5) rfl (by kernel_rfl) (by kernel_rfl) (by kernel_rfl) (fun _ _ _ h => h) (Or.inl ⟨by rfl, fun wx hS => ?_⟩) hH ?_
        · go_simp
        simp only [Act.put, List.setIfInBounds_toArray, List.set_cons_zero, List.set_cons_succ]
        refine wpAnyH_take (i := 6) (oi := { dst := some 147, op := Op.move (Operand.tmp 13), type := 3, pos := "law.go:207", after := #[{ on := 2, ground := Ground.guard }], guard := some (2, false) }) (v := .int .i64 (j : Int)) rfl (by kernel_rfl) (by kernel_rfl) (by kernel_rfl) (fun _ _ _ h => h) (Or.inl ⟨by rfl, fun wx hS => ?_⟩) hH ?_
        · go_simp
        simp only [Act.put, List.setIfInBounds_toArray, List.set_cons_zero, List.set_cons_succ]
        refine wpAnyH_take (i := 7) (oi := { dst := some 148, op := Op.indexAddr 22 (Operand.tmp 146) (Operand.tmp 147), type := 0, pos := "law.go:207", after := #[{ on := 5, ground := Ground.data }, { on := 6, ground := Ground.data }, { on := 2, ground := Ground.guard }], guard := some (2, false) }) (v := .pointer (some ⟨qb, qO + j, none⟩)) rfl (by kernel_rfl) (by kernel_rfl) (by kernel_rfl) (fun _ _ _ h => h) (Or.inl ⟨by rfl, fun wx hS => ?_⟩) hH ?_
        · go_simp
        simp only [Act.put, List.setIfInBounds_toArray, List.set_cons_zero, List.set_cons_succ]
        refine wpAnyH_take (i := 8) (oi := { dst := some 149, op := Op.load 9 (Operand.tmp 148), type := 9, pos := "law.go:207", after := #[{ on := 7, ground := Ground.data }, { on := 2, ground := Ground.guard }], guard := some (2, false) }) (v := .string (str b)) rfl (by kernel_rfl) (by kernel_rfl) (by kernel_rfl) (fun _ _ _ h => h) (Or.inl ⟨by rfl, fun wx hS => ?_⟩) hH ?_
        · have e1 := CK.out wx hS; go_simp
        simp only [Act.put, List.setIfInBounds_toArray, List.set_cons_zero, List.set_cons_succ]
        refine wpAnyH_take (i := 9) (oi := { dst := some 150, op := Op.binOp BinOp.neq 9 (Operand.tmp 145) (Operand.tmp 149) 9, type := 4, pos := "law.go:207", after := #[{ on := 4, ground := Ground.data }, { on := 8, ground := Ground.data }, { on := 2, ground := Ground.guard }], guard := some (2, false) }) (v := .bool false) rfl (by kernel_rfl) (by kernel_rfl) (by kernel_rfl) (fun _ _ _ h => h) (Or.inl ⟨by rfl, fun wx hS => ?_⟩) hH ?_
        · go_simp
        simp only [Act.put, List.setIfInBounds_toArray, List.set_cons_zero, List.set_cons_succ]
        refine wpAnyH_take (i := 10) (oi := { dst := some 151, op := Op.pick (Operand.tmp 143) (Operand.const (Value.bool true)) (Operand.tmp 150), type := 4, pos := "law.go:207", after := #[{ on := 2, ground := Ground.data }, { on := 9, ground := Ground.data }], guard := none }) (v := .bool false) rfl (by kernel_rfl) (by kernel_rfl) (by kernel_rfl) (fun _ _ _ h => h) (Or.inl ⟨by rfl, fun wx hS => ?_⟩) hH ?_
        · go_simp
        simp only [Act.put, List.setIfInBounds_toArray, List.set_cons_zero, List.set_cons_succ]
        refine wpAnyH_done (by kernel_rfl) ?_ _
        refine NoPanic.normal ?_
        have HM := Lib.hid (HN.out.trans (hH.mono HN.out.size))
        clear hH HN CK SL
        go_wp2_with fail
        go_roundw
        case rel => exact ⟨j + 1, by omega, by go_num, HM⟩
        case measure => simp [intOf]; omega
      · have q1 : ¬ (j : Int) < (N.length : Int) := by omega
        go_wp2_with fail
        go_meet
        case rel => exact HK
  have HB2 := Lib.hid hcut.out
  rename World => y1
  clear hcut
  go_upto_block 4 with fail
  go_cut [16] (fun v wx => Hid (Below x1.heap.size x1 wx))
  case first =>
    go_wp2_with fail
    go_loopw [16] (fun v wr => ∃ j : Nat, j ≤ Xn.length ∧ v = .int .i64 (j : Int) ∧ Hid (Below x1.heap.size x1 wr)) (fun v _ => Xn.length - (intOf v).toNat)
    case atStart => exact ⟨0, by omega, rfl, HB2⟩
    case round =>
      obtain ⟨j, hj, rfl, HK⟩ := hrel
      by_cases hjn : j < Xn.length
      · have q1 : (j : Int) < (Xn.length : Int) := by omega
        have q2 : (j : Int) < (A.length : Int) := by have := HLL.out; omega
        have p0 : (0 : Int) ≤ (j : Int) := by omega
        have hjl : j < 20 := by have := HLL.out; omega
        have HS2 := Lib.hid (HS1.out.below HK.out)
        obtain ⟨nb, nO, rfl, hck⟩ := V8.out.at j (by rw [svals_length]; exact hjn)
        obtain ⟨qb, qO, rfl, hck2⟩ := V6.out.at j (by rw [svals_length]; have := HLL.out; omega)
        obtain ⟨y, hy⟩ : ∃ y, y = Xn.getD j [] := ⟨_, rfl⟩
        obtain ⟨a, ha⟩ : ∃ a, a = A.getD j [] := ⟨_, rfl⟩
        have cn : wr.cell? ⟨nb, nO + j, none⟩ = some (.string (str y)) := by
          rw [HK.out.cell (block_lt_of_cell hck), hck, hy]
          simp [svals, hjn]
        have ck : wr.cell? ⟨qb, qO + j, none⟩ = some (.string (str a)) := by
          have hja : j < A.length := by have := HLL.out; omega
          rw [HK.out.cell (block_lt_of_cell hck2), hck2, ha]
          simp [svals, hja]
        clear hck hck2
        have hlf := left_is (AL.out j hjn) 1048576 (t : Nat)
        rw [← hy, ← ha] at hlf
        have ASZ := Lib.hid (str_size a)
        clear hy ha
        rcases hlf with ⟨s1, s2⟩ | ⟨s1, jj, hjj, s2⟩
        · obtain ⟨b, hb⟩ : ∃ b : List UInt8, b = [] := ⟨_, rfl⟩
          rw [← hb] at s2
          have GT := get_any w1.heap.size k m2 (onR 1048576 L2 (t : Nat)) y wr HS2.out
          unfold GotBytes at GT
          rw [s1, s2] at GT
          have GT := Lib.hid GT
          clear s1 s2 hb
          go_upto_region 31 with fail
          go_wp2_with fail
          with_reducible refine GT.out.mono ?_
          rintro e x2 ⟨ga, gc, rfl, hin, kb⟩
          have CK : Hid (∀ X, Below x2.heap.size x2 X → X.cell? ⟨qb, qO + j, none⟩ = some (.string (str a))) := Lib.hid (fun X hX => by
            have h0 := block_lt_of_cell ck
            rw [hX.cell (Nat.lt_of_lt_of_le h0 kb.size), kb.cell h0]
            exact ck)
          have SL : Hid (∀ X, Below x2.heap.size x2 X → bytesIn X ga b) := Lib.hid (fun X hX => hin.below hX (Nat.le_refl _))
          have HN := Lib.hid (HK.out.trans (kb.mono HK.out.size))
          clear hin kb cn ck GT HS2 HK
          go_upto_region 32 with fail
          refine wp_region_noPanic ?_
          refine wp_region_held_drew (S := fun w' => Below x2.heap.size x2 w') (by kernel_rfl) (below_drewN (Below.refl x2.heap.size x2) 1) (fun hH => ?_)
          generalize x2.drew = x3 at *
          refine wpAnyH_take (i := 0) (oi := { dst := some 167, op := Op.move (Operand.tmp 18), type := 28, pos := "law.go:213", after := #[], guard := none }) (v := .int .i64 6) rfl (by kernel_rfl) (by kernel_rfl) (by kernel_rfl) (fun _ _ _ h => h) (Or.inl ⟨by rfl, fun wx hS => ?_⟩) hH ?_
          · go_simp
          simp only [Act.put, List.setIfInBounds_toArray, List.set_cons_zero, List.set_cons_succ]
          refine wpAnyH_take (i := 1) (oi := { dst := some 168, op := Op.binOp BinOp.neq 28 (Operand.tmp 167) (Operand.const (Value.int IntKind.i64 0)) 28, type := 4, pos := "law.go:213", after := #[{ on := 0, ground := Ground.data }], guard := none }) (v := .bool true) rfl (by kernel_rfl) (by kernel_rfl) (by kernel_rfl) (fun _ _ _ h => h) (Or.inl ⟨by rfl, fun wx hS => ?_⟩) hH ?_
          · go_simp
          simp only [Act.put, List.setIfInBounds_toArray, List.set_cons_zero, List.set_cons_succ]
          refine wpAnyH_take (i := 2) (oi := { dst := some 169, op := Op.move (Operand.tmp 168), type := 4, pos := "law.go:213", after := #[{ on := 1, ground := Ground.data }], guard := none }) (v := .bool true) rfl (by kernel_rfl) (by kernel_rfl) (by kernel_rfl) (fun _ _ _ h => h) (Or.inl ⟨by rfl, fun wx hS => ?_⟩) hH ?_
          · go_simp
          simp only [Act.put, List.setIfInBounds_toArray, List.set_cons_zero, List.set_cons_succ]
          refine wpAnyH_take (i := 3) (oi := { dst := some 170, op := Op.move (Operand.tmp 18), type := 28, pos := "law.go:213", after := #[{ on := 2, ground := Ground.guard }], guard := some (2, true) }) (v := .int .i64 6) rfl (by kernel_rfl) (by kernel_rfl) (by kernel_rfl) (fun _ _ _ h => h) (Or.inl ⟨by rfl, fun wx hS => ?_⟩) hH ?_
          · go_simp
          simp only [Act.put, List.setIfInBounds_toArray, List.set_cons_zero, List.set_cons_succ]
          refine wpAnyH_take (i := 4) (oi := { dst := some 171, op := Op.binOp BinOp.neq 28 (Operand.tmp 170) (Operand.const (Value.int IntKind.i64 6)) 28, type := 4, pos := "law.go:213", after := #[{ on := 3, ground := Ground.data }, { on := 2, ground := Ground.guard }], guard := some (2, true) }) (v := .bool false) rfl (by kernel_rfl) (by kernel_rfl) (by kernel_rfl) (fun _ _ _ h => h) (Or.inl ⟨by rfl, fun wx hS => ?_⟩) hH ?_
          · go_simp
          simp only [Act.put, List.setIfInBounds_toArray, List.set_cons_zero, List.set_cons_succ]
          refine wpAnyH_take (i := 5) (oi := { dst := some 172, op := Op.pick (Operand.tmp 169) (Operand.tmp 171) (Operand.const (Value.bool false)), type := 4, pos := "law.go:213", after := #[{ on := 2, ground := Ground.data }, { on := 4, ground := Ground.data }], guard := none }) (v := .bool false) rfl (by kernel_rfl) (by kernel_rfl) (by kernel_rfl) (fun _ _ _ h => h) (Or.inl ⟨by rfl, fun wx hS => ?_⟩) hH ?_
          · go_simp
          simp only [Act.put, List.setIfInBounds_toArray, List.set_cons_zero, List.set_cons_succ]
          refine wpAnyH_take (i := 6) (oi := { dst := some 173, op := Op.move (Operand.tmp 172), type := 4, pos := "law.go:213", after := #[{ on := 5, ground := Ground.data }, { on := 2, ground := Ground.chain }], guard := none }) (v := .bool false) rfl (by kernel_rfl) (by kernel_rfl) (by kernel_rfl) (fun _ _ _ h => h) (Or.inl ⟨by rfl, fun wx hS => ?_⟩) hH ?_
          · go_simp
          simp only [Act.put, List.setIfInBounds_toArray, List.set_cons_zero, List.set_cons_succ]
          refine wpAnyH_take (i := 7) (oi := { dst := some 174, op := Op.move (Operand.tmp 18), type := 28, pos := "law.go:213", after := #[{ on := 6, ground := Ground.guard }], guard := some (6, false) }) (v := .int .i64 6) rfl (by kernel_rfl) (by kernel_rfl) (by kernel_rfl) (fun _ _ _ h => h) (Or.inl ⟨by rfl, fun wx hS => ?_⟩) hH ?_
          · go_simp
          simp only [Act.put, List.setIfInBounds_toArray, List.set_cons_zero, List.set_cons_succ]
          refine wpAnyH_take (i := 8) (oi := { dst := some 175, op := Op.binOp BinOp.eql 28 (Operand.tmp 174) (Operand.const (Value.int IntKind.i64 0)) 28, type := 4, pos := "law.go:213", after := #[{ on := 7, ground := Ground.data }, { on := 6, ground := Ground.guard }], guard := some (6, false) }) (v := .bool false) rfl (by kernel_rfl) (by kernel_rfl) (by kernel_rfl) (fun _ _ _ h => h) (Or.inl ⟨by rfl, fun wx hS => ?_⟩) hH ?_
          · go_simp
          simp only [Act.put, List.setIfInBounds_toArray, List.set_cons_zero, List.set_cons_succ]
          refine wpAnyH_take (i := 9) (oi := { dst := some 176, op := Op.move (Operand.tmp 175), type := 4, pos := "law.go:213", after := #[{ on := 8, ground := Ground.data }, { on := 6, ground := Ground.chain }, { on := 6, ground := Ground.guard }], guard := some (6, false) }) (v := .bool false) rfl (by kernel_rfl) (by kernel_rfl) (by kernel_rfl) (fun _ _ _ h => h) (Or.inl ⟨by rfl, fun wx hS => ?_⟩) hH ?_
          · go_simp
          simp only [Act.put, List.setIfInBounds_toArray, List.set_cons_zero, List.set_cons_succ]
          refine wpAnyH_take (i := 10) (oi := { dst := some 177, op := Op.move (Operand.tmp 17), type := 34, pos := "law.go:213", after := #[{ on := 9, ground := Ground.guard }], guard := some (9, true) }) (v := undef) rfl (by kernel_rfl) (by kernel_rfl) (by kernel_rfl) (fun _ _ _ h => h) (Or.inr ⟨by rfl, rfl⟩) hH ?_
          simp only [Act.put, List.setIfInBounds_toArray, List.set_cons_zero, List.set_cons_succ]
          refine wpAnyH_take (i := 11) (oi := { dst := some 178, op := Op.call { callee := Callee.builtin Builtin.len, args := #[Operand.tmp 177], argTypes := #[34] }, type := 3, pos := "law.go:213", after := #[{ on := 10, ground := Ground.data }, { on := 9, ground := Ground.guard }], guard := some (9, true) }) (v := undef) rfl (by kernel_rfl) (by kernel_rfl) (by kernel_rfl) (fun _ _ _ h => h) (Or.inr ⟨by rfl, rfl⟩) hH ?_
          simp only [Act.put, List.setIfInBounds_toArray, List.set_cons_zero, List.set_cons_succ]
          refine wpAnyH_take (i := 12) (oi := { dst := some 179, op := Op.move (Operand.tmp 6), type := 22, pos := "law.go:213", after := #[{ on := 9, ground := Ground.guard }], guard := some (9, true) }) (v := undef) rfl (by kernel_rfl) (by kernel_rfl) (by kernel_rfl) (fun _ _ _ h => h) (Or.inr ⟨by rfl, rfl⟩) hH ?_
          simp only [Act.put, List.setIfInBounds_toArray, List.set_cons_zero, List.set_cons_succ]
          refine wpAnyH_take (i := 13) (oi := { dst := some 180, op := Op.move (Operand.tmp 16), type := 3, pos := "law.go:213", after := #[{ on := 9, ground := Ground.guard }], guard := some (9, true) }) (v := undef) rfl (by kernel_rfl) (by kernel_rfl) (by kernel_rfl) (fun _ _ _ h => h) (Or.inr ⟨by rfl, rfl⟩) hH ?_
          simp only [Act.put, List.setIfInBounds_toArray, List.set_cons_zero, List.set_cons_succ]
          refine wpAnyH_take (i := 14) (oi := { dst := some 181, op := Op.indexAddr 22 (Operand.tmp 179) (Operand.tmp 180), type := 0, pos := "law.go:213", after := #[{ on := 12, ground := Ground.data }, { on := 13, ground := Ground.data }, { on := 9, ground := Ground.guard }], guard := some (9, true) }) (v := undef) rfl (by kernel_rfl) (by kernel_rfl) (by kernel_rfl) (fun _ _ _ h => h) (Or.inr ⟨by rfl, rfl⟩) hH ?_
          simp only [Act.put, List.setIfInBounds_toArray, List.set_cons_zero, List.set_cons_succ]
          refine wpAnyH_take (i := 15) (oi := { dst := some 182, op := Op.load 9 (Operand.tmp 181), type := 9, pos := "law.go:213", after := #[{ on := 14, ground := Ground.data }, { on := 9, ground := Ground.guard }], guard := some (9, true) }) (v := undef) rfl (by kernel_rfl) (by kernel_rfl) (by kernel_rfl) (fun _ _ _ h => h) (Or.inr ⟨by rfl, rfl⟩) hH ?_
          simp only [Act.put, List.setIfInBounds_toArray, List.set_cons_zero, List.set_cons_succ]
          refine wpAnyH_take (i := 16) (oi := { dst := some 183, op := Op.call { callee := Callee.builtin Builtin.len, args := #[Operand.tmp 182], argTypes := #[9] }, type := 3, pos := "law.go:213", after := #[{ on := 15, ground := Ground.data }, { on := 9, ground := Ground.guard }], guard := some (9, true) }) (v := undef) rfl (by kernel_rfl) (by kernel_rfl) (by kernel_rfl) (fun _ _ _ h => h) (Or.inr ⟨by rfl, rfl⟩) hH ?_
          simp only [Act.put, List.setIfInBounds_toArray, List.set_cons_zero, List.set_cons_succ]
          refine wpAnyH_take (i := 17) (oi := { dst := some 184, op := Op.binOp BinOp.gtr 3 (Operand.tmp 178) (Operand.tmp 183) 3, type := 4, pos := "law.go:213", after := #[{ on := 11, ground := Ground.data }, { on := 16, ground := Ground.data }, { on := 9, ground := Ground.guard }], guard := some (9, true) }) (v := undef) rfl (by kernel_rfl) (by kernel_rfl) (by kernel_rfl) (fun _ _ _ h => h) (Or.inr ⟨by rfl, rfl⟩) hH ?_
          simp only [Act.put, List.setIfInBounds_toArray, List.set_cons_zero, List.set_cons_succ]
          refine wpAnyH_take (i := 18) (oi := { dst := some 185, op := Op.move (Operand.tmp 184), type := 4, pos := "law.go:213", after := #[{ on := 17, ground := Ground.data }, { on := 9, ground := Ground.chain }, { on := 9, ground := Ground.guard }], guard := some (9, true) }) (v := undef) rfl (by kernel_rfl) (by kernel_rfl) (by kernel_rfl) (fun _ _ _ h => h) (Or.inr ⟨by rfl, rfl⟩) hH ?_
          simp only [Act.put, List.setIfInBounds_toArray, List.set_cons_zero, List.set_cons_succ]
          refine wpAnyH_take (i := 19) (oi := { dst := some 186, op := Op.move (Operand.tmp 17), type := 34, pos := "law.go:213", after := #[{ on := 18, ground := Ground.guard }], guard := some (18, false) }) (v := undef) rfl (by kernel_rfl) (by kernel_rfl) (by kernel_rfl) (fun _ _ _ h => h) (Or.inr ⟨by rfl, rfl⟩) hH ?_
          simp only [Act.put, List.setIfInBounds_toArray, List.set_cons_zero, List.set_cons_succ]
          refine wpAnyH_take (i := 20) (oi := { dst := some 187, op := Op.convert 34 9 (Operand.tmp 186), type := 9, pos := "law.go:213", after := #[{ on := 19, ground := Ground.data }, { on := 18, ground := Ground.guard }], guard := some (18, false) }) (v := undef) rfl (by kernel_rfl) (by kernel_rfl) (by kernel_rfl) (fun _ _ _ h => h) (Or.inr ⟨by rfl, rfl⟩) hH ?_
          simp only [Act.put, List.setIfInBounds_toArray, List.set_cons_zero, List.set_cons_succ]
          refine wpAnyH_take (i := 21) (oi := { dst := some 188, op := Op.move (Operand.tmp 6), type := 22, pos := "law.go:213", after := #[{ on := 18, ground := Ground.guard }], guard := some (18, false) }) (v := undef) rfl (by kernel_rfl) (by kernel_rfl) (by kernel_rfl) (fun _ _ _ h => h) (Or.inr ⟨by rfl, rfl⟩) hH ?_
          simp only [Act.put, List.setIfInBounds_toArray, List.set_cons_zero, List.set_cons_succ]
          refine wpAnyH_take (i := 22) (oi := { dst := some 189, op := Op.move (Operand.tmp 16), type := 3, pos := "law.go:213", after := #[{ on := 18, ground := Ground.guard }], guard := some (18, false) }) (v := undef) rfl (by kernel_rfl) (by kernel_rfl) (by kernel_rfl) (fun _ _ _ h => h) (Or.inr ⟨by rfl, rfl⟩) hH ?_
          simp only [Act.put, List.setIfInBounds_toArray, List.set_cons_zero, List.set_cons_succ]
          refine wpAnyH_take (i := 23) (oi := { dst := some 190, op := Op.indexAddr 22 (Operand.tmp 188) (Operand.tmp 189), type := 0, pos := "law.go:213", after := #[{ on := 21, ground := Ground.data }, { on := 22, ground := Ground.data }, { on := 18, ground := Ground.guard }], guard := some (18, false) }) (v := undef) rfl (by kernel_rfl) (by kernel_rfl) (by kernel_rfl) (fun _ _ _ h => h) (Or.inr ⟨by rfl, rfl⟩) hH ?_
          simp only [Act.put, List.setIfInBounds_toArray, List.set_cons_zero, List.set_cons_succ]
          refine wpAnyH_take (i := 24) (oi := { dst := some 191, op := Op.load 9 (Operand.tmp 190), type := 9, pos := "law.go:213", after := #[{ on := 23, ground := Ground.data }, { on := 18, ground := Ground.guard }], guard := some (18, false) }) (v := undef) rfl (by kernel_rfl) (by kernel_rfl) (by kernel_rfl) (fun _ _ _ h => h) (Or.inr ⟨by rfl, rfl⟩) hH ?_
          simp only [Act.put, List.setIfInBounds_toArray, List.set_cons_zero, List.set_cons_succ]
          refine wpAnyH_take (i := 25) (oi := { dst := some 192, op := Op.move (Operand.tmp 17), type := 34, pos := "law.go:213", after := #[{ on := 18, ground := Ground.guard }], guard := some (18, false) }) (v := undef) rfl (by kernel_rfl) (by kernel_rfl) (by kernel_rfl) (fun _ _ _ h => h) (Or.inr ⟨by rfl, rfl⟩) hH ?_
          simp only [Act.put, List.setIfInBounds_toArray, List.set_cons_zero, List.set_cons_succ]
          refine wpAnyH_take (i := 26) (oi := { dst := some 193, op := Op.call { callee := Callee.builtin Builtin.len, args := #[Operand.tmp 192], argTypes := #[34] }, type := 3, pos := "law.go:213", after := #[{ on := 25, ground := Ground.data }, { on := 18, ground := Ground.guard }], guard := some (18, false) }) (v := undef) rfl (by kernel_rfl) (by kernel_rfl) (by kernel_rfl) (fun _ _ _ h => h) (Or.inr ⟨by rfl, rfl⟩) hH ?_
          simp only [Act.put, List.setIfInBounds_toArray, List.set_cons_zero, List.set_cons_succ]
          refine wpAnyH_take (i := 27) (oi := { dst := some 194, op := Op.slice 9 (Operand.tmp 191) none (some (Operand.tmp 193)) none, type := 9, pos := "law.go:213", after := #[{ on := 24, ground := Ground.data }, { on := 26, ground := Ground.data }, { on := 18, ground := Ground.guard }], guard := some (18, false) }) (v := undef) rfl (by kernel_rfl) (by kernel_rfl) (by kernel_rfl) (fun _ _ _ h => h) (Or.inr ⟨by rfl, rfl⟩) hH ?_
          simp only [Act.put, List.setIfInBounds_toArray, List.set_cons_zero, List.set_cons_succ]
          refine wpAnyH_take (i := 28) (oi := { dst := some 195, op := Op.binOp BinOp.neq 9 (Operand.tmp 187) (Operand.tmp 194) 9, type := 4, pos := "law.go:213", after := #[{ on := 20, ground := Ground.data }, { on := 27, ground := Ground.data }, { on := 18, ground := Ground.guard }], guard := some (18, false) }) (v := undef) rfl (by kernel_rfl) (by kernel_rfl) (by kernel_rfl) (fun _ _ _ h => h) (Or.inr ⟨by rfl, rfl⟩) hH ?_
          simp only [Act.put, List.setIfInBounds_toArray, List.set_cons_zero, List.set_cons_succ]
          refine wpAnyH_take (i := 29) (oi := { dst := some 196, op := Op.pick (Operand.tmp 185) (Operand.const (Value.bool true)) (Operand.tmp 195), type := 4, pos := "law.go:213", after := #[{ on := 18, ground := Ground.data }, { on := 28, ground := Ground.data }, { on := 9, ground := Ground.guard }], guard := some (9, true) }) (v := undef) rfl (by kernel_rfl) (by kernel_rfl) (by kernel_rfl) (fun _ _ _ h => h) (Or.inr ⟨by rfl, rfl⟩) hH ?_
          simp only [Act.put, List.setIfInBounds_toArray, List.set_cons_zero, List.set_cons_succ]
          refine wpAnyH_take (i := 30) (oi := { dst := some 197, op := Op.pick (Operand.tmp 176) (Operand.tmp 196) (Operand.const (Value.bool false)), type := 4, pos := "law.go:213", after := #[{ on := 9, ground := Ground.data }, { on := 29, ground := Ground.data }, { on := 6, ground := Ground.guard }], guard := some (6, false) }) (v := .bool false) rfl (by kernel_rfl) (by kernel_rfl) (by kernel_rfl) (fun _ _ _ h => h) (Or.inl ⟨by rfl, fun wx hS => ?_⟩) hH ?_
          · go_simp
          simp only [Act.put, List.setIfInBounds_toArray, List.set_cons_zero, List.set_cons_succ]
          refine wpAnyH_take (i := 31) (oi := { dst := some 198, op := Op.pick (Operand.tmp 173) (Operand.const (Value.bool true)) (Operand.tmp 197), type := 4, pos := "law.go:213", after := #[{ on := 6, ground := Ground.data }, { on := 30, ground := Ground.data }], guard := none }) (v := .bool false) rfl (by kernel_rfl) (by kernel_rfl) (by kernel_rfl) (fun _ _ _ h => h) (Or.inl ⟨by rfl, fun wx hS => ?_⟩) hH ?_
          · go_simp
          simp only [Act.put, List.setIfInBounds_toArray, List.set_cons_zero, List.set_cons_succ]
          refine wpAnyH_done (by kernel_rfl) ?_ _
          refine NoPanic.normal ?_
          have HM := Lib.hid (HN.out.trans (hH.mono HN.out.size))
          clear hH HN CK SL
          go_wp2_with fail
          go_roundw
          case rel => exact ⟨j + 1, by omega, by go_num, HM⟩
          case measure => simp [intOf]; omega
        · obtain ⟨b, hb⟩ : ∃ b, b = a.take jj := ⟨_, rfl⟩
          have hbl : b.length = jj := by rw [hb, List.length_take]; omega
          have CUT : Hid ((str a).extract 0 b.length = str b) := Lib.hid (by rw [hbl, hb, str_take])
          rw [← hb] at s2
          have g1 : ¬ (a.length : Int) < (b.length : Int) := by omega
          have g2 : b.length ≤ a.length := by omega
          have GT := get_any w1.heap.size k m2 (onR 1048576 L2 (t : Nat)) y wr HS2.out
          unfold GotBytes at GT
          rw [s1, s2] at GT
          have GT := Lib.hid GT
          clear s1 s2 hb hbl hjj
          go_upto_region 31 with fail
          go_wp2_with fail
          with_reducible refine GT.out.mono ?_
          rintro e x2 ⟨ga, gc, rfl, hin, kb⟩
          have CK : Hid (∀ X, Below x2.heap.size x2 X → X.cell? ⟨qb, qO + j, none⟩ = some (.string (str a))) := Lib.hid (fun X hX => by
            have h0 := block_lt_of_cell ck
            rw [hX.cell (Nat.lt_of_lt_of_le h0 kb.size), kb.cell h0]
            exact ck)
          have SL : Hid (∀ X, Below x2.heap.size x2 X → bytesIn X ga b) := Lib.hid (fun X hX => hin.below hX (Nat.le_refl _))
          have HN := Lib.hid (HK.out.trans (kb.mono HK.out.size))
          clear hin kb cn ck GT HS2 HK
          go_upto_region 32 with fail
          refine wp_region_noPanic ?_
          refine wp_region_held_drew (S := fun w' => Below x2.heap.size x2 w') (by kernel_rfl) (below_drewN (Below.refl x2.heap.size x2) 1) (fun hH => ?_)
          generalize x2.drew = x3 at *
          refine wpAnyH_take (i := 0) (oi := { dst := some 167, op := Op.move (Operand.tmp 18), type := 28, pos := "law.go:213", after := #[], guard := none }) (v := .int .i64 0) rfl (by kernel_rfl) (by kernel_rfl) (by kernel_rfl) (fun _ _ _ h => h) (Or.inl ⟨by rfl, fun wx hS => ?_⟩) hH ?_
          · go_simp
          simp only [Act.put, List.setIfInBounds_toArray, List.set_cons_zero, List.set_cons_succ]
          refine wpAnyH_take (i := 1) (oi := { dst := some 168, op := Op.binOp BinOp.neq 28 (Operand.tmp 167) (Operand.const (Value.int IntKind.i64 0)) 28, type := 4, pos := "law.go:213", after := #[{ on := 0, ground := Ground.data }], guard := none }) (v := .bool false) rfl (by kernel_rfl) (by kernel_rfl) (by kernel_rfl) (fun _ _ _ h => h) (Or.inl ⟨by rfl, fun wx hS => ?_⟩) hH ?_
          · go_simp
          simp only [Act.put, List.setIfInBounds_toArray, List.set_cons_zero, List.set_cons_succ]
          refine wpAnyH_take (i := 2) (oi := { dst := some 169, op := Op.move (Operand.tmp 168), type := 4, pos := "law.go:213", after := #[{ on := 1, ground := Ground.data }], guard := none }) (v := .bool false) rfl (by kernel_rfl) (by kernel_rfl) (by kernel_rfl) (fun _ _ _ h => h) (Or.inl ⟨by rfl, fun wx hS => ?_⟩) hH ?_
          · go_simp
          simp only [Act.put, List.setIfInBounds_toArray, List.set_cons_zero, List.set_cons_succ]
          refine wpAnyH_take (i := 3) (oi := { dst := some 170, op := Op.move (Operand.tmp 18), type := 28, pos := "law.go:213", after := #[{ on := 2, ground := Ground.guard }], guard := some (2, true) }) (v := undef) rfl (by kernel_rfl) (by kernel_rfl) (by kernel_rfl) (fun _ _ _ h => h) (Or.inr ⟨by rfl, rfl⟩) hH ?_
          simp only [Act.put, List.setIfInBounds_toArray, List.set_cons_zero, List.set_cons_succ]
          refine wpAnyH_take (i := 4) (oi := { dst := some 171, op := Op.binOp BinOp.neq 28 (Operand.tmp 170) (Operand.const (Value.int IntKind.i64 6)) 28, type := 4, pos := "law.go:213", after := #[{ on := 3, ground := Ground.data }, { on := 2, ground := Ground.guard }], guard := some (2, true) }) (v := undef) rfl (by kernel_rfl) (by kernel_rfl) (by kernel_rfl) (fun _ _ _ h => h) (Or.inr ⟨by rfl, rfl⟩) hH ?_
          simp only [Act.put, List.setIfInBounds_toArray, List.set_cons_zero, List.set_cons_succ]
          refine wpAnyH_take (i := 5) (oi := { dst := some 172, op := Op.pick (Operand.tmp 169) (Operand.tmp 171) (Operand.const (Value.bool false)), type := 4, pos := "law.go:213", after := #[{ on := 2, ground := Ground.data }, { on := 4, ground := Ground.data }], guard := none }) (v := .bool false) rfl (by kernel_rfl) (by kernel_rfl) (by kernel_rfl) (fun _ _ _ h => h) (Or.inl ⟨by rfl, fun wx hS => ?_⟩) hH ?_
          · go_simp
          simp only [Act.put, List.setIfInBounds_toArray, List.set_cons_zero, List.set_cons_succ]
          refine wpAnyH_take (i := 6) (oi := { dst := some 173, op := Op.move (Operand.tmp 172), type := 4, pos := "law.go:213", after := #[{ on := 5, ground := Ground.data }, { on := 2, ground := Ground.chain }], guard := none }) (v := .bool false) rfl (by kernel_rfl) (by kernel_rfl) (by kernel_rfl) (fun _ _ _ h => h) (Or.inl ⟨by rfl, fun wx hS => ?_⟩) hH ?_
          · go_simp
          simp only [Act.put, List.setIfInBounds_toArray, List.set_cons_zero, List.set_cons_succ]
          refine wpAnyH_take (i := 7) (oi := { dst := some 174, op := Op.move (Operand.tmp 18), type := 28, pos := "law.go:213", after := #[{ on := 6, ground := Ground.guard }], guard := some (6, false) }) (v := .int .i64 0) rfl (by kernel_rfl) (by kernel_rfl) (by kernel_rfl) (fun _ _ _ h => h) (Or.inl ⟨by rfl, fun wx hS => ?_⟩) hH ?_
          · go_simp
          simp only [Act.put, List.setIfInBounds_toArray, List.set_cons_zero, List.set_cons_succ]
          refine wpAnyH_take (i := 8) (oi := { dst := some 175, op := Op.binOp BinOp.eql 28 (Operand.tmp 174) (Operand.const (Value.int IntKind.i64 0)) 28, type := 4, pos := "law.go:213", after := #[{ on := 7, ground := Ground.data }, { on := 6, ground := Ground.guard }], guard := some (6, false) }) (v := .bool true) rfl (by kernel_rfl) (by kernel_rfl) (by kernel_rfl) (fun _ _ _ h => h) (Or.inl ⟨by rfl, fun wx hS => ?_⟩) hH ?_
          · go_simp
          simp only [Act.put, List.setIfInBounds_toArray, List.set_cons_zero, List.set_cons_succ]
          refine wpAnyH_take (i := 9) (oi := { dst := some 176, op := Op.move (Operand.tmp 175), type := 4, pos := "law.go:213", after := #[{ on := 8, ground := Ground.data }, { on := 6, ground := Ground.chain }, { on := 6, ground := Ground.guard }], guard := some (6, false) }) (v := .bool true) rfl (by kernel_rfl) (by kernel_rfl) (by kernel_rfl) (fun _ _ _ h => h) (Or.inl ⟨by rfl, fun wx hS => ?_⟩) hH ?_
          · go_simp
          simp only [Act.put, List.setIfInBounds_toArray, List.set_cons_zero, List.set_cons_succ]
          refine wpAnyH_take (i := 10) (oi := { dst := some 177, op := Op.move (Operand.tmp 17), type := 34, pos := "law.go:213", after := #[{ on := 9, ground := Ground.guard }], guard := some (9, true) }) (v := .slice ga b.length gc) rfl (by kernel_rfl) (by kernel_rfl) (by kernel_rfl) (fun _ _ _ h => h) (Or.inl ⟨by rfl, fun wx hS => ?_⟩) hH ?_
          · go_simp
          simp only [Act.put, List.setIfInBounds_toArray, List.set_cons_zero, List.set_cons_succ]
          refine wpAnyH_take (i := 11) (oi := { dst := some 178, op := Op.call { callee := Callee.builtin Builtin.len, args := #[Operand.tmp 177], argTypes := #[34] }, type := 3, pos := "law.go:213", after := #[{ on := 10, ground := Ground.data }, { on := 9, ground := Ground.guard }], guard := some (9, true) }) (v := .int .i64 (b.length : Int)) rfl (by kernel_rfl) (by kernel_rfl) (by kernel_rfl) (fun _ _ _ h => h) (Or.inl ⟨by rfl, fun wx hS => ?_⟩) hH ?_
          · go_simp
          simp only [Act.put, List.setIfInBounds_toArray, List.set_cons_zero, List.set_cons_succ]
          refine wpAnyH_take (i := 12) (oi := { dst := some 179, op := Op.move (Operand.tmp 6), type := 22, pos := "law.go:213", after := #[{ on := 9, ground := Ground.guard }], guard := some (9, true) }) (v := .slice (some ⟨qb, qO, none⟩) A.length c6) rfl (by kernel_rfl) (by kernel_rfl) (by kernel_rfl) (fun _ _ _ h => h) (Or.inl ⟨by rfl, fun wx hS => ?_⟩) hH ?_
          · go_simp
          simp only [Act.put, List.setIfInBounds_toArray, List.set_cons_zero, List.set_cons_succ]
          refine wpAnyH_take (i := 13) (oi := { dst := some 180, op := Op.move (Operand.tmp 16), type := 3, pos := "law.go:213", after := #[{ on := 9, ground := Ground.guard }], guard := some (9, true) }) (v := .int .i64 (j : Int)) rfl (by kernel_rfl) (by kernel_rfl) (by kernel_rfl) (fun _ _ _ h => h) (Or.inl ⟨by rfl, fun wx hS => ?_⟩) hH ?_
          · go_simp
          simp only [Act.put, List.setIfInBounds_toArray, List.set_cons_zero, List.set_cons_succ]
          refine wpAnyH_take (i := 14) (oi := { dst := some 181, op := Op.indexAddr 22 (Operand.tmp 179) (Operand.tmp 180), type := 0, pos := "law.go:213", after := #[{ on := 12, ground := Ground.data }, { on := 13, ground := Ground.data }, { on := 9, ground := Ground.guard }], guard := some (9, true) }) (v := .pointer (some ⟨qb, qO + j, none⟩)) rfl (by kernel_rfl) (by kernel_rfl) (by kernel_rfl) (fun _ _ _ h => h) (Or.inl ⟨by rfl, fun wx hS => ?_⟩) hH ?_
          · go_simp
          simp only [Act.put, List.setIfInBounds_toArray, List.set_cons_zero, List.set_cons_succ]
          refine wpAnyH_take (i := 15) (oi := { dst := some 182, op := Op.load 9 (Operand.tmp 181), type := 9, pos := "law.go:213", after := #[{ on := 14, ground := Ground.data }, { on := 9, ground := Ground.guard }], guard := some (9, true) }) (v := .string (str a)) rfl (by kernel_rfl) (by kernel_rfl) (by kernel_rfl) (fun _ _ _ h => h) (Or.inl ⟨by rfl, fun wx hS => ?_⟩) hH ?_
          · have e1 := CK.out wx hS; go_simp
          simp only [Act.put, List.setIfInBounds_toArray, List.set_cons_zero, List.set_cons_succ]
          refine wpAnyH_take (i := 16) (oi := { dst := some 183, op := Op.call { callee := Callee.builtin Builtin.len, args := #[Operand.tmp 182], argTypes := #[9] }, type := 3, pos := "law.go:213", after := #[{ on := 15, ground := Ground.data }, { on := 9, ground := Ground.guard }], guard := some (9, true) }) (v := .int .i64 (a.length : Int)) rfl (by kernel_rfl) (by kernel_rfl) (by kernel_rfl) (fun _ _ _ h => h) (Or.inl ⟨by rfl, fun wx hS => ?_⟩) hH ?_
          · have e1 := ASZ.out; go_simp
          simp only [Act.put, List.setIfInBounds_toArray, List.set_cons_zero, List.set_cons_succ]
          refine wpAnyH_take (i := 17) (oi := { dst := some 184, op := Op.binOp BinOp.gtr 3 (Operand.tmp 178) (Operand.tmp 183) 3, type := 4, pos := "law.go:213", after := #[{ on := 11, ground := Ground.data }, { on := 16, ground := Ground.data }, { on := 9, ground := Ground.guard }], guard := some (9, true) }) (v := .bool false) rfl (by kernel_rfl) (by kernel_rfl) (by kernel_rfl) (fun _ _ _ h => h) (Or.inl ⟨by rfl, fun wx hS => ?_⟩) hH ?_
          · go_simp
          simp only [Act.put, List.setIfInBounds_toArray, List.set_cons_zero, List.set_cons_succ]
          refine wpAnyH_take (i := 18) (oi := { dst := some 185, op := Op.move (Operand.tmp 184), type := 4, pos := "law.go:213", after := #[{ on := 17, ground := Ground.data }, { on := 9, ground := Ground.chain }, { on := 9, ground := Ground.guard }], guard := some (9, true) }) (v := .bool false) rfl (by kernel_rfl) (by kernel_rfl) (by kernel_rfl) (fun _ _ _ h => h) (Or.inl ⟨by rfl, fun wx hS => ?_⟩) hH ?_
          · go_simp
          simp only [Act.put, List.setIfInBounds_toArray, List.set_cons_zero, List.set_cons_succ]
          refine wpAnyH_take (i := 19) (oi := { dst := some 186, op := Op.move (Operand.tmp 17), type := 34, pos := "law.go:213", after := #[{ on := 18, ground := Ground.guard }], guard := some (18, false) }) (v := .slice ga b.length gc) rfl (by kernel_rfl) (by kernel_rfl) (by kernel_rfl) (fun _ _ _ h => h) (Or.inl ⟨by rfl, fun wx hS => ?_⟩) hH ?_
          · go_simp
          simp only [Act.put, List.setIfInBounds_toArray, List.set_cons_zero, List.set_cons_succ]
          refine wpAnyH_take (i := 20) (oi := { dst := some 187, op := Op.convert 34 9 (Operand.tmp 186), type := 9, pos := "law.go:213", after := #[{ on := 19, ground := Ground.data }, { on := 18, ground := Ground.guard }], guard := some (18, false) }) (v := .string (str b)) rfl (by kernel_rfl) (by kernel_rfl) (by kernel_rfl) (fun _ _ _ h => h) (Or.inl ⟨by rfl, fun wx hS => ?_⟩) hH ?_
          · have e1 := conv_string wx ga b gc (SL.out wx hS); go_simp
          simp only [Act.put, List.setIfInBounds_toArray, List.set_cons_zero, List.set_cons_succ]
          refine wpAnyH_take (i := 21) (oi := { dst := some 188, op := Op.move (Operand.tmp 6), type := 22, pos := "law.go:213", after := #[{ on := 18, ground := Ground.guard }], guard := some (18, false) }) (v := .slice (some ⟨qb, qO, none⟩) A.length c6) rfl (by kernel_rfl) (by kernel_rfl) (by kernel_rfl) (fun _ _ _ h => h) (Or.inl ⟨by rfl, fun wx hS => ?_⟩) hH ?_
          · go_simp
          simp only [Act.put, List.setIfInBounds_toArray, List.set_cons_zero, List.set_cons_succ]
          refine wpAnyH_take (i := 22) (oi := { dst := some 189, op := Op.move (Operand.tmp 16), type := 3, pos := "law.go:213", after := #[{ on := 18, ground := Ground.guard }], guard := some (18, false) }) (v := .int .i64 (j : Int)) rfl (by kernel_rfl) (by kernel_rfl) (by kernel_rfl) (fun _ _ _ h => h) (Or.inl ⟨by rfl, fun wx hS => ?_⟩) hH ?_
          · go_simp
          simp only [Act.put, List.setIfInBounds_toArray, List.set_cons_zero, List.set_cons_succ]
          refine wpAnyH_take (i := 23) (oi := { dst := some 190, op := Op.indexAddr 22 (Operand.tmp 188) (Operand.tmp 189), type := 0, pos := "law.go:213", after := #[{ on := 21, ground := Ground.data }, { on := 22, ground := Ground.data }, { on := 18, ground := Ground.guard }], guard := some (18, false) }) (v := .pointer (some ⟨qb, qO + j, none⟩)) rfl (by kernel_rfl) (by kernel_rfl) (by kernel_rfl) (fun _ _ _ h => h) (Or.inl ⟨by rfl, fun wx hS => ?_⟩) hH ?_
          · go_simp
          simp only [Act.put, List.setIfInBounds_toArray, List.set_cons_zero, List.set_cons_succ]
          refine wpAnyH_take (i := 24) (oi := { dst := some 191, op := Op.load 9 (Operand.tmp 190), type := 9, pos := "law.go:213", after := #[{ on := 23, ground := Ground.data }, { on := 18, ground := Ground.guard }], guard := some (18, false) }) (v := .string (str a)) rfl (by kernel_rfl) (by kernel_rfl) (by kernel_rfl) (fun _ _ _ h => h) (Or.inl ⟨by rfl, fun wx hS => ?_⟩) hH ?_
          · have e1 := CK.out wx hS; go_simp
          simp only [Act.put, List.setIfInBounds_toArray, List.set_cons_zero, List.set_cons_succ]
          refine wpAnyH_take (i := 25) (oi := { dst := some 192, op := Op.move (Operand.tmp 17), type := 34, pos := "law.go:213", after := #[{ on := 18, ground := Ground.guard }], guard := some (18, false) }) (v := .slice ga b.length gc) rfl (by kernel_rfl) (by kernel_rfl) (by kernel_rfl) (fun _ _ _ h => h) (Or.inl ⟨by rfl, fun wx hS => ?_⟩) hH ?_
          · go_simp
          simp only [Act.put, List.setIfInBounds_toArray, List.set_cons_zero, List.set_cons_succ]
          refine wpAnyH_take (i := 26) (oi := { dst := some 193, op := Op.call { callee := Callee.builtin Builtin.len, args := #[Operand.tmp 192], argTypes := #[34] }, type := 3, pos := "law.go:213", after := #[{ on := 25, ground := Ground.data }, { on := 18, ground := Ground.guard }], guard := some (18, false) }) (v := .int .i64 (b.length : Int)) rfl (by kernel_rfl) (by kernel_rfl) (by kernel_rfl) (fun _ _ _ h => h) (Or.inl ⟨by rfl, fun wx hS => ?_⟩) hH ?_
          · go_simp
          simp only [Act.put, List.setIfInBounds_toArray, List.set_cons_zero, List.set_cons_succ]
          refine wpAnyH_take (i := 27) (oi := { dst := some 194, op := Op.slice 9 (Operand.tmp 191) none (some (Operand.tmp 193)) none, type := 9, pos := "law.go:213", after := #[{ on := 24, ground := Ground.data }, { on := 26, ground := Ground.data }, { on := 18, ground := Ground.guard }], guard := some (18, false) }) (v := .string (str b)) rfl (by kernel_rfl) (by kernel_rfl) (by kernel_rfl) (fun _ _ _ h => h) (Or.inl ⟨by rfl, fun wx hS => ?_⟩) hH ?_
          · have e1 := ASZ.out; have e2 := CUT.out; go_simp
          simp only [Act.put, List.setIfInBounds_toArray, List.set_cons_zero, List.set_cons_succ]
          refine wpAnyH_take (i := 28) (oi := { dst := some 195, op := Op.binOp BinOp.neq 9 (Operand.tmp 187) (Operand.tmp 194) 9, type := 4, pos := "law.go:213", after := #[{ on := 20, ground := Ground.data }, { on := 27, ground := Ground.data }, { on := 18, ground := Ground.guard }], guard := some (18, false) }) (v := .bool false) rfl (by kernel_rfl) (by kernel_rfl) (by kernel_rfl) (fun _ _ _ h => h) (Or.inl ⟨by rfl, fun wx hS => ?_⟩) hH ?_
          · go_simp
          simp only [Act.put, List.setIfInBounds_toArray, List.set_cons_zero, List.set_cons_succ]
          refine wpAnyH_take (i := 29) (oi := { dst := some 196, op := Op.pick (Operand.tmp 185) (Operand.const (Value.bool true)) (Operand.tmp 195), type := 4, pos := "law.go:213", after := #[{ on := 18, ground := Ground.data }, { on := 28, ground := Ground.data }, { on := 9, ground := Ground.guard }], guard := some (9, true) }) (v := .bool false) rfl (by kernel_rfl) (by kernel_rfl) (by kernel_rfl) (fun _ _ _ h => h) (Or.inl ⟨by rfl, fun wx hS => ?_⟩) hH ?_
          · go_simp
          simp only [Act.put, List.setIfInBounds_toArray, List.set_cons_zero, List.set_cons_succ]
          refine wpAnyH_take (i := 30) (oi := { dst := some 197, op := Op.pick (Operand.tmp 176) (Operand.tmp 196) (Operand.const (Value.bool false)), type := 4, pos := "law.go:213", after := #[{ on := 9, ground := Ground.data }, { on := 29, ground := Ground.data }, { on := 6, ground := Ground.guard }], guard := some (6, false) }) (v := .bool false) rfl (by kernel_rfl) (by kernel_rfl) (by kernel_rfl) (fun _ _ _ h => h) (Or.inl ⟨by rfl, fun wx hS => ?_⟩) hH ?_
          · go_simp
          simp only [Act.put, List.setIfInBounds_toArray, List.set_cons_zero, List.set_cons_succ]
          refine wpAnyH_take (i := 31) (oi := { dst := some 198, op := Op.pick (Operand.tmp 173) (Operand.const (Value.bool true)) (Operand.tmp 197), type := 4, pos := "law.go:213", after := #[{ on := 6, ground := Ground.data }, { on := 30, ground := Ground.data }], guard := none }) (v := .bool false) rfl (by kernel_rfl) (by kernel_rfl) (by kernel_rfl) (fun _ _ _ h => h) (Or.inl ⟨by rfl, fun wx hS => ?_⟩) hH ?_
          · go_simp
          simp only [Act.put, List.setIfInBounds_toArray, List.set_cons_zero, List.set_cons_succ]
          refine wpAnyH_done (by kernel_rfl) ?_ _
          refine NoPanic.normal ?_
          have HM := Lib.hid (HN.out.trans (hH.mono HN.out.size))
          clear hH HN CK SL
          go_wp2_with fail
          go_roundw
          case rel => exact ⟨j + 1, by omega, by go_num, HM⟩
          case measure => simp [intOf]; omega
      · have q1 : ¬ (j : Int) < (Xn.length : Int) := by omega
        go_wp2_with fail
        go_meet
        case rel => exact HK
  have HB3 := Lib.hid hcut.out
  rename World => y2
  clear hcut HB2
  have HS3 := Lib.hid (HS1.out.below HB3.out)
  have LS := list_any w1.heap.size k m2 (onR 1048576 L2 (t : Nat)) [] y2 HS3.out (by show L2.length ≤ _; have := LE.out; have := HLL.out; omega)
  rw [show str ([] : List UInt8) = ⟨#[]⟩ from rfl, show listE (onR 1048576 L2 (t : Nat)) = 0 from rfl, show listN (onR 1048576 L2 (t : Nat)) [] = namesOf L2 [] from rfl] at LS
  have LS := Lib.hid LS
  have hnl := Nat.le_trans (names_len L2 []) LE.out
  generalize namesOf L2 [] = G at *
  go_upto_region 34 with fail
  go_wp2_with fail
  with_reducible refine LS.out.mono ?_
  rintro e y3 ⟨v, rfl, hv, kb⟩
  obtain ⟨lg, lc, h9, -, -, -⟩ := hv.vals
  rw [svals_length] at h9
  subst h9
  have OF := off_any w1.heap.size k m2 (onR 1048576 L2 (t : Nat)) y3 (HS3.out.below kb)
  rw [show (onR 1048576 L2 (t : Nat)).off = false from rfl] at OF
  have OF := Lib.hid OF
  have HE := Lib.hid (HB1.out.trans ((HB3.out.trans (kb.mono HB3.out.size)).mono HB1.out.size))
  have q1 : (G.length : Int) ≤ (A.length : Int) := by omega
  clear hv kb LS hnl HB3 HS3
  go_upto_region 35 with fail
  go_wp2_with fail
  with_reducible refine OF.out.mono ?_
  rintro e y4 ⟨rfl, rfl⟩
  go_wp2_with fail
  go_ret
  exact ⟨rfl, W1.out.trans (HE.out.mono W1.out.size)⟩
end Go.Proofs.Ythefledeoiegjaa
