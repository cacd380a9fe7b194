/- The law GlyphOnce: its walk. -/
import Derived.Test.YtmdcdepoeolbhaaIop
namespace Go.Proofs.Ytmdcdepoeolbhaa
open Go.RowKit

set_option maxRecDepth 100000 in
set_option maxHeartbeats 8000000 in
theorem law_glyphOnce (a : Option Addr) (c : Nat) (F : List UInt8) (w : World) (hF : F.length ≤ c) (hcm : c ≤ 9223372036854775807) (hac : a = none → c = 0) (hin : bytesIn w a F) :
    Calls Try.prog 5 #[.slice a F.length c] w fun e w' => e = .returned (.bool true) ∧ Below w.heap.size w w' := by
  have HI := Lib.hid (hin.take 12)
  have HFL : Hid ((F.take 12).length ≤ 12 ∧ (F.take 12).length = min F.length 12) := Lib.hid (by rw [List.length_take]; omega)
  have HAC := Lib.hid hac
  have HCM := Lib.hid hcm
  clear hin hac
  obtain ⟨M, hM⟩ : ∃ M, M = min F.length 12 := ⟨_, rfl⟩
  have HM := Lib.hid hM
  rw [← hM] at HFL
  clear hM
  go_enter Try.func5, Try.ntmps5
  go_upto_region 1 with fail
  go_cut [0] (fun s wx => s = .slice a M c ∧ w = wx)
  case first =>
    go_wp2_with fail
    all_goals
      go_meet
      case rel => exact ⟨by congr 1; have := HM.out; omega, rfl⟩
  case rest =>
    obtain ⟨rfl, rfl⟩ := hcut
    have HMC : Hid (M ≤ c) := Lib.hid (by have := HM.out; omega)
    clear hF HM
    generalize F.take 12 = G at *
    obtain ⟨hg1, hg2⟩ := HFL.out
    subst hg2
    have HG := Lib.hid hg1
    clear hg1 HFL
    have RL := Lib.hid (rowIs.lit w w.heap.size [72, 89, 1] #[.int .u8 72, .int .u8 89, .int .u8 1] rfl 3 rfl (Nat.le_refl _) (by simp))
    have BL := Lib.hid ((Below.refl w.heap.size w).alloc (Nat.le_refl _) (.cells #[.int .u8 72, .int .u8 89, .int .u8 1] 5 (0, 0)))
    have IL := Lib.hid (HI.out.below BL.out (Nat.le_refl _))
    go_wp2_with (at_builtin; refine append_bytes rfl _ _ rfl w.heap.size _ [72, 89, 1] rfl RL.out a G.length c G rfl rfl HAC.out IL.out (by have := HG.out; simp; omega) BL.out.size ?_)
    intro v' w' hown hgr
    have hb1 := BL.out.trans (rowIs.grew RL.out BL.out.size hgr)
    obtain ⟨H, hH⟩ : ∃ H, H = ([72, 89, 1] : List UInt8) ++ G := ⟨_, rfl⟩
    have hown : rowIs w' w.heap.size v' H := by rw [hH]; exact hown
    obtain ⟨pa, pc, rfl, v1, v2, v3, v4, v5⟩ := rowIs.form2 hown
    have PO := open_yes 1 ⟨pa, pc, H⟩ G w' ⟨v1, v2, v3⟩ v4 hH (by have := HG.out; omega)
    rw [show V 1 = (1 : Int) from rfl] at PO
    have PO2 := Lib.hid PO
    have B1 := Lib.hid hb1
    clear hown hgr v1 v2 v3 v4 v5 hb1 RL BL IL PO hH
    go_wp2_with fail
    with_reducible refine PO2.out.mono ?_
    rintro e w2 ⟨k, q, rfl, hk, hi, hfar, hql, hb⟩
    have B2 := Lib.hid (B1.out.trans (hb.mono B1.out.size))
    have HK : Hid (w.heap.size ≤ k) := Lib.hid (Nat.le_trans B1.out.size hk)
    have I2 := Lib.hid hi
    have QL := Lib.hid hql
    have PN := Lib.hid (inNum_any k q w2 hi hfar)
    clear PO2 hk hi hfar hql hb B1
    go_wp2_with fail
    with_reducible refine PN.out.mono ?_
    rintro e w3 ⟨hbut, ⟨er, her, rfl, hi3⟩ | ⟨N, hN, s, hs, hnb, rfl, hi3⟩⟩
    · have B3 := Lib.hid (B2.out.trans (hbut.below HK.out B2.out.size))
      have I3 := Lib.hid hi3
      have HE := Lib.hid her
      have bn : (er == 0) = false := by simpa using her
      have bn2 : (er != 0) = true := by simpa using her
      clear hbut hi3 her PN I2 B2
      go_wp2_with fail
      refine (glyphs_any w3).mono ?_
      rintro e w4 ⟨rfl, b4⟩
      have I4 := Lib.hid (I3.out.below b4)
      have B4 := Lib.hid (B3.out.trans (b4.mono B3.out.size))
      clear b4 I3 B3
      go_wp2_with fail
      refine (err_any k q er w4 I4.out).mono ?_
      rintro e w5 ⟨rfl, rfl⟩
      go_wp2_with fail
      refine (glyphs_any w4).mono ?_
      rintro e w5 ⟨rfl, b5⟩
      have B5 := Lib.hid (B4.out.trans (b5.mono B4.out.size))
      clear b5
      go_wp2_with fail
      go_ret
      exact ⟨rfl, B5.out⟩
    · have B3 := Lib.hid (B2.out.trans (hbut.below HK.out B2.out.size))
      have I3 := Lib.hid hi3
      rw [QL.out] at hs hnb
      have HN := Lib.hid hN
      have HS := Lib.hid hs
      have HB := Lib.hid hnb
      clear hbut hi3 PN I2 B2 hN hs hnb
      go_wp2_with fail
      refine (glyphs_any w3).mono ?_
      rintro e w4 ⟨rfl, b4⟩
      have I4 := Lib.hid (I3.out.below b4)
      have B4 := Lib.hid (B3.out.trans (b4.mono B3.out.size))
      clear b4 I3 B3
      go_wp2_with fail
      refine (err_any k _ 0 w4 I4.out).mono ?_
      rintro e w5 ⟨rfl, rfl⟩
      go_wp2_with fail
      refine (begin_c 1 1 rfl w4).mono ?_
      rintro e w5 ⟨ko, rfl, o5, b5⟩
      have O5 := Lib.hid o5
      have B5 := Lib.hid (B4.out.trans (b5.mono B4.out.size))
      have PM := Lib.hid (num1k w4.heap.size ko ([72, 89, 1], 0) (N : Int) w5 o5 (by have := HN.out; simp [Lit.wf, IntKind.min, IntKind.max, IntKind.signed, IntKind.bits]; omega) (by simp))
      have HW4 : Hid (w.heap.size ≤ w4.heap.size) := Lib.hid B4.out.size
      clear o5 b5 B4 I4
      go_wp2_with fail
      with_reducible refine PM.out.mono ?_
      rintro e w6 ⟨rfl, o6, b6, _⟩
      have hno : outNum (([72, 89, 1] : List UInt8), 0) (N : Int) = ([72, 89, 1] ++ numBytes N, 0) := by
        have := HN.out
        have h2 : ¬ ((N : Int) < 0 ∨ 4611686018427387904 ≤ (N : Int)) := by omega
        simp [outNum, h2]
      rw [hno] at o6
      have n9 := numBytes_nine N HN.out
      have PB := Lib.hid (bytes_ok w4.heap.size ko _ w6 o6 rfl (by show ([72, 89, 1] ++ numBytes N).length ≤ _; rw [List.length_append]; simp; omega))
      have B6 := Lib.hid (B5.out.trans (b6.mono HW4.out))
      clear PM o6 b6 hno n9 O5 B5
      go_wp2_with fail
      with_reducible refine PB.out.mono ?_
      rintro e w7 ⟨v, rfl, hr, b7⟩
      obtain ⟨ca, cc, rfl, u1, u2, u3, u4, _⟩ := rowIs.form2 hr
      have B7 := Lib.hid (B6.out.trans (b7.mono B6.out.size))
      have hin7 := HI.out.below (B7.out) (Nat.le_refl _)
      have hsl : (numBytes N).length = s := by rw [HB.out, List.length_take]; have := HS.out; omega
      obtain ⟨C, hC⟩ : ∃ C, C = ([72, 89, 1] : List UInt8) ++ numBytes N := ⟨_, rfl⟩
      have hCl : C.length = 3 + s := by rw [hC, List.length_append, hsl]; rfl
      have u1 : C.length ≤ cc := by rw [hC]; exact u1
      have u3 : bytesIn w7 ca C := by rw [hC]; exact u3
      have r1 := fun X => (show (Instr.slice 23 (.slice ca C.length cc) (some (.int .i64 3)) none none).run Try.prog X = _ from Pt.run_l ⟨ca, cc, C⟩ 3 (by show 3 ≤ C.length; omega) u1 X)
      have r2 := Pt.run_h ⟨a, c, G⟩ s HS.out HMC.out
      have z1 : ((⟨ca, cc, C⟩ : Pt).sub 3 C.length).l = numBytes N := by
        show (C.take C.length).drop 3 = _
        rw [List.take_length, hC]; rfl
      have z2 : ((⟨a, c, G⟩ : Pt).sub 0 s).l = numBytes N := by
        show (G.take s).drop 0 = _
        rw [List.drop_zero, HB.out]
      have k1 := (Pt.sub_ok (w := w7) (p := ⟨ca, cc, C⟩) ⟨u1, u2, u3⟩ 3 C.length (by omega) (Nat.le_refl _)).2.2
      have k2 := (Pt.sub_ok (w := w7) (p := ⟨a, c, G⟩) ⟨HMC.out, HCM.out, hin7⟩ 0 s (Nat.zero_le _) HS.out).2.2
      generalize (⟨ca, cc, C⟩ : Pt).sub 3 C.length = P1 at *
      generalize (⟨a, c, G⟩ : Pt).sub 0 s = P2 at *
      obtain ⟨a1, c1, l1⟩ := P1
      obtain ⟨a2, c2, l2⟩ := P2
      have z3 : l2 = l1 := (show l2 = numBytes N from z2).trans (show l1 = numBytes N from z1).symm
      clear z1 z2
      subst z3
      rw [← hC]
      have K1 := Lib.hid k1
      have K2 := Lib.hid k2
      have R1 := Lib.hid r1
      have R2 := Lib.hid r2
      have q1 : IntKind.i64.wrap (3 + (G.length : Int)) = 3 + (G.length : Int) := IntWalk.i64_in _ (by have := HG.out; omega)
      have q2 : (C.length : Int) ≤ 3 + (G.length : Int) := by have := HS.out; omega
      have q3 : IntKind.i64.wrap ((C.length : Int) - 3) = (s : Int) := by rw [IntWalk.i64_in _ (by have := HS.out; have := HG.out; omega)]; omega
      clear hr b7 u1 u2 u3 u4 hin7 hsl hC k1 k2 hCl B6
      generalize C.length = Cn at *
      clear r1 r2
      go_upto_region 7 with fail
      refine wp_region_noPanic ?_
      refine wp_region_held_drew (S := fun X => bytesIn X a1 l2 ∧ bytesIn X a2 l2) (by kernel_rfl) ⟨K1.out, K2.out⟩ (fun hH => ?_)
      refine wpAnyH_take (i := 0) (oi := { dst := some 38, op := Op.move (Operand.tmp 6), type := 24, pos := "law.go:185", after := #[], guard := none }) (v := .int .i64 0) rfl (by kernel_rfl) (by kernel_rfl) (by kernel_rfl) (fun _ _ _ h => h) (Or.inl ⟨by rfl, fun wx hS => ?_⟩) hH ?_
      · go_simp
      simp only [Act.put, List.setIfInBounds_toArray, List.set_cons_zero, List.set_cons_succ]
      refine wpAnyH_take (i := 1) (oi := { dst := some 39, op := Op.binOp BinOp.eql 24 (Operand.tmp 38) (Operand.const (Value.int IntKind.i64 0)) 24, type := 4, pos := "law.go:185", after := #[{ on := 0, ground := Ground.data }], guard := none }) (v := .bool true) rfl (by kernel_rfl) (by kernel_rfl) (by kernel_rfl) (fun _ _ _ h => h) (Or.inl ⟨by rfl, fun wx hS => ?_⟩) hH ?_
      · go_simp
      simp only [Act.put, List.setIfInBounds_toArray, List.set_cons_zero, List.set_cons_succ]
      refine wpAnyH_take (i := 2) (oi := { dst := some 40, op := Op.move (Operand.tmp 39), type := 4, pos := "law.go:185", after := #[{ on := 1, ground := Ground.data }], guard := none }) (v := .bool true) rfl (by kernel_rfl) (by kernel_rfl) (by kernel_rfl) (fun _ _ _ h => h) (Or.inl ⟨by rfl, fun wx hS => ?_⟩) hH ?_
      · go_simp
      simp only [Act.put, List.setIfInBounds_toArray, List.set_cons_zero, List.set_cons_succ]
      refine wpAnyH_take (i := 3) (oi := { dst := some 41, op := Op.move (Operand.tmp 5), type := 23, pos := "law.go:185", after := #[{ on := 2, ground := Ground.guard }], guard := some (2, true) }) (v := .slice ca Cn cc) rfl (by kernel_rfl) (by kernel_rfl) (by kernel_rfl) (fun _ _ _ h => h) (Or.inl ⟨by rfl, fun wx hS => ?_⟩) hH ?_
      · go_simp
      simp only [Act.put, List.setIfInBounds_toArray, List.set_cons_zero, List.set_cons_succ]
      refine wpAnyH_take (i := 4) (oi := { dst := some 42, op := Op.call { callee := Callee.builtin Builtin.len, args := #[Operand.tmp 41], argTypes := #[23] }, type := 3, pos := "law.go:185", after := #[{ on := 3, ground := Ground.data }, { on := 2, ground := Ground.guard }], guard := some (2, true) }) (v := .int .i64 (Cn : Int)) rfl (by kernel_rfl) (by kernel_rfl) (by kernel_rfl) (fun _ _ _ h => h) (Or.inl ⟨by rfl, fun wx hS => ?_⟩) hH ?_
      · go_simp
      simp only [Act.put, List.setIfInBounds_toArray, List.set_cons_zero, List.set_cons_succ]
      refine wpAnyH_take (i := 5) (oi := { dst := some 43, op := Op.move (Operand.tmp 0), type := 23, pos := "law.go:185", after := #[{ on := 2, ground := Ground.guard }], guard := some (2, true) }) (v := .slice a G.length c) rfl (by kernel_rfl) (by kernel_rfl) (by kernel_rfl) (fun _ _ _ h => h) (Or.inl ⟨by rfl, fun wx hS => ?_⟩) hH ?_
      · go_simp
      simp only [Act.put, List.setIfInBounds_toArray, List.set_cons_zero, List.set_cons_succ]
      refine wpAnyH_take (i := 6) (oi := { dst := some 44, op := Op.call { callee := Callee.builtin Builtin.len, args := #[Operand.tmp 43], argTypes := #[23] }, type := 3, pos := "law.go:185", after := #[{ on := 5, ground := Ground.data }, { on := 2, ground := Ground.guard }], guard := some (2, true) }) (v := .int .i64 (G.length : Int)) rfl (by kernel_rfl) (by kernel_rfl) (by kernel_rfl) (fun _ _ _ h => h) (Or.inl ⟨by rfl, fun wx hS => ?_⟩) hH ?_
      · go_simp
      simp only [Act.put, List.setIfInBounds_toArray, List.set_cons_zero, List.set_cons_succ]
      refine wpAnyH_take (i := 7) (oi := { dst := some 45, op := Op.binOp BinOp.add 3 (Operand.const (Value.int IntKind.i64 3)) (Operand.tmp 44) 3, type := 3, pos := "law.go:185", after := #[{ on := 6, ground := Ground.data }, { on := 2, ground := Ground.guard }], guard := some (2, true) }) (v := .int .i64 (3 + (G.length : Int))) rfl (by kernel_rfl) (by kernel_rfl) (by kernel_rfl) (fun _ _ _ h => h) (Or.inl ⟨by rfl, fun wx hS => ?_⟩) hH ?_
      · have e1 := q1; go_simp
      simp only [Act.put, List.setIfInBounds_toArray, List.set_cons_zero, List.set_cons_succ]
      refine wpAnyH_take (i := 8) (oi := { dst := some 46, op := Op.binOp BinOp.leq 3 (Operand.tmp 42) (Operand.tmp 45) 3, type := 4, pos := "law.go:185", after := #[{ on := 4, ground := Ground.data }, { on := 7, ground := Ground.data }, { on := 2, ground := Ground.guard }], guard := some (2, true) }) (v := .bool true) rfl (by kernel_rfl) (by kernel_rfl) (by kernel_rfl) (fun _ _ _ h => h) (Or.inl ⟨by rfl, fun wx hS => ?_⟩) hH ?_
      · have e1 := q2; go_simp
      simp only [Act.put, List.setIfInBounds_toArray, List.set_cons_zero, List.set_cons_succ]
      refine wpAnyH_take (i := 9) (oi := { dst := some 47, op := Op.pick (Operand.tmp 40) (Operand.tmp 46) (Operand.const (Value.bool false)), type := 4, pos := "law.go:185", after := #[{ on := 2, ground := Ground.data }, { on := 8, ground := Ground.data }], guard := none }) (v := .bool true) rfl (by kernel_rfl) (by kernel_rfl) (by kernel_rfl) (fun _ _ _ h => h) (Or.inl ⟨by rfl, fun wx hS => ?_⟩) hH ?_
      · go_simp
      simp only [Act.put, List.setIfInBounds_toArray, List.set_cons_zero, List.set_cons_succ]
      refine wpAnyH_take (i := 10) (oi := { dst := some 48, op := Op.move (Operand.tmp 47), type := 4, pos := "law.go:185", after := #[{ on := 9, ground := Ground.data }, { on := 2, ground := Ground.chain }], guard := none }) (v := .bool true) rfl (by kernel_rfl) (by kernel_rfl) (by kernel_rfl) (fun _ _ _ h => h) (Or.inl ⟨by rfl, fun wx hS => ?_⟩) hH ?_
      · go_simp
      simp only [Act.put, List.setIfInBounds_toArray, List.set_cons_zero, List.set_cons_succ]
      refine wpAnyH_take (i := 11) (oi := { dst := some 49, op := Op.move (Operand.tmp 5), type := 23, pos := "law.go:185", after := #[{ on := 10, ground := Ground.guard }], guard := some (10, true) }) (v := .slice ca Cn cc) rfl (by kernel_rfl) (by kernel_rfl) (by kernel_rfl) (fun _ _ _ h => h) (Or.inl ⟨by rfl, fun wx hS => ?_⟩) hH ?_
      · go_simp
      simp only [Act.put, List.setIfInBounds_toArray, List.set_cons_zero, List.set_cons_succ]
      refine wpAnyH_take (i := 12) (oi := { dst := some 50, op := Op.slice 23 (Operand.tmp 49) (some (Operand.const (Value.int IntKind.i64 3))) none none, type := 23, pos := "law.go:185", after := #[{ on := 11, ground := Ground.data }, { on := 10, ground := Ground.guard }], guard := some (10, true) }) (v := .slice a1 l2.length c1) rfl (by kernel_rfl) (by kernel_rfl) (by kernel_rfl) (fun _ _ _ h => h) (Or.inl ⟨by rfl, fun wx hS => ?_⟩) hH ?_
      · have e1 := R1.out wx; go_simp
      simp only [Act.put, List.setIfInBounds_toArray, List.set_cons_zero, List.set_cons_succ]
      refine wpAnyH_take (i := 13) (oi := { dst := some 51, op := Op.convert 23 9 (Operand.tmp 50), type := 9, pos := "law.go:185", after := #[{ on := 12, ground := Ground.data }, { on := 10, ground := Ground.guard }], guard := some (10, true) }) (v := .string (str l2)) rfl (by kernel_rfl) (by kernel_rfl) (by kernel_rfl) (fun _ _ _ h => h) (Or.inl ⟨by rfl, fun wx hS => ?_⟩) hH ?_
      · have e1 := conv_string wx a1 l2 c1 hS.1; go_simp
      simp only [Act.put, List.setIfInBounds_toArray, List.set_cons_zero, List.set_cons_succ]
      refine wpAnyH_take (i := 14) (oi := { dst := some 52, op := Op.move (Operand.tmp 0), type := 23, pos := "law.go:185", after := #[{ on := 10, ground := Ground.guard }], guard := some (10, true) }) (v := .slice a G.length c) rfl (by kernel_rfl) (by kernel_rfl) (by kernel_rfl) (fun _ _ _ h => h) (Or.inl ⟨by rfl, fun wx hS => ?_⟩) hH ?_
      · go_simp
      simp only [Act.put, List.setIfInBounds_toArray, List.set_cons_zero, List.set_cons_succ]
      refine wpAnyH_take (i := 15) (oi := { dst := some 53, op := Op.move (Operand.tmp 5), type := 23, pos := "law.go:185", after := #[{ on := 10, ground := Ground.guard }], guard := some (10, true) }) (v := .slice ca Cn cc) rfl (by kernel_rfl) (by kernel_rfl) (by kernel_rfl) (fun _ _ _ h => h) (Or.inl ⟨by rfl, fun wx hS => ?_⟩) hH ?_
      · go_simp
      simp only [Act.put, List.setIfInBounds_toArray, List.set_cons_zero, List.set_cons_succ]
      refine wpAnyH_take (i := 16) (oi := { dst := some 54, op := Op.call { callee := Callee.builtin Builtin.len, args := #[Operand.tmp 53], argTypes := #[23] }, type := 3, pos := "law.go:185", after := #[{ on := 15, ground := Ground.data }, { on := 10, ground := Ground.guard }], guard := some (10, true) }) (v := .int .i64 (Cn : Int)) rfl (by kernel_rfl) (by kernel_rfl) (by kernel_rfl) (fun _ _ _ h => h) (Or.inl ⟨by rfl, fun wx hS => ?_⟩) hH ?_
      · go_simp
      simp only [Act.put, List.setIfInBounds_toArray, List.set_cons_zero, List.set_cons_succ]
      refine wpAnyH_take (i := 17) (oi := { dst := some 55, op := Op.binOp BinOp.sub 3 (Operand.tmp 54) (Operand.const (Value.int IntKind.i64 3)) 3, type := 3, pos := "law.go:185", after := #[{ on := 16, ground := Ground.data }, { on := 10, ground := Ground.guard }], guard := some (10, true) }) (v := .int .i64 (s : Int)) rfl (by kernel_rfl) (by kernel_rfl) (by kernel_rfl) (fun _ _ _ h => h) (Or.inl ⟨by rfl, fun wx hS => ?_⟩) hH ?_
      · have e1 := q3; go_simp
      simp only [Act.put, List.setIfInBounds_toArray, List.set_cons_zero, List.set_cons_succ]
      refine wpAnyH_take (i := 18) (oi := { dst := some 56, op := Op.slice 23 (Operand.tmp 52) none (some (Operand.tmp 55)) none, type := 23, pos := "law.go:185", after := #[{ on := 14, ground := Ground.data }, { on := 17, ground := Ground.data }, { on := 10, ground := Ground.guard }], guard := some (10, true) }) (v := .slice a2 l2.length c2) rfl (by kernel_rfl) (by kernel_rfl) (by kernel_rfl) (fun _ _ _ h => h) (Or.inl ⟨by rfl, fun wx hS => ?_⟩) hH ?_
      · have e1 := R2.out wx; go_simp
      simp only [Act.put, List.setIfInBounds_toArray, List.set_cons_zero, List.set_cons_succ]
      refine wpAnyH_take (i := 19) (oi := { dst := some 57, op := Op.convert 23 9 (Operand.tmp 56), type := 9, pos := "law.go:185", after := #[{ on := 18, ground := Ground.data }, { on := 10, ground := Ground.guard }], guard := some (10, true) }) (v := .string (str l2)) rfl (by kernel_rfl) (by kernel_rfl) (by kernel_rfl) (fun _ _ _ h => h) (Or.inl ⟨by rfl, fun wx hS => ?_⟩) hH ?_
      · have e1 := conv_string wx a2 l2 c2 hS.2; go_simp
      simp only [Act.put, List.setIfInBounds_toArray, List.set_cons_zero, List.set_cons_succ]
      refine wpAnyH_take (i := 20) (oi := { dst := some 58, op := Op.binOp BinOp.eql 9 (Operand.tmp 51) (Operand.tmp 57) 9, type := 4, pos := "law.go:185", after := #[{ on := 13, ground := Ground.data }, { on := 19, ground := Ground.data }, { on := 10, ground := Ground.guard }], guard := some (10, true) }) (v := .bool true) rfl (by kernel_rfl) (by kernel_rfl) (by kernel_rfl) (fun _ _ _ h => h) (Or.inl ⟨by rfl, fun wx hS => ?_⟩) hH ?_
      · go_simp
      simp only [Act.put, List.setIfInBounds_toArray, List.set_cons_zero, List.set_cons_succ]
      refine wpAnyH_take (i := 21) (oi := { dst := some 59, op := Op.pick (Operand.tmp 48) (Operand.tmp 58) (Operand.const (Value.bool false)), type := 4, pos := "law.go:185", after := #[{ on := 10, ground := Ground.data }, { on := 20, ground := Ground.data }], guard := none }) (v := .bool true) rfl (by kernel_rfl) (by kernel_rfl) (by kernel_rfl) (fun _ _ _ h => h) (Or.inl ⟨by rfl, fun wx hS => ?_⟩) hH ?_
      · go_simp
      simp only [Act.put, List.setIfInBounds_toArray, List.set_cons_zero, List.set_cons_succ]
      refine wpAnyH_take (i := 22) (oi := { dst := some 2, op := Op.assign (Operand.tmp 59), type := 4, pos := "law.go:185", after := #[{ on := 21, ground := Ground.data }, { on := 10, ground := Ground.chain }, { on := 0, ground := Ground.phase }, { on := 1, ground := Ground.phase }, { on := 2, ground := Ground.phase }, { on := 3, ground := Ground.phase }, { on := 4, ground := Ground.phase }, { on := 5, ground := Ground.phase }, { on := 6, ground := Ground.phase }, { on := 7, ground := Ground.phase }, { on := 8, ground := Ground.phase }, { on := 9, ground := Ground.phase }, { on := 10, ground := Ground.phase }, { on := 11, ground := Ground.phase }, { on := 12, ground := Ground.phase }, { on := 13, ground := Ground.phase }, { on := 14, ground := Ground.phase }, { on := 15, ground := Ground.phase }, { on := 16, ground := Ground.phase }, { on := 17, ground := Ground.phase }, { on := 18, ground := Ground.phase }, { on := 19, ground := Ground.phase }, { on := 20, ground := Ground.phase }, { on := 21, ground := Ground.phase }], guard := none }) (v := .bool true) rfl (by kernel_rfl) (by kernel_rfl) (by kernel_rfl) (fun _ _ _ h => h) (Or.inl ⟨by rfl, fun wx hS => ?_⟩) hH ?_
      · go_simp
      simp only [Act.put, List.setIfInBounds_toArray, List.set_cons_zero, List.set_cons_succ]
      refine wpAnyH_done (by kernel_rfl) ?_ _
      refine NoPanic.normal ?_
      go_wp2_with fail
      go_ret
      exact ⟨rfl, B7.out.drew⟩
end Go.Proofs.Ytmdcdepoeolbhaa
