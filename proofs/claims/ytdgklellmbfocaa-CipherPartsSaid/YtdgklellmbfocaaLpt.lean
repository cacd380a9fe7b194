/- The law CipherParts: its walk. -/
import Derived.Test.YtdgklellmbfocaaPrt
namespace Go.Proofs.Ytdgklellmbfocaa
open Go.RowKit Sha Aes

/-- Numbers that lie in a world. -/
def intsAt (w : World) (a : Option Addr) (zs : List Int) : Prop := zs = [] ∨ ∃ b o, a = some ⟨b, o, none⟩ ∧ ∀ j, j < zs.length → w.cell? ⟨b, o + j, none⟩ = some (.int .i64 (zs.getD j 0))

set_option maxRecDepth 100000 in
set_option maxHeartbeats 8000000 in
theorem law_cipherParts (K N : List UInt8) (p : Int) (a : Option Addr) (c : Nat) (F : List UInt8) (ca : Option Addr) (cc : Nat) (zs : List Int) (w : World) (hK : K.length = 32) (hN : N.length = 16) (hF : F.length ≤ c) (hac : a = none → c = 0) (hin : bytesIn w a F) (hzs : intsAt w ca zs) :
    Calls Try.prog 6 #[.agg (pourCells K N p (.slice a F.length c)).toArray, .slice ca zs.length cc] w fun e w' => e = .returned (.bool true) ∧ Below w.heap.size w w' := by
  have HKL := Lib.hid hK
  have HNL := Lib.hid hN
  have HAC := Lib.hid hac
  have G1 := Lib.hid (blockIs.new w (pourCells K N p (.slice a F.length c)) 45)
  have B1 := Lib.hid (alloc_below w (.cells (pourCells K N p (.slice a F.length c)).toArray 45 (0, 0)))
  have QK : Hid (bytesIn (w.alloc (.cells (pourCells K N p (.slice a F.length c)).toArray 45 (0, 0))) (some ⟨w.heap.size, 0, none⟩) K) := Lib.hid (Or.inr ⟨_, _, rfl, fun j hj => by
    rw [Nat.zero_add, G1.out.cell]
    unfold pourCells
    rw [List.getElem?_append_left (by rw [byteCells_length]; exact hj)]
    exact byteCells_get K j hj⟩)
  have CN : Hid (pourCells K N p (.slice a F.length c) = byteCells K ++ (byteCells N ++ [.int .i64 p, .slice a F.length c])) := Lib.hid rfl
  have CL : Hid ((pourCells K N p (.slice a F.length c)).length = 50) := Lib.hid (by unfold pourCells; simp [byteCells_length, hK, hN])
  have HI0 := Lib.hid (hin.take 400)
  have HZS := Lib.hid hzs
  have HLL : Hid ((F.take 400).length = min F.length 400) := Lib.hid (by rw [List.length_take, Nat.min_comm])
  have HFC := Lib.hid hF
  have c49 : Hid ((pourCells K N p (.slice a F.length c))[49]? = some (.slice a F.length c)) := Lib.hid (by
    unfold pourCells
    rw [List.getElem?_append_right (by rw [byteCells_length]; omega), byteCells_length, hK, List.getElem?_append_right (by rw [byteCells_length]; omega), byteCells_length, hN]; rfl)
  clear hK hN hac hin hF hzs
  generalize pourCells K N p (.slice a F.length c) = C at *
  generalize F.take 400 = L at *
  go_enter Try.func6, Try.ntmps6
  have HM := Lib.hid (make_any (some ⟨w.heap.size, 0, none⟩) 32 K (w.alloc (.cells C.toArray 45 (0, 0))) HKL.out QK.out)
  rw [HKL.out] at HM
  go_wp2_with fail
  generalize w.alloc (.cells C.toArray 45 (0, 0)) = w1 at *
  with_reducible refine HM.out.mono ?_
  rintro e w2 ⟨g, rfl, hg1, hkey, kk⟩
  have K2 := Lib.hid hkey
  have G2 := Lib.hid (G1.out.below kk G1.out.lt)
  have B2 := Lib.hid (B1.out.trans (kk.mono B1.out.size))
  have HG1 : Hid (w.heap.size < g) := Lib.hid (Nat.lt_of_lt_of_le G1.out.lt hg1)
  clear hg1 hkey kk HM G1 B1 QK
  generalize Aes.words K 60 = ws at *
  have HNB : Hid ((byteCells N).length = 16) := Lib.hid (by rw [byteCells_length]; exact HNL.out)
  have RN : Hid (w2.rangeAt w.heap.size 32 (byteCells N)) := Lib.hid (by
    have h := G2.out
    rw [CN.out] at h
    have := rangeAt_block (p := byteCells K) (cs := byteCells N) h
    rwa [byteCells_length, HKL.out] at this)
  have HBG := Lib.hid (begin_ok g N w2 HNL.out)
  go_wp2_with (refine wpList_load_mid rfl 23 _ rfl w.heap.size 32 rfl (byteCells N) _ RN.out Try.underlying23 rfl (by rw [infoBlk, HNB.out]) ?_)
  with_reducible refine HBG.out.mono ?_
  rintro e w3 ⟨fb, rfl, hfb, hfl, kk⟩
  have K3 := Lib.hid (K2.out.below kk K2.out.lt)
  have F3 := Lib.hid hfl
  have G3 := Lib.hid (G2.out.below kk G2.out.lt)
  have B3 := Lib.hid (B2.out.trans (kk.mono B2.out.size))
  have HGF : Hid (g < fb) := Lib.hid (Nat.lt_of_lt_of_le K2.out.lt hfb)
  clear hfb hfl kk K2 G2 B2 RN HBG
  have RN : Hid (w3.rangeAt w.heap.size 32 (byteCells N)) := Lib.hid (by
    have h := G3.out
    rw [CN.out] at h
    have := rangeAt_block (p := byteCells K) (cs := byteCells N) h
    rwa [byteCells_length, HKL.out] at this)
  have HBG := Lib.hid (begin_ok g N w3 HNL.out)
  go_wp2_with (refine wpList_load_mid rfl 23 _ rfl w.heap.size 32 rfl (byteCells N) _ RN.out Try.underlying23 rfl (by rw [infoBlk, HNB.out]) ?_)
  with_reducible refine HBG.out.mono ?_
  rintro e w4 ⟨hb, rfl, hfb, hfl, kk⟩
  have HFH : Hid (fb < hb) := Lib.hid (Nat.lt_of_lt_of_le F3.out.lt hfb)
  have T4 : Hid (two w fb hb g ws N 0 0 w4) := Lib.hid ⟨F3.out.below kk F3.out.lt, hfl, K3.out.below kk K3.out.lt, B3.out.trans (kk.mono B3.out.size)⟩
  have G4 := Lib.hid (G3.out.below kk G3.out.lt)
  have O : Hid (w.heap.size < g ∧ g < fb ∧ fb < hb) := Lib.hid ⟨HG1.out, HGF.out, HFH.out⟩
  clear hfb hfl kk K3 F3 G3 B3 RN HBG HGF HFH HG1
  go_wp2_with fail
  refine (hides_any _).mono ?_
  rintro e w5 ⟨rfl, kk⟩
  have T5 := Lib.hid (two.below T4.out kk)
  have G5 := Lib.hid (G4.out.below kk G4.out.lt)
  clear kk T4 G4
  go_upto_region 6 with fail
  have kb := alloc_below w5 (.cells #[] 5 (0, 0))
  have T6 := Lib.hid (two.below T5.out kb)
  have d1 : (w5.alloc (.cells #[] 5 (0, 0))).cell? ⟨w.heap.size, 49, none⟩ = some (.slice a F.length c) := by rw [(G5.out.below kb G5.out.lt).cell]; exact c49.out
  have OW : Hid (ownB (w5.alloc (.cells #[] 5 (0, 0))) w5.heap.size (.slice (some ⟨w5.heap.size, 0, none⟩) ([] : List UInt8).length 0) []) := Lib.hid (ownB.of_block (rest := []) (Nat.le_refl _) (blockIs.new w5 [] 5) (by decide) (by decide) rfl)
  have HI6 := Lib.hid (HI0.out.below T6.out.2.2.2)
  have HB6 : Hid (hb < w5.heap.size ∧ w5.heap.size ≤ (w5.alloc (.cells #[] 5 (0, 0))).heap.size) := Lib.hid ⟨T5.out.2.1.lt, kb.size⟩
  clear kb T5 G5
  go_cut [11] (fun v wx => ∃ ba bc, v = .slice ba L.length bc ∧ Pt.own w5.heap.size wx ⟨ba, bc, L⟩ ∧ two w fb hb g ws N 0 0 wx)
  case first =>
    have hfc := HFC.out
    have HL4 : Hid (([] : List UInt8).length + L.length ≤ 1000000) := Lib.hid (by have := HLL.out; simp; omega)
    by_cases hl : (F.length : Int) ≤ 400
    · have HNL1 : Hid (F.length = L.length) := Lib.hid (by have := HLL.out; omega)
      go_wp2_with (at_builtin; refine wpList_append_ownB rfl _ _ rfl w5.heap.size _ [] rfl OW.out a F.length c L HNL1.out rfl HAC.out HI6.out HL4.out HB6.out.2 ?_; intro v' w' r1 r2)
      all_goals
        go_meet
        case rel =>
          obtain ⟨ba, bc, e1, e3⟩ := Pt.own_of r1.out
          exact ⟨ba, bc, e1, e3, two.upto T6.out r2.out HB6.out.1 O.out⟩
    · have HNL1 : Hid (400 = L.length) := Lib.hid (by have := HLL.out; omega)
      have hf4 : ¬ c < 400 := by omega
      have hf5 : 400 ≤ c := by omega
      go_wp2_with (at_builtin; refine wpList_append_ownB rfl _ _ rfl w5.heap.size _ [] rfl OW.out a 400 c L HNL1.out rfl HAC.out HI6.out HL4.out HB6.out.2 ?_; intro v' w' r1 r2)
      all_goals
        go_meet
        case rel =>
          obtain ⟨ba, bc, e1, e3⟩ := Pt.own_of r1.out
          exact ⟨ba, bc, e1, e3, two.upto T6.out r2.out HB6.out.1 O.out⟩
  obtain ⟨ba, bc, rfl, e3, e4⟩ := hcut
  have OB := Lib.hid e3
  have T7 := Lib.hid e4
  have HHB := Lib.hid HB6.out.1
  clear e3 e4 HB6 OW d1 T6
  generalize w5.heap.size = base at *
  have cvb := conv_string wc ba L bc OB.out.1.2.2
  have HL400 : Hid (L.length ≤ 400) := Lib.hid (by have := HLL.out; omega)
  have y1 := Lib.hid (blockIs.new wc [.slice ba L.length bc] 28)
  have k2 := alloc_below wc (.cells [Value.slice ba L.length bc].toArray 28 (0, 0))
  have OB8 := Lib.hid (OB.out.below k2)
  have T8 := Lib.hid (two.below T7.out k2)
  have HH := Lib.hid (hide_any fb g ws N 0 (some ⟨wc.heap.size, 0, none⟩) 1 [L] _ HNL.out (by decide) (by simp) (by have := HL400.out; simp; omega) T8.out.1 T8.out.2.2.1 (by have := O.out; omega) (lit_parts y1.out OB.out.2.1 OB8.out.1.2.2))
  rw [show [L].flatten = L by simp, show ([L] : List (List UInt8)).length = 1 from rfl, Nat.zero_add] at HH
  obtain ⟨S, hS⟩ : ∃ S, S = hideL ws N 0 L := ⟨_, rfl⟩
  rw [← hS] at HH
  have HS := Lib.hid hS
  have HSL : Hid (S.length = L.length) := Lib.hid (by rw [hS, hideL_length])
  clear hS k2 y1 OB T7
  go_wp2_with fail
  generalize wc.alloc (.cells #[Value.slice ba L.length bc] 28 (0, 0)) = w8 at *
  with_reducible refine HH.out.mono ?_
  rintro e w9 ⟨v, rfl, own, hfl, hbut⟩
  obtain ⟨sa, sc, rfl, _, _, _, _⟩ := own.form
  have SO := Lib.hid own
  have T9 := Lib.hid (two.first T8.out hbut hfl O.out)
  have OB9 := Lib.hid (OB8.out.but hbut (by have := HHB.out; have := O.out; omega))
  have HHS := Lib.hid T8.out.2.1.lt
  clear own hfl hbut HH T8 OB8 cvb
  generalize w8.heap.size = base2 at *
  go_wp2_with fail
  go_loopw [16, 14, 15] (fun i v r wr => ∃ (k j : Nat) (ra : Option Addr) (rc : Nat), i = .int .i64 j ∧ j ≤ 10 ∧ k ≤ L.length ∧ r = .slice ra (L.drop k).length rc ∧ ownB wr w9.heap.size v (hideL ws N 0 (L.take k)) ∧ (∀ Y, But hb w9 Y → Pt.own base Y ⟨ra, rc, L.drop k⟩) ∧ blockIs wr hb (flowCells g N k) 65 ∧ But hb w9 wr) (fun i _ _ _ => 10 - (intOf i).toNat)
  case atStart => exact ⟨0, 0, ba, bc, rfl, by omega, by omega, rfl, World.ownsRow_nil _ _ _ _, fun Y hY => OB9.out.but hY HHB.out, T9.out.2.1, But.refl _ _⟩
  case round =>
    obtain ⟨k, j, ra, rc, rfl, hj, hk, rfl, own, hro, hfl, hbut⟩ := hrel
    have GO := Lib.hid own
    have RO := Lib.hid hro
    have FH := Lib.hid hfl
    have BT := Lib.hid hbut
    have HBW : Hid (Below w.heap.size w wr) := Lib.hid (T9.out.2.2.2.trans (hbut.below (by have := O.out; omega) T9.out.2.2.2.size))
    clear own hro hfl hbut
    have HRL : Hid ((L.drop k).length = L.length - k) := Lib.hid (List.length_drop ..)
    have HK := Lib.hid hk
    have HR0 : Hid (∃ R, R = L.drop k) := Lib.hid ⟨_, rfl⟩
    obtain ⟨R, hR⟩ := HR0.out
    rw [← hR] at HRL RO ⊢
    have HR := Lib.hid hR
    clear hR HR0
    by_cases hgo : j < zs.length ∧ j < 10 ∧ k < L.length
    · obtain ⟨hj1, hj2, hk2⟩ := hgo
      have hz1 : (j : Int) < (zs.length : Int) := by omega
      have hz2 : (j : Int) < 10 := by omega
      have p0 : 0 ≤ (j : Int) := by omega
      have hr0 : 0 < (R.length : Int) := by have := HRL.out; omega
      have HR4 : Hid (R.length ≤ 400) := Lib.hid (by have := HRL.out; have := HL400.out; omega)
      rcases HZS.out with h0 | ⟨zb, zo, rfl, hzc⟩
      · simp [h0] at hj1
      have dz : wr.cell? ⟨zb, zo + j, none⟩ = some (.int .i64 (zs.getD j 0)) := (HBW.out.cell (p := ⟨zb, zo + j, none⟩) (block_lt_of_cell (hzc j hj1))).trans (hzc j hj1)
      clear hzc
      generalize zs.getD j 0 = z at *
      generalize zs.length = zn at *
      have hr4 := HR4.out
      have v1 : IntKind.i64.wrap ((R.length : Int) + 1) = (R.length : Int) + 1 := IntWalk.i64_in _ (by omega)
      have v2 : IntKind.u64.wrap ((R.length : Int) + 1) = (R.length : Int) + 1 := IntWalk.u64_in _ (by omega)
      have v3 : ¬ ((R.length : Int) + 1 = 0) := by omega
      clear hr4
      go_upto_region 14 with fail
      go_cut [17] (fun v wx => ∃ c1 : Nat, v = .int .i64 c1 ∧ c1 ≤ R.length ∧ wr = wx)
      case first =>
        go_wp2_with fail
        all_goals
          go_meet
          case rel =>
            obtain ⟨c1, h1, h2⟩ := cut_of z R.length HR4.out
            exact ⟨c1, by rw [h2], h1, rfl⟩
      obtain ⟨c1, rfl, hc1, rfl⟩ := hcut
      go_upto_region 15 with fail
      obtain ⟨h2, hh⟩ : ∃ h2, h2 = c1 / 2 := ⟨_, rfl⟩
      have hh1 : h2 ≤ c1 := by omega
      have q0 : (0 : Int) ≤ (c1 : Int) := by omega
      have q1 : IntKind.i64.wrap ((c1 : Int) / 2) = (h2 : Int) := by rw [IntWalk.i64_in _ (by have := HR4.out; omega)]; omega
      have kd : Below wr.heap.size wr wr.drew := below_drew' (Below.refl _ _)
      have RW := RO.out wr BT.out
      have s1 := fun X => (⟨ra, rc, R⟩ : Pt).run_h h2 (by show h2 ≤ R.length; omega) RW.1.1 X
      have s2 := fun X => (⟨ra, rc, R⟩ : Pt).run_lh h2 c1 hh1 hc1 RW.1.1 X
      have s3 := fun X => (⟨ra, rc, R⟩ : Pt).run_l c1 hc1 RW.1.1 X
      have t1 : Hid (∀ Y, But hb w9 Y → Pt.own base Y ((⟨ra, rc, R⟩ : Pt).sub 0 h2)) := Lib.hid (fun Y hY => (RO.out Y hY).sub 0 h2 (Nat.zero_le _) (by show h2 ≤ R.length; omega))
      have t2 : Hid (∀ Y, But hb w9 Y → Pt.own base Y ((⟨ra, rc, R⟩ : Pt).sub h2 c1)) := Lib.hid (fun Y hY => (RO.out Y hY).sub h2 c1 hh1 hc1)
      have t3 : Hid (∀ Y, But hb w9 Y → Pt.own base Y ((⟨ra, rc, R⟩ : Pt).sub c1 R.length)) := Lib.hid (fun Y hY => (RO.out Y hY).sub c1 R.length hc1 (Nat.le_refl _))
      have u1 : Hid (((⟨ra, rc, R⟩ : Pt).sub 0 h2).l = (R.take h2).drop 0) := Lib.hid rfl
      have u2 : Hid (((⟨ra, rc, R⟩ : Pt).sub h2 c1).l = (R.take c1).drop h2) := Lib.hid rfl
      have u3 : Hid (((⟨ra, rc, R⟩ : Pt).sub c1 R.length).l = R.drop c1) := Lib.hid (by show (R.take R.length).drop c1 = _; rw [List.take_length])
      obtain ⟨p1, hp1⟩ : ∃ q : Pt, q = (⟨ra, rc, R⟩ : Pt).sub 0 h2 := ⟨_, rfl⟩
      obtain ⟨p2, hp2⟩ : ∃ q : Pt, q = (⟨ra, rc, R⟩ : Pt).sub h2 c1 := ⟨_, rfl⟩
      obtain ⟨p3, hp3⟩ : ∃ q : Pt, q = (⟨ra, rc, R⟩ : Pt).sub c1 R.length := ⟨_, rfl⟩
      simp only [← hp1] at s1 t1 u1
      simp only [← hp2] at s2 t2 u2
      simp only [← hp3] at s3 t3 u3
      have S1 : Hid (∀ X, (Instr.slice 28 (.slice ra R.length rc) none (some (.int .i64 (h2 : Int))) none).run Try.prog X = .ok (.slice p1.a p1.l.length p1.c) X) := Lib.hid s1
      have S2 : Hid (∀ X, (Instr.slice 28 (.slice ra R.length rc) (some (.int .i64 (h2 : Int))) (some (.int .i64 (c1 : Int))) none).run Try.prog X = .ok (.slice p2.a p2.l.length p2.c) X) := Lib.hid s2
      have S3 : Hid (∀ X, (Instr.slice 28 (.slice ra R.length rc) (some (.int .i64 (c1 : Int))) none none).run Try.prog X = .ok (.slice p3.a p3.l.length p3.c) X) := Lib.hid s3
      clear s1 s2 s3 hp1 hp2 hp3
      have HC1 := Lib.hid hc1
      have HFL : Hid ([p1.l, [], p2.l].flatten = R.take c1) := Lib.hid (by rw [u1.out, u2.out]; exact three_flat R h2 c1 hh1)
      have HTL : Hid ((R.take c1).length = c1) := Lib.hid (by rw [List.length_take]; omega)
      clear hc1 hh hh1 RW u1 u2
      clear kd
      generalize hX : hideL ws N 0 (L.take k) = got at *
      have HX := Lib.hid hX
      have HXL : Hid (got.length = k) := Lib.hid (by rw [← hX, hideL_length, List.length_take]; have := HK.out; omega)
      clear hX
      refine wp_region_noPanic ?_
      refine wp_region_held_drew (S := fun _ => True) (by kernel_rfl) trivial (fun hH => ?_)
      refine wpAnyH_take (i := 0) (oi := { dst := some 96, op := Op.move (Operand.tmp 14), type := 28, pos := "law.go:91", after := #[], guard := none }) (v := u14) rfl (by kernel_rfl) (by kernel_rfl) (by kernel_rfl) (fun _ _ _ h => h) (Or.inl ⟨by rfl, fun wx hS => ?_⟩) hH ?_
      · go_simp
      simp only [Act.put, List.setIfInBounds_toArray, List.set_cons_zero, List.set_cons_succ]
      refine wpAnyH_take (i := 1) (oi := { dst := some 97, op := Op.move (Operand.tmp 9), type := 29, pos := "law.go:91", after := #[], guard := none }) (v := .pointer (some ⟨hb, 0, none⟩)) rfl (by kernel_rfl) (by kernel_rfl) (by kernel_rfl) (fun _ _ _ h => h) (Or.inl ⟨by rfl, fun wx hS => ?_⟩) hH ?_
      · go_simp
      simp only [Act.put, List.setIfInBounds_toArray, List.set_cons_zero, List.set_cons_succ]
      refine wpAnyH_take (i := 2) (oi := { dst := some 98, op := Op.move (Operand.tmp 15), type := 28, pos := "law.go:91", after := #[], guard := none }) (v := .slice ra R.length rc) rfl (by kernel_rfl) (by kernel_rfl) (by kernel_rfl) (fun _ _ _ h => h) (Or.inl ⟨by rfl, fun wx hS => ?_⟩) hH ?_
      · go_simp
      simp only [Act.put, List.setIfInBounds_toArray, List.set_cons_zero, List.set_cons_succ]
      refine wpAnyH_take (i := 3) (oi := { dst := some 99, op := Op.move (Operand.tmp 17), type := 3, pos := "law.go:91", after := #[], guard := none }) (v := .int .i64 (c1 : Int)) rfl (by kernel_rfl) (by kernel_rfl) (by kernel_rfl) (fun _ _ _ h => h) (Or.inl ⟨by rfl, fun wx hS => ?_⟩) hH ?_
      · go_simp
      simp only [Act.put, List.setIfInBounds_toArray, List.set_cons_zero, List.set_cons_succ]
      refine wpAnyH_take (i := 4) (oi := { dst := some 100, op := Op.binOp BinOp.quo 3 (Operand.tmp 99) (Operand.const (Value.int IntKind.i64 2)) 3, type := 3, pos := "law.go:91", after := #[{ on := 3, ground := Ground.data }], guard := none }) (v := .int .i64 (h2 : Int)) rfl (by kernel_rfl) (by kernel_rfl) (by kernel_rfl) (fun _ _ _ h => h) (Or.inl ⟨by rfl, fun wx hS => ?_⟩) hH ?_
      · have e1 := q1; have e2 := q0; go_simp
      simp only [Act.put, List.setIfInBounds_toArray, List.set_cons_zero, List.set_cons_succ]
      refine wpAnyH_take (i := 5) (oi := { dst := some 101, op := Op.slice 28 (Operand.tmp 98) none (some (Operand.tmp 100)) none, type := 28, pos := "law.go:91", after := #[{ on := 2, ground := Ground.data }, { on := 4, ground := Ground.data }], guard := none }) (v := .slice p1.a p1.l.length p1.c) rfl (by kernel_rfl) (by kernel_rfl) (by kernel_rfl) (fun _ _ _ h => h) (Or.inl ⟨by rfl, fun wx hS => ?_⟩) hH ?_
      · have e1 := S1.out wx; go_simp
      simp only [Act.put, List.setIfInBounds_toArray, List.set_cons_zero, List.set_cons_succ]
      refine wpAnyH_take (i := 6) (oi := { dst := some 102, op := Op.move (Operand.tmp 15), type := 28, pos := "law.go:91", after := #[], guard := none }) (v := .slice ra R.length rc) rfl (by kernel_rfl) (by kernel_rfl) (by kernel_rfl) (fun _ _ _ h => h) (Or.inl ⟨by rfl, fun wx hS => ?_⟩) hH ?_
      · go_simp
      simp only [Act.put, List.setIfInBounds_toArray, List.set_cons_zero, List.set_cons_succ]
      refine wpAnyH_take (i := 7) (oi := { dst := some 103, op := Op.move (Operand.tmp 17), type := 3, pos := "law.go:91", after := #[], guard := none }) (v := .int .i64 (c1 : Int)) rfl (by kernel_rfl) (by kernel_rfl) (by kernel_rfl) (fun _ _ _ h => h) (Or.inl ⟨by rfl, fun wx hS => ?_⟩) hH ?_
      · go_simp
      simp only [Act.put, List.setIfInBounds_toArray, List.set_cons_zero, List.set_cons_succ]
      refine wpAnyH_take (i := 8) (oi := { dst := some 104, op := Op.binOp BinOp.quo 3 (Operand.tmp 103) (Operand.const (Value.int IntKind.i64 2)) 3, type := 3, pos := "law.go:91", after := #[{ on := 7, ground := Ground.data }], guard := none }) (v := .int .i64 (h2 : Int)) rfl (by kernel_rfl) (by kernel_rfl) (by kernel_rfl) (fun _ _ _ h => h) (Or.inl ⟨by rfl, fun wx hS => ?_⟩) hH ?_
      · have e1 := q1; have e2 := q0; go_simp
      simp only [Act.put, List.setIfInBounds_toArray, List.set_cons_zero, List.set_cons_succ]
      refine wpAnyH_take (i := 9) (oi := { dst := some 105, op := Op.move (Operand.tmp 17), type := 3, pos := "law.go:91", after := #[], guard := none }) (v := .int .i64 (c1 : Int)) rfl (by kernel_rfl) (by kernel_rfl) (by kernel_rfl) (fun _ _ _ h => h) (Or.inl ⟨by rfl, fun wx hS => ?_⟩) hH ?_
      · go_simp
      simp only [Act.put, List.setIfInBounds_toArray, List.set_cons_zero, List.set_cons_succ]
      refine wpAnyH_take (i := 10) (oi := { dst := some 106, op := Op.slice 28 (Operand.tmp 102) (some (Operand.tmp 104)) (some (Operand.tmp 105)) none, type := 28, pos := "law.go:91", after := #[{ on := 6, ground := Ground.data }, { on := 8, ground := Ground.data }, { on := 9, ground := Ground.data }], guard := none }) (v := .slice p2.a p2.l.length p2.c) rfl (by kernel_rfl) (by kernel_rfl) (by kernel_rfl) (fun _ _ _ h => h) (Or.inl ⟨by rfl, fun wx hS => ?_⟩) hH ?_
      · have e1 := S2.out wx; go_simp
      simp only [Act.put, List.setIfInBounds_toArray, List.set_cons_zero, List.set_cons_succ]
      clear S1 S2 hH q0 q1
      refine wpAnyH_ready (rs := [11]) (by kernel_rfl) (by simp) ?_
      refine AllReadyH.cons (o := { dst := some 107, op := Op.buildSlice 76 3 #[(0, Operand.tmp 101), (1, Operand.const (Value.slice none 0 0)), (2, Operand.tmp 106)], type := 76, pos := "law.go:91", after := #[{ on := 5, ground := Ground.data }, { on := 10, ground := Ground.data }], guard := none }) rfl (fun KK hKK => ?_) AllReadyH.nil
      go_simp
      have kb : Below wr.heap.size wr (wr.alloc (.cells [Value.slice p1.a p1.l.length p1.c, .slice none 0 0, .slice p2.a p2.l.length p2.c].toArray 28 (0, 0))).drew := below_drew' (alloc_below wr _)
      have LB : Hid (blockIs (wr.alloc (.cells [Value.slice p1.a p1.l.length p1.c, .slice none 0 0, .slice p2.a p2.l.length p2.c].toArray 28 (0, 0))).drew wr.heap.size [Value.slice p1.a p1.l.length p1.c, .slice none 0 0, .slice p2.a p2.l.length p2.c] 28) := Lib.hid (blockIs.new wr _ _)
      have FE := Lib.hid (FH.out.below kb FH.out.lt)
      have GE := Lib.hid (GO.out.kept kb)
      have BE := Lib.hid (BT.out.upto kb)
      have HGX := Lib.hid (Nat.le_trans BT.out.size kb.size)
      clear kb FH GO
      refine hKK.out _ _ trivial (fun hH => ?_)
      clear hKK KK hH
      try simp only [Act.put, List.setIfInBounds_toArray, List.set_cons_zero, List.set_cons_succ]
      generalize (wr.alloc (.cells #[Value.slice p1.a p1.l.length p1.c, .slice none 0 0, .slice p2.a p2.l.length p2.c] 28 (0, 0))).drew = x1 at *
      generalize wr.heap.size = q1 at *
      have HKB : Hid (blockIs x1 g (keyRow ws) 59) := Lib.hid (BE.out.is T9.out.2.2.1 (by have := O.out; omega))
      have HH := hide_any hb g ws N k (some ⟨q1, 0, none⟩) 3 [p1.l, [], p2.l] x1 HNL.out (by have := HK.out; have := HL400.out; omega) (by simp) (by rw [HFL.out, HTL.out]; have := HC1.out; have := HR4.out; omega) FE.out HKB.out (by have := O.out; omega) (lit_three LB.out (t1.out x1 BE.out) (t2.out x1 BE.out))
      rw [HFL.out, HTL.out, show ([p1.l, [], p2.l] : List (List UInt8)).length = 3 from rfl] at HH
      refine wpAnyH_ready (rs := [12]) (by kernel_rfl) (by simp) ?_
      refine AllReadyH.cons (o := { dst := some 108, op := Op.call { callee := Callee.value (Operand.func 18), args := #[Operand.tmp 97, Operand.tmp 107], argTypes := #[29, 76] }, type := 28, pos := "law.go:91", after := #[{ on := 1, ground := Ground.data }, { on := 11, ground := Ground.data }], guard := none }) rfl (fun KK hKK => ?_) AllReadyH.nil
      go_simp
      with_reducible refine HH.mono ?_
      clear HH
      rintro e x2 ⟨v2, rfl, own2, hfl, hbut⟩
      obtain ⟨ta, tc, rfl, _, _, tb, tn⟩ := own2.form
      have GF := Lib.hid (GE.out.but hbut (by have := T9.out.2.1.lt; omega))
      have BF := Lib.hid (BE.out.trans hbut)
      have FF := Lib.hid hfl
      have TB := Lib.hid tb
      have TN := Lib.hid tn
      have HGY := Lib.hid (Nat.le_trans HGX.out hbut.size)
      clear own2 hfl hbut tb tn FE GE BE HGX LB HKB t1 t2
      refine hKK.out _ _ trivial (fun hH => ?_)
      clear hKK KK hH
      try simp only [Act.put, List.setIfInBounds_toArray, List.set_cons_zero, List.set_cons_succ]
      refine wpAnyH_ready (rs := [13]) (by kernel_rfl) (by simp) ?_
      refine AllReadyH.cons (o := { dst := some 109, op := Op.call { callee := Callee.builtin Builtin.append, args := #[Operand.tmp 96, Operand.tmp 108], argTypes := #[28, 28] }, type := 28, pos := "law.go:91", after := #[{ on := 0, ground := Ground.data }, { on := 12, ground := Ground.data }, { on := 12, ground := Ground.chain }], guard := none }) rfl (fun KK hKK => ?_) AllReadyH.nil
      refine step_append_ownB rfl _ _ rfl w9.heap.size u14 got rfl GF.out ta _ tc (hideL ws N k (R.take c1)) rfl rfl TN.out TB.out (by rw [HXL.out, hideL_length, HTL.out]; have := HK.out; have := HL400.out; have := HC1.out; have := HR4.out; omega) HGY.out ?_
      intro v3 x3 r1 r2
      have r1 := r1.out
      rw [← HX.out, HR.out, hide_step ws N L k c1 HK.out] at r1
      have GG := Lib.hid r1
      have FG := Lib.hid (FF.out.below r2.out T9.out.2.1.lt)
      have BG : Hid (But hb w9 x3) := Lib.hid (BF.out.over r2.out)
      clear r1 r2 GF BF FF TB TN HGY
      refine hKK.out _ _ trivial (fun hH => ?_)
      clear hKK KK hH
      try simp only [Act.put, List.setIfInBounds_toArray, List.set_cons_zero, List.set_cons_succ]
      refine wpAnyH_ready (rs := [14]) (by kernel_rfl) (by simp) ?_
      refine AllReadyH.cons (o := { dst := some 14, op := Op.assign (Operand.tmp 109), type := 28, pos := "law.go:91", after := #[{ on := 13, ground := Ground.data }, { on := 13, ground := Ground.chain }, { on := 0, ground := Ground.phase }, { on := 1, ground := Ground.phase }, { on := 2, ground := Ground.phase }, { on := 3, ground := Ground.phase }, { on := 4, ground := Ground.phase }, { on := 5, ground := Ground.phase }, { on := 6, ground := Ground.phase }, { on := 7, ground := Ground.phase }, { on := 8, ground := Ground.phase }, { on := 9, ground := Ground.phase }, { on := 10, ground := Ground.phase }, { on := 11, ground := Ground.phase }, { on := 12, ground := Ground.phase }, { on := 13, ground := Ground.phase }], guard := none }) rfl (fun KK hKK => ?_) AllReadyH.nil
      go_simp
      refine hKK.out _ _ trivial (fun hH => ?_)
      clear hKK KK hH
      try simp only [Act.put, List.setIfInBounds_toArray, List.set_cons_zero, List.set_cons_succ]
      refine wpAnyH_done (by kernel_rfl) ?_ _
      refine NoPanic.normal ?_
      have e1 := S3.out
      have j1 : IntKind.i64.wrap ((j : Int) + 1) = (j : Int) + 1 := IntWalk.i64_in _ (by omega)
      go_wp2_with fail
      have HL3 : p3.l = L.drop (k + c1) := by rw [u3.out, HR.out, List.drop_drop]
      refine ⟨⟨k + c1, j + 1, p3.a, p3.c, by go_num, by omega, ?_, by rw [← HL3], GG.out, fun Y hY => ?_, FG.out, BG.out⟩, ?_⟩
      · have := HC1.out; have := HRL.out; have := HK.out; omega
      · rw [← HL3]; exact t3.out Y hY
      · simp [intOf]; omega
    · by_cases h1 : (j : Int) < (zs.length : Int)
      · by_cases h2 : (j : Int) < 10
        · have h3 : ¬ (0 < (R.length : Int)) := by have := HRL.out; omega
          have RW := Lib.hid (RO.out wr BT.out)
          have y2 := Lib.hid (blockIs.new wr [.slice ra R.length rc] 28)
          have k3 := alloc_below wr (.cells [Value.slice ra R.length rc].toArray 28 (0, 0))
          have RP := Lib.hid (RW.out.below k3)
          have FE := Lib.hid (FH.out.below k3 FH.out.lt)
          have GE := Lib.hid (GO.out.kept k3)
          have BE := Lib.hid (BT.out.upto k3)
          have HGX := Lib.hid (Nat.le_trans BT.out.size k3.size)
          have HKB := Lib.hid (BE.out.is T9.out.2.2.1 (by have := O.out; omega))
          have HR4 : Hid (R.length ≤ 400) := Lib.hid (by have := HRL.out; have := HL400.out; omega)
          have HKR : Hid (k + R.length = L.length) := Lib.hid (by have := HRL.out; have := HK.out; omega)
          have HH := Lib.hid (hide_any hb g ws N k (some ⟨wr.heap.size, 0, none⟩) 1 [R] _ HNL.out (by have := HK.out; have := HL400.out; omega) (by simp) (by have := HR4.out; simp; omega) FE.out HKB.out (by have := O.out; omega) (lit_parts y2.out RW.out.2.1 RP.out.1.2.2))
          rw [show [R].flatten = R by simp, show ([R] : List (List UInt8)).length = 1 from rfl, HKR.out] at HH
          generalize hX : hideL ws N 0 (L.take k) = got at *
          have HX := Lib.hid hX
          have HXL : Hid (got.length + R.length ≤ 1000000) := Lib.hid (by rw [← hX, hideL_length, List.length_take]; have := HK.out; have := HR4.out; have := HL400.out; omega)
          clear hX k3 y2 RW RP FH GO HKB
          go_wp2_with fail
          generalize wr.alloc (.cells #[Value.slice ra R.length rc] 28 (0, 0)) = z1 at *
          with_reducible refine HH.out.mono ?_
          rintro e z2 ⟨v2, rfl, own2, hfl, hbut⟩
          obtain ⟨ta, tc, rfl, _, _, tb, tn⟩ := own2.form
          have GF := Lib.hid (GE.out.but hbut (by have := T9.out.2.1.lt; omega))
          have BF := Lib.hid (BE.out.trans hbut)
          have FF := Lib.hid hfl
          have TB := Lib.hid tb
          have TN := Lib.hid tn
          have HGY := Lib.hid (Nat.le_trans HGX.out hbut.size)
          have HLE : Hid (got.length + (hideL ws N k R).length ≤ 1000000) := Lib.hid (by rw [hideL_length]; exact HXL.out)
          clear own2 hfl hbut tb tn FE GE BE HGX HH
          go_upto_region 18 with (at_builtin; refine wpList_append_ownB rfl _ _ rfl w9.heap.size u14 got rfl GF.out ta _ tc (hideL ws N k R) rfl rfl TN.out TB.out HLE.out HGY.out ?_; intro v3 z3 r1 r2)
          have r1 := r1.out
          rw [← HX.out, HR.out, hide_rest ws N L k HK.out, ← HS.out] at r1
          have BG : Hid (But hb w9 z3) := Lib.hid (BF.out.over r2.out)
          have FG := Lib.hid (FF.out.below r2.out T9.out.2.1.lt)
          obtain ⟨ga, gc, rfl, _, _, gb, _⟩ := r1.form
          have cv1 := conv_string z3 ga S gc gb
          have SB : bytesIn z3 sa S := by
            obtain ⟨a', c', e, _, _, h, _⟩ := (SO.out.but BG.out HHS.out).form
            cases e
            exact h
          have cv2 := conv_string z3 sa S sc SB
          have cv3 := conv_string z3 ba L bc (OB9.out.but BG.out HHB.out).1.2.2
          have HAT := Lib.hid (at_ok hb g N L.length z3 HNL.out FG.out)
          have HKC := Lib.hid (BG.out.is T9.out.2.2.1 (by have := O.out; omega))
          have HN0 := Lib.hid (hide_any hb g ws N L.length none 0 [] z3 HNL.out (by have := HL400.out; omega) (by decide) (by decide) FG.out HKC.out (by have := O.out; omega) (Or.inl rfl))
          rw [show hideL ws N L.length ([] : List (List UInt8)).flatten = [] from rfl, show ([] : List (List UInt8)).length = 0 from rfl] at HN0
          clear r1 r2 gb SB GF BF FF TB TN HGY HLE HXL HX HKC
          go_wp2_with fail
          with_reducible refine HAT.out.mono ?_
          rintro e z4 ⟨rfl, rfl⟩
          go_wp2_with fail
          with_reducible refine HN0.out.mono ?_
          rintro e z4 ⟨v5, rfl, own5, hfl5, hbut5⟩
          obtain ⟨na, nc, rfl, _, _, _, _⟩ := own5.form
          have BZ := Lib.hid (BG.out.trans hbut5)
          have TZ := Lib.hid (two.second T9.out BZ.out hfl5 O.out)
          have HSK := Lib.hid (seek_ok fb g N L.length 0 z4 HNL.out (by decide) TZ.out.1)
          rw [show ((0 : Nat) : Int) = 0 from rfl] at HSK
          clear own5 hfl5 hbut5 cv1 cv2 cv3 HN0 HAT
          go_wp2_with fail
          with_reducible refine HSK.out.mono ?_
          rintro e z5 ⟨rfl, hf5, hb5⟩
          have TS := Lib.hid (two.first TZ.out hb5 hf5 O.out)
          have SO5 := Lib.hid ((SO.out.but BZ.out HHS.out).but hb5 (by have := HHS.out; have := O.out; omega))
          have PS : Hid (Pt.own base2 z5 ⟨sa, sc, S⟩) := Lib.hid (by
            obtain ⟨a', c', e, h⟩ := Pt.own_of SO5.out
            cases e
            exact h)
          have y4 := Lib.hid (blockIs.new z5 [.slice sa S.length sc] 28)
          have k4 := alloc_below z5 (.cells [Value.slice sa S.length sc].toArray 28 (0, 0))
          have TU := Lib.hid (two.below TS.out k4)
          have SO6 := Lib.hid (SO5.out.kept k4)
          have HS4 : Hid (S.length ≤ 400) := Lib.hid (by rw [HSL.out]; exact HL400.out)
          have HH2 := Lib.hid (hide_any fb g ws N 0 (some ⟨z5.heap.size, 0, none⟩) 1 [S] _ HNL.out (by decide) (by simp) (by have := HS4.out; simp; omega) TU.out.1 TU.out.2.2.1 (by have := O.out; omega) (lit_parts y4.out PS.out.2.1 (PS.out.below k4).1.2.2))
          have HSS : hideL ws N 0 S = L := by rw [HS.out, hide_hide]
          rw [show [S].flatten = S by simp, show ([S] : List (List UInt8)).length = 1 from rfl, HSS] at HH2
          clear hf5 hb5 TZ BZ y4 k4 HSS SO5 PS TS HSK
          go_wp2_with fail
          generalize z5.alloc (.cells #[Value.slice sa S.length sc] 28 (0, 0)) = z6 at *
          with_reducible refine HH2.out.mono ?_
          rintro e z7 ⟨v7, rfl, own7, hfl7, hbut7⟩
          obtain ⟨pa, pc, rfl, _, _, _, _⟩ := own7.form
          obtain ⟨q, hq⟩ : ∃ q : Nat, S ≠ [] → sa = some ⟨q, 0, none⟩ ∧ q < z6.heap.size ∧ w.heap.size ≤ q ∧ rowF z7 q S := by
            by_cases h0 : S = []
            · exact ⟨0, fun h => absurd h0 h⟩
            · obtain ⟨q, cap, rest, e, hb1, hb2, _⟩ := SO6.out.block h0
              cases e
              have hb3 := hbut7.is hb2 (by have := HHS.out; have := O.out; omega)
              refine ⟨q, fun _ => ⟨rfl, hb2.lt, by have := HHS.out; have := O.out; omega, fun i hi => ?_, fun i hi => ?_⟩⟩
              · rw [hb3.cell, List.getElem?_append_left (by rw [byteCells_length]; exact hi)]
                exact byteCells_get S i hi
              · have h : z7.heap[q]? = _ := hb3
                simp [World.frozen?, h]
          have PL := Lib.hid own7
          have BW : Hid (Below w.heap.size w z7) := Lib.hid (TU.out.2.2.2.trans (hbut7.below (by have := O.out; omega) TU.out.2.2.2.size))
          have HQ := Lib.hid hq
          clear hq own7 hfl7 hbut7 HH2 SO6 TU
          generalize z6.heap.size = PB at *
          go_wp2_with fail
          go_loopw [19] (fun i wy => ∃ m : Nat, m ≤ S.length ∧ i = .int .i64 m ∧ ownB wy PB (.slice pa L.length pc) L ∧ Below w.heap.size w wy ∧ (S ≠ [] → ∃ l : List UInt8, l.length = S.length ∧ rowF wy q l)) (fun i _ => S.length - (intOf i).toNat)
          case atStart => exact ⟨0, Nat.zero_le _, rfl, PL.out, BW.out, fun h => ⟨S, rfl, (HQ.out h).2.2.2⟩⟩
          case round =>
            obtain ⟨m, hm, rfl, own, hbl, hrow⟩ := hrel
            have PW := Lib.hid own
            have BY := Lib.hid hbl
            have RY := Lib.hid hrow
            clear own hbl hrow
            by_cases hlt : m < S.length
            · have hne : S ≠ [] := fun h => by rw [h] at hlt; exact absurd hlt (Nat.not_lt_zero _)
              obtain ⟨l, hl, hrow⟩ := RY.out hne
              obtain ⟨rfl, hq1, hq2, _⟩ := HQ.out hne
              have NR := Lib.hid (hrow.set m (by omega) 85)
              have d1 := hrow.1 m (by omega)
              have d2 := hrow.2 m (by omega)
              have HQ1 := Lib.hid hq1
              have HQ2 := Lib.hid hq2
              have HLS := Lib.hid hl
              generalize V (l.getD m 0) = old at *
              have p0 : 0 ≤ (m : Int) := by omega
              have p1 : (m : Int) < (S.length : Int) := by omega
              have j2 : IntKind.i64.wrap ((m : Int) + 1) = (m : Int) + 1 := IntWalk.i64_in _ (by have := HS4.out; omega)
              clear hrow hl hq1 hq2
              go_wp2_with fail
              go_roundw
              case rel => exact ⟨m + 1, by omega, by go_num, PW.out.other _ _ HQ1.out, BY.out.setCell HQ2.out _, fun _ => ⟨l.set m 85, by rw [List.length_set]; exact HLS.out, NR.out⟩⟩
              case measure => simp [intOf]; omega
            · obtain rfl : m = S.length := by omega
              have cv5 : (convert 28 9 (.slice pa L.length pc)).run Try.prog wr = .ok (.string (str L)) wr := conv_string _ pa L pc (by
                obtain ⟨a', c', e, _, _, h, _⟩ := PW.out.form
                cases e
                exact h)
              go_wp2_with fail
              go_ret
              exact ⟨rfl, BY.out⟩
        · skip
          have RW := Lib.hid (RO.out wr BT.out)
          have y2 := Lib.hid (blockIs.new wr [.slice ra R.length rc] 28)
          have k3 := alloc_below wr (.cells [Value.slice ra R.length rc].toArray 28 (0, 0))
          have RP := Lib.hid (RW.out.below k3)
          have FE := Lib.hid (FH.out.below k3 FH.out.lt)
          have GE := Lib.hid (GO.out.kept k3)
          have BE := Lib.hid (BT.out.upto k3)
          have HGX := Lib.hid (Nat.le_trans BT.out.size k3.size)
          have HKB := Lib.hid (BE.out.is T9.out.2.2.1 (by have := O.out; omega))
          have HR4 : Hid (R.length ≤ 400) := Lib.hid (by have := HRL.out; have := HL400.out; omega)
          have HKR : Hid (k + R.length = L.length) := Lib.hid (by have := HRL.out; have := HK.out; omega)
          have HH := Lib.hid (hide_any hb g ws N k (some ⟨wr.heap.size, 0, none⟩) 1 [R] _ HNL.out (by have := HK.out; have := HL400.out; omega) (by simp) (by have := HR4.out; simp; omega) FE.out HKB.out (by have := O.out; omega) (lit_parts y2.out RW.out.2.1 RP.out.1.2.2))
          rw [show [R].flatten = R by simp, show ([R] : List (List UInt8)).length = 1 from rfl, HKR.out] at HH
          generalize hX : hideL ws N 0 (L.take k) = got at *
          have HX := Lib.hid hX
          have HXL : Hid (got.length + R.length ≤ 1000000) := Lib.hid (by rw [← hX, hideL_length, List.length_take]; have := HK.out; have := HR4.out; have := HL400.out; omega)
          clear hX k3 y2 RW RP FH GO HKB
          go_wp2_with fail
          generalize wr.alloc (.cells #[Value.slice ra R.length rc] 28 (0, 0)) = z1 at *
          with_reducible refine HH.out.mono ?_
          rintro e z2 ⟨v2, rfl, own2, hfl, hbut⟩
          obtain ⟨ta, tc, rfl, _, _, tb, tn⟩ := own2.form
          have GF := Lib.hid (GE.out.but hbut (by have := T9.out.2.1.lt; omega))
          have BF := Lib.hid (BE.out.trans hbut)
          have FF := Lib.hid hfl
          have TB := Lib.hid tb
          have TN := Lib.hid tn
          have HGY := Lib.hid (Nat.le_trans HGX.out hbut.size)
          have HLE : Hid (got.length + (hideL ws N k R).length ≤ 1000000) := Lib.hid (by rw [hideL_length]; exact HXL.out)
          clear own2 hfl hbut tb tn FE GE BE HGX HH
          go_upto_region 18 with (at_builtin; refine wpList_append_ownB rfl _ _ rfl w9.heap.size u14 got rfl GF.out ta _ tc (hideL ws N k R) rfl rfl TN.out TB.out HLE.out HGY.out ?_; intro v3 z3 r1 r2)
          have r1 := r1.out
          rw [← HX.out, HR.out, hide_rest ws N L k HK.out, ← HS.out] at r1
          have BG : Hid (But hb w9 z3) := Lib.hid (BF.out.over r2.out)
          have FG := Lib.hid (FF.out.below r2.out T9.out.2.1.lt)
          obtain ⟨ga, gc, rfl, _, _, gb, _⟩ := r1.form
          have cv1 := conv_string z3 ga S gc gb
          have SB : bytesIn z3 sa S := by
            obtain ⟨a', c', e, _, _, h, _⟩ := (SO.out.but BG.out HHS.out).form
            cases e
            exact h
          have cv2 := conv_string z3 sa S sc SB
          have cv3 := conv_string z3 ba L bc (OB9.out.but BG.out HHB.out).1.2.2
          have HAT := Lib.hid (at_ok hb g N L.length z3 HNL.out FG.out)
          have HKC := Lib.hid (BG.out.is T9.out.2.2.1 (by have := O.out; omega))
          have HN0 := Lib.hid (hide_any hb g ws N L.length none 0 [] z3 HNL.out (by have := HL400.out; omega) (by decide) (by decide) FG.out HKC.out (by have := O.out; omega) (Or.inl rfl))
          rw [show hideL ws N L.length ([] : List (List UInt8)).flatten = [] from rfl, show ([] : List (List UInt8)).length = 0 from rfl] at HN0
          clear r1 r2 gb SB GF BF FF TB TN HGY HLE HXL HX HKC
          go_wp2_with fail
          with_reducible refine HAT.out.mono ?_
          rintro e z4 ⟨rfl, rfl⟩
          go_wp2_with fail
          with_reducible refine HN0.out.mono ?_
          rintro e z4 ⟨v5, rfl, own5, hfl5, hbut5⟩
          obtain ⟨na, nc, rfl, _, _, _, _⟩ := own5.form
          have BZ := Lib.hid (BG.out.trans hbut5)
          have TZ := Lib.hid (two.second T9.out BZ.out hfl5 O.out)
          have HSK := Lib.hid (seek_ok fb g N L.length 0 z4 HNL.out (by decide) TZ.out.1)
          rw [show ((0 : Nat) : Int) = 0 from rfl] at HSK
          clear own5 hfl5 hbut5 cv1 cv2 cv3 HN0 HAT
          go_wp2_with fail
          with_reducible refine HSK.out.mono ?_
          rintro e z5 ⟨rfl, hf5, hb5⟩
          have TS := Lib.hid (two.first TZ.out hb5 hf5 O.out)
          have SO5 := Lib.hid ((SO.out.but BZ.out HHS.out).but hb5 (by have := HHS.out; have := O.out; omega))
          have PS : Hid (Pt.own base2 z5 ⟨sa, sc, S⟩) := Lib.hid (by
            obtain ⟨a', c', e, h⟩ := Pt.own_of SO5.out
            cases e
            exact h)
          have y4 := Lib.hid (blockIs.new z5 [.slice sa S.length sc] 28)
          have k4 := alloc_below z5 (.cells [Value.slice sa S.length sc].toArray 28 (0, 0))
          have TU := Lib.hid (two.below TS.out k4)
          have SO6 := Lib.hid (SO5.out.kept k4)
          have HS4 : Hid (S.length ≤ 400) := Lib.hid (by rw [HSL.out]; exact HL400.out)
          have HH2 := Lib.hid (hide_any fb g ws N 0 (some ⟨z5.heap.size, 0, none⟩) 1 [S] _ HNL.out (by decide) (by simp) (by have := HS4.out; simp; omega) TU.out.1 TU.out.2.2.1 (by have := O.out; omega) (lit_parts y4.out PS.out.2.1 (PS.out.below k4).1.2.2))
          have HSS : hideL ws N 0 S = L := by rw [HS.out, hide_hide]
          rw [show [S].flatten = S by simp, show ([S] : List (List UInt8)).length = 1 from rfl, HSS] at HH2
          clear hf5 hb5 TZ BZ y4 k4 HSS SO5 PS TS HSK
          go_wp2_with fail
          generalize z5.alloc (.cells #[Value.slice sa S.length sc] 28 (0, 0)) = z6 at *
          with_reducible refine HH2.out.mono ?_
          rintro e z7 ⟨v7, rfl, own7, hfl7, hbut7⟩
          obtain ⟨pa, pc, rfl, _, _, _, _⟩ := own7.form
          obtain ⟨q, hq⟩ : ∃ q : Nat, S ≠ [] → sa = some ⟨q, 0, none⟩ ∧ q < z6.heap.size ∧ w.heap.size ≤ q ∧ rowF z7 q S := by
            by_cases h0 : S = []
            · exact ⟨0, fun h => absurd h0 h⟩
            · obtain ⟨q, cap, rest, e, hb1, hb2, _⟩ := SO6.out.block h0
              cases e
              have hb3 := hbut7.is hb2 (by have := HHS.out; have := O.out; omega)
              refine ⟨q, fun _ => ⟨rfl, hb2.lt, by have := HHS.out; have := O.out; omega, fun i hi => ?_, fun i hi => ?_⟩⟩
              · rw [hb3.cell, List.getElem?_append_left (by rw [byteCells_length]; exact hi)]
                exact byteCells_get S i hi
              · have h : z7.heap[q]? = _ := hb3
                simp [World.frozen?, h]
          have PL := Lib.hid own7
          have BW : Hid (Below w.heap.size w z7) := Lib.hid (TU.out.2.2.2.trans (hbut7.below (by have := O.out; omega) TU.out.2.2.2.size))
          have HQ := Lib.hid hq
          clear hq own7 hfl7 hbut7 HH2 SO6 TU
          generalize z6.heap.size = PB at *
          go_wp2_with fail
          go_loopw [19] (fun i wy => ∃ m : Nat, m ≤ S.length ∧ i = .int .i64 m ∧ ownB wy PB (.slice pa L.length pc) L ∧ Below w.heap.size w wy ∧ (S ≠ [] → ∃ l : List UInt8, l.length = S.length ∧ rowF wy q l)) (fun i _ => S.length - (intOf i).toNat)
          case atStart => exact ⟨0, Nat.zero_le _, rfl, PL.out, BW.out, fun h => ⟨S, rfl, (HQ.out h).2.2.2⟩⟩
          case round =>
            obtain ⟨m, hm, rfl, own, hbl, hrow⟩ := hrel
            have PW := Lib.hid own
            have BY := Lib.hid hbl
            have RY := Lib.hid hrow
            clear own hbl hrow
            by_cases hlt : m < S.length
            · have hne : S ≠ [] := fun h => by rw [h] at hlt; exact absurd hlt (Nat.not_lt_zero _)
              obtain ⟨l, hl, hrow⟩ := RY.out hne
              obtain ⟨rfl, hq1, hq2, _⟩ := HQ.out hne
              have NR := Lib.hid (hrow.set m (by omega) 85)
              have d1 := hrow.1 m (by omega)
              have d2 := hrow.2 m (by omega)
              have HQ1 := Lib.hid hq1
              have HQ2 := Lib.hid hq2
              have HLS := Lib.hid hl
              generalize V (l.getD m 0) = old at *
              have p0 : 0 ≤ (m : Int) := by omega
              have p1 : (m : Int) < (S.length : Int) := by omega
              have j2 : IntKind.i64.wrap ((m : Int) + 1) = (m : Int) + 1 := IntWalk.i64_in _ (by have := HS4.out; omega)
              clear hrow hl hq1 hq2
              go_wp2_with fail
              go_roundw
              case rel => exact ⟨m + 1, by omega, by go_num, PW.out.other _ _ HQ1.out, BY.out.setCell HQ2.out _, fun _ => ⟨l.set m 85, by rw [List.length_set]; exact HLS.out, NR.out⟩⟩
              case measure => simp [intOf]; omega
            · obtain rfl : m = S.length := by omega
              have cv5 : (convert 28 9 (.slice pa L.length pc)).run Try.prog wr = .ok (.string (str L)) wr := conv_string _ pa L pc (by
                obtain ⟨a', c', e, _, _, h, _⟩ := PW.out.form
                cases e
                exact h)
              go_wp2_with fail
              go_ret
              exact ⟨rfl, BY.out⟩
      · skip
        have RW := Lib.hid (RO.out wr BT.out)
        have y2 := Lib.hid (blockIs.new wr [.slice ra R.length rc] 28)
        have k3 := alloc_below wr (.cells [Value.slice ra R.length rc].toArray 28 (0, 0))
        have RP := Lib.hid (RW.out.below k3)
        have FE := Lib.hid (FH.out.below k3 FH.out.lt)
        have GE := Lib.hid (GO.out.kept k3)
        have BE := Lib.hid (BT.out.upto k3)
        have HGX := Lib.hid (Nat.le_trans BT.out.size k3.size)
        have HKB := Lib.hid (BE.out.is T9.out.2.2.1 (by have := O.out; omega))
        have HR4 : Hid (R.length ≤ 400) := Lib.hid (by have := HRL.out; have := HL400.out; omega)
        have HKR : Hid (k + R.length = L.length) := Lib.hid (by have := HRL.out; have := HK.out; omega)
        have HH := Lib.hid (hide_any hb g ws N k (some ⟨wr.heap.size, 0, none⟩) 1 [R] _ HNL.out (by have := HK.out; have := HL400.out; omega) (by simp) (by have := HR4.out; simp; omega) FE.out HKB.out (by have := O.out; omega) (lit_parts y2.out RW.out.2.1 RP.out.1.2.2))
        rw [show [R].flatten = R by simp, show ([R] : List (List UInt8)).length = 1 from rfl, HKR.out] at HH
        generalize hX : hideL ws N 0 (L.take k) = got at *
        have HX := Lib.hid hX
        have HXL : Hid (got.length + R.length ≤ 1000000) := Lib.hid (by rw [← hX, hideL_length, List.length_take]; have := HK.out; have := HR4.out; have := HL400.out; omega)
        clear hX k3 y2 RW RP FH GO HKB
        go_wp2_with fail
        generalize wr.alloc (.cells #[Value.slice ra R.length rc] 28 (0, 0)) = z1 at *
        with_reducible refine HH.out.mono ?_
        rintro e z2 ⟨v2, rfl, own2, hfl, hbut⟩
        obtain ⟨ta, tc, rfl, _, _, tb, tn⟩ := own2.form
        have GF := Lib.hid (GE.out.but hbut (by have := T9.out.2.1.lt; omega))
        have BF := Lib.hid (BE.out.trans hbut)
        have FF := Lib.hid hfl
        have TB := Lib.hid tb
        have TN := Lib.hid tn
        have HGY := Lib.hid (Nat.le_trans HGX.out hbut.size)
        have HLE : Hid (got.length + (hideL ws N k R).length ≤ 1000000) := Lib.hid (by rw [hideL_length]; exact HXL.out)
        clear own2 hfl hbut tb tn FE GE BE HGX HH
        go_upto_region 18 with (at_builtin; refine wpList_append_ownB rfl _ _ rfl w9.heap.size u14 got rfl GF.out ta _ tc (hideL ws N k R) rfl rfl TN.out TB.out HLE.out HGY.out ?_; intro v3 z3 r1 r2)
        have r1 := r1.out
        rw [← HX.out, HR.out, hide_rest ws N L k HK.out, ← HS.out] at r1
        have BG : Hid (But hb w9 z3) := Lib.hid (BF.out.over r2.out)
        have FG := Lib.hid (FF.out.below r2.out T9.out.2.1.lt)
        obtain ⟨ga, gc, rfl, _, _, gb, _⟩ := r1.form
        have cv1 := conv_string z3 ga S gc gb
        have SB : bytesIn z3 sa S := by
          obtain ⟨a', c', e, _, _, h, _⟩ := (SO.out.but BG.out HHS.out).form
          cases e
          exact h
        have cv2 := conv_string z3 sa S sc SB
        have cv3 := conv_string z3 ba L bc (OB9.out.but BG.out HHB.out).1.2.2
        have HAT := Lib.hid (at_ok hb g N L.length z3 HNL.out FG.out)
        have HKC := Lib.hid (BG.out.is T9.out.2.2.1 (by have := O.out; omega))
        have HN0 := Lib.hid (hide_any hb g ws N L.length none 0 [] z3 HNL.out (by have := HL400.out; omega) (by decide) (by decide) FG.out HKC.out (by have := O.out; omega) (Or.inl rfl))
        rw [show hideL ws N L.length ([] : List (List UInt8)).flatten = [] from rfl, show ([] : List (List UInt8)).length = 0 from rfl] at HN0
        clear r1 r2 gb SB GF BF FF TB TN HGY HLE HXL HX HKC
        go_wp2_with fail
        with_reducible refine HAT.out.mono ?_
        rintro e z4 ⟨rfl, rfl⟩
        go_wp2_with fail
        with_reducible refine HN0.out.mono ?_
        rintro e z4 ⟨v5, rfl, own5, hfl5, hbut5⟩
        obtain ⟨na, nc, rfl, _, _, _, _⟩ := own5.form
        have BZ := Lib.hid (BG.out.trans hbut5)
        have TZ := Lib.hid (two.second T9.out BZ.out hfl5 O.out)
        have HSK := Lib.hid (seek_ok fb g N L.length 0 z4 HNL.out (by decide) TZ.out.1)
        rw [show ((0 : Nat) : Int) = 0 from rfl] at HSK
        clear own5 hfl5 hbut5 cv1 cv2 cv3 HN0 HAT
        go_wp2_with fail
        with_reducible refine HSK.out.mono ?_
        rintro e z5 ⟨rfl, hf5, hb5⟩
        have TS := Lib.hid (two.first TZ.out hb5 hf5 O.out)
        have SO5 := Lib.hid ((SO.out.but BZ.out HHS.out).but hb5 (by have := HHS.out; have := O.out; omega))
        have PS : Hid (Pt.own base2 z5 ⟨sa, sc, S⟩) := Lib.hid (by
          obtain ⟨a', c', e, h⟩ := Pt.own_of SO5.out
          cases e
          exact h)
        have y4 := Lib.hid (blockIs.new z5 [.slice sa S.length sc] 28)
        have k4 := alloc_below z5 (.cells [Value.slice sa S.length sc].toArray 28 (0, 0))
        have TU := Lib.hid (two.below TS.out k4)
        have SO6 := Lib.hid (SO5.out.kept k4)
        have HS4 : Hid (S.length ≤ 400) := Lib.hid (by rw [HSL.out]; exact HL400.out)
        have HH2 := Lib.hid (hide_any fb g ws N 0 (some ⟨z5.heap.size, 0, none⟩) 1 [S] _ HNL.out (by decide) (by simp) (by have := HS4.out; simp; omega) TU.out.1 TU.out.2.2.1 (by have := O.out; omega) (lit_parts y4.out PS.out.2.1 (PS.out.below k4).1.2.2))
        have HSS : hideL ws N 0 S = L := by rw [HS.out, hide_hide]
        rw [show [S].flatten = S by simp, show ([S] : List (List UInt8)).length = 1 from rfl, HSS] at HH2
        clear hf5 hb5 TZ BZ y4 k4 HSS SO5 PS TS HSK
        go_wp2_with fail
        generalize z5.alloc (.cells #[Value.slice sa S.length sc] 28 (0, 0)) = z6 at *
        with_reducible refine HH2.out.mono ?_
        rintro e z7 ⟨v7, rfl, own7, hfl7, hbut7⟩
        obtain ⟨pa, pc, rfl, _, _, _, _⟩ := own7.form
        obtain ⟨q, hq⟩ : ∃ q : Nat, S ≠ [] → sa = some ⟨q, 0, none⟩ ∧ q < z6.heap.size ∧ w.heap.size ≤ q ∧ rowF z7 q S := by
          by_cases h0 : S = []
          · exact ⟨0, fun h => absurd h0 h⟩
          · obtain ⟨q, cap, rest, e, hb1, hb2, _⟩ := SO6.out.block h0
            cases e
            have hb3 := hbut7.is hb2 (by have := HHS.out; have := O.out; omega)
            refine ⟨q, fun _ => ⟨rfl, hb2.lt, by have := HHS.out; have := O.out; omega, fun i hi => ?_, fun i hi => ?_⟩⟩
            · rw [hb3.cell, List.getElem?_append_left (by rw [byteCells_length]; exact hi)]
              exact byteCells_get S i hi
            · have h : z7.heap[q]? = _ := hb3
              simp [World.frozen?, h]
        have PL := Lib.hid own7
        have BW : Hid (Below w.heap.size w z7) := Lib.hid (TU.out.2.2.2.trans (hbut7.below (by have := O.out; omega) TU.out.2.2.2.size))
        have HQ := Lib.hid hq
        clear hq own7 hfl7 hbut7 HH2 SO6 TU
        generalize z6.heap.size = PB at *
        go_wp2_with fail
        go_loopw [19] (fun i wy => ∃ m : Nat, m ≤ S.length ∧ i = .int .i64 m ∧ ownB wy PB (.slice pa L.length pc) L ∧ Below w.heap.size w wy ∧ (S ≠ [] → ∃ l : List UInt8, l.length = S.length ∧ rowF wy q l)) (fun i _ => S.length - (intOf i).toNat)
        case atStart => exact ⟨0, Nat.zero_le _, rfl, PL.out, BW.out, fun h => ⟨S, rfl, (HQ.out h).2.2.2⟩⟩
        case round =>
          obtain ⟨m, hm, rfl, own, hbl, hrow⟩ := hrel
          have PW := Lib.hid own
          have BY := Lib.hid hbl
          have RY := Lib.hid hrow
          clear own hbl hrow
          by_cases hlt : m < S.length
          · have hne : S ≠ [] := fun h => by rw [h] at hlt; exact absurd hlt (Nat.not_lt_zero _)
            obtain ⟨l, hl, hrow⟩ := RY.out hne
            obtain ⟨rfl, hq1, hq2, _⟩ := HQ.out hne
            have NR := Lib.hid (hrow.set m (by omega) 85)
            have d1 := hrow.1 m (by omega)
            have d2 := hrow.2 m (by omega)
            have HQ1 := Lib.hid hq1
            have HQ2 := Lib.hid hq2
            have HLS := Lib.hid hl
            generalize V (l.getD m 0) = old at *
            have p0 : 0 ≤ (m : Int) := by omega
            have p1 : (m : Int) < (S.length : Int) := by omega
            have j2 : IntKind.i64.wrap ((m : Int) + 1) = (m : Int) + 1 := IntWalk.i64_in _ (by have := HS4.out; omega)
            clear hrow hl hq1 hq2
            go_wp2_with fail
            go_roundw
            case rel => exact ⟨m + 1, by omega, by go_num, PW.out.other _ _ HQ1.out, BY.out.setCell HQ2.out _, fun _ => ⟨l.set m 85, by rw [List.length_set]; exact HLS.out, NR.out⟩⟩
            case measure => simp [intOf]; omega
          · obtain rfl : m = S.length := by omega
            have cv5 : (convert 28 9 (.slice pa L.length pc)).run Try.prog wr = .ok (.string (str L)) wr := conv_string _ pa L pc (by
              obtain ⟨a', c', e, _, _, h, _⟩ := PW.out.form
              cases e
              exact h)
            go_wp2_with fail
            go_ret
            exact ⟨rfl, BY.out⟩
end Go.Proofs.Ytdgklellmbfocaa
