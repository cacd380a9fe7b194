/- CutBehind: for every rule and all bytes the law returns true, and its arguments read as before. No condition. -/
import Derived.Test.YtefienlfpclekaaCuts
import Derived.Lib.SmallJoins
import Derived.Deep.DeepCutAuto
import Derived.Test.YtefienlfpclekaaStep
namespace Go.Proofs.Ytefienlfpclekaa
open Go.RowKit

set_option maxRecDepth 100000 in
set_option maxHeartbeats 4000000 in
theorem law_cutBehind (la ma ba : Int) (po : W) (a1 : Option Addr) (n1 : Nat) (L1 : List UInt8) (a2 : Option Addr) (n2 : Nat) (L2 : List UInt8) (w : World) (h1 : (Lit.int .i64 la).wf = true) (h2 : (Lit.int .i64 ma).wf = true) (h3 : (Lit.int .i64 ba).wf = true) (hl1 : L1.length ≤ n1) (hin1 : bytesIn w a1 L1) (hz1 : a1 = none → n1 = 0) (hl2 : L2.length ≤ n2) (hin2 : bytesIn w a2 L2) (hz2 : a2 = none → n2 = 0) :
    Calls Try.prog 6 #[.agg #[.int .i64 la, .int .i64 ma, .int .i64 ba, .int .u64 (U po)], .slice a1 L1.length n1, .slice a2 L2.length n2] w fun e w' => e = .returned (.bool true) ∧ Below w.heap.size w w' := by
  have I1 := Lib.hid (hin1.take 2500)
  have Z1 := Lib.hid hz1
  have I2 := Lib.hid (hin2.take 2500)
  have Z2 := Lib.hid hz2
  clear hin1 hz1 hin2 hz2
  have B0 := Lib.hid (blockIs.new w (ruleCells la ma ba po) 24)
  have c0 : (w.alloc (.cells (ruleCells la ma ba po).toArray 24 (0, 0))).cell? ⟨w.heap.size, 0, none⟩ = some (.int .i64 la) := B0.out.cell 0
  have c1 : (w.alloc (.cells (ruleCells la ma ba po).toArray 24 (0, 0))).cell? ⟨w.heap.size, 1, none⟩ = some (.int .i64 ma) := B0.out.cell 1
  have c2 : (w.alloc (.cells (ruleCells la ma ba po).toArray 24 (0, 0))).cell? ⟨w.heap.size, 2, none⟩ = some (.int .i64 ba) := B0.out.cell 2
  have c3 : (w.alloc (.cells (ruleCells la ma ba po).toArray 24 (0, 0))).cell? ⟨w.heap.size, 3, none⟩ = some (.int .u64 (U po)) := B0.out.cell 3
  go_enter Try.func6, Try.ntmps6
  go_upto_region 1 with fail
  go_cut [1, 2] (fun s1 s2 wx => s1 = .slice a1 (min L1.length 2500) n1 ∧ s2 = .slice a2 (min L2.length 2500) n2 ∧ ∃ r : Rl, r.ok ∧ Hid (blockIs wx w.heap.size (ruleCells (r.least : Int) (r.most : Int) (r.bits : Int) r.poly) 24) ∧ Hid (Below w.heap.size w wx))
  case first =>
    go_region_law
      (first
      | (go_simp; go_at_call 10
         with_reducible refine (bytes_any a1 _ _ _ hl1).mono ?_
         rintro e w2 ⟨rfl, rfl⟩)
      | (go_simp; go_at_call 10
         with_reducible refine (bytes_any a2 _ _ _ hl2).mono ?_
         rintro e w2 ⟨rfl, rfl⟩)
      | (go_simp; go_at_call 18
         with_reducible refine (tame_any la ma ba po _ h1 h2 h3).mono ?_
         rintro e w2 ⟨r, hr, rfl, hb⟩
         have B2 := Lib.hid (B0.out.below hb (by simp))
         have c5 : w2.cell? ⟨w.heap.size, 0, none⟩ = some (.int .i64 la) := B2.out.cell 0
         have c6 : w2.cell? ⟨w.heap.size, 1, none⟩ = some (.int .i64 ma) := B2.out.cell 1
         have c7 : w2.cell? ⟨w.heap.size, 2, none⟩ = some (.int .i64 ba) := B2.out.cell 2
         have c8 : w2.cell? ⟨w.heap.size, 3, none⟩ = some (.int .u64 (U po)) := B2.out.cell 3
         have f5 := B2.out.free 0
         have f6 := B2.out.free 1
         have f7 := B2.out.free 2
         have f8 := B2.out.free 3))
    all_goals
      go_wp2_with fail
      go_meet
      case rel =>
        refine ⟨rfl, rfl, r, hr, Lib.hid ((((B2.out.set 0 (.int .i64 (r.least : Int))).set 1 (.int .i64 (r.most : Int))).set 2 (.int .i64 (r.bits : Int))).set 3 (.int .u64 (U r.poly))), Lib.hid ?_⟩
        exact (((((((Below.refl w.heap.size w).alloc (Nat.le_refl _) (.cells (ruleCells la ma ba po).toArray 24 (0, 0))).drew).trans (hb.mono (by simp))).setCell (Nat.le_refl _) _).setCell (Nat.le_refl _) _).setCell (Nat.le_refl _) _).setCell (Nat.le_refl _) _
  obtain ⟨rfl, rfl, r, hr, B3, H3⟩ := hcut
  clear B0 c0 c1 c2 c3
  have c0 : wc.cell? ⟨w.heap.size, 0, none⟩ = some (.int .i64 (r.least : Int)) := B3.out.cell 0
  have c1 : wc.cell? ⟨w.heap.size, 1, none⟩ = some (.int .i64 (r.most : Int)) := B3.out.cell 1
  have c2 : wc.cell? ⟨w.heap.size, 2, none⟩ = some (.int .i64 (r.bits : Int)) := B3.out.cell 2
  have c3 : wc.cell? ⟨w.heap.size, 3, none⟩ = some (.int .u64 (U r.poly)) := B3.out.cell 3
  have e4_1 : min L1.length 2500 = (L1.take 2500).length := by rw [List.length_take]; omega
  have e5_1 : (L1.take 2500).length ≤ 2500 := by rw [List.length_take]; omega
  have e6_1 : (L1.take 2500).length ≤ n1 := by rw [List.length_take]; omega
  rw [e4_1]
  clear e4_1
  have e4_2 : min L2.length 2500 = (L2.take 2500).length := by rw [List.length_take]; omega
  have e5_2 : (L2.take 2500).length ≤ 2500 := by rw [List.length_take]; omega
  have e6_2 : (L2.take 2500).length ≤ n2 := by rw [List.length_take]; omega
  rw [e4_2]
  clear e4_2
  generalize L1.take 2500 = l1 at *
  generalize L2.take 2500 = l2 at *
  go_wp2_with fail
  refine (to_any _ _ _ _ _).mono ?_
  rintro e w4 ⟨rfl, hb⟩
  have H4 := Lib.hid (H3.out.trans (hb.mono H3.out.size))
  have B4 := Lib.hid (B3.out.below hb B3.out.lt)
  clear hb H3 B3 c0 c1 c2 c3
  go_wp2_with fail
  refine (sizes_any r hr a1 l1 n1 w4 e6_1 (by omega) (I1.out.below H4.out (Nat.le_refl _))).mono ?_
  rintro e w5 ⟨v, rfl, hrow, hb⟩
  have H5 := Lib.hid (H4.out.trans (hb.mono H4.out.size))
  have B5 := Lib.hid (B4.out.below hb B4.out.lt)
  obtain ⟨sa, sc, rfl, ll, hv, hz⟩ := hrow.vals
  have V5 := Lib.hid hv
  clear hb hrow hv hz H4 B4
  rw [ivals_length] at ll ⊢
  go_wp2_with fail
  refine (cuts_any _).mono ?_
  rintro e w6 ⟨rfl, hb⟩
  have H6 := Lib.hid (H5.out.trans (hb.mono H5.out.size))
  have B6 := Lib.hid (B5.out.below hb B5.out.lt)
  have V6 := Lib.hid (V5.out.below hb (Nat.le_refl _))
  clear hb H5 B5 V5
  have HL := Lib.hid (r.sizes_len l1)
  have HQ := Lib.hid (r.sizes_sum l1)
  have HB := Lib.hid (r.sizes_behind l1 l2)
  generalize r.sizes l1 = S at *
  go_wp2_with fail
  go_loopw [9, 10, 11] (fun t f i wr => ∃ j : Nat, j ≤ S.length - 1 ∧ i = .int .i64 (j : Int) ∧ t = .int .i64 ((S.take j).sum : Int) ∧ Hid (rowV wr w6.heap.size 3 f (ivals (S.take j))) ∧ Hid (Below w6.heap.size w6 wr)) (fun _ _ i _ => S.length - (intOf i).toNat)
  case atStart => exact ⟨0, Nat.zero_le _, rfl, rfl, Lib.hid (rowV.nil _ _ _), Lib.hid (Below.refl _ _)⟩
  case round =>
    obtain ⟨j, hj, rfl, rfl, K1, K2⟩ := hrel
    have p0 : 0 ≤ (j : Int) := by omega
    have hl25 : (S.length : Int) ≤ 2500 := by have := HL.out; omega
    by_cases hlt : j + 1 < S.length
    · have q0 : (j : Int) + 1 < (S.length : Int) := by omega
      have q1 : (j : Int) < (S.length : Int) := by omega
      obtain ⟨b1, o1, rfl, d1⟩ := (V6.out.below K2.out (Nat.le_refl _)).at j (by rw [ivals_length]; omega)
      have e1 : (ivals S)[j]'(by rw [ivals_length]; omega) = .int .i64 ((S.getD j 0 : Nat) : Int) := by simp [ivals, show j < S.length by omega]
      rw [e1] at d1
      clear e1
      have T1 := Lib.hid (sum_take S j (by omega))
      have T2 : Hid (S.take (j + 1) = S.take j ++ [S.getD j 0]) := Lib.hid (by rw [List.take_succ_eq_append_getElem (by omega)]; simp [show j < S.length by omega])
      have T3 : Hid ((S.take j).sum + S.getD j 0 ≤ 2500) := Lib.hid (by rw [← T1.out]; have := sum_le S (j + 1); have := HQ.out; omega)
      have z0 : 0 ≤ ((S.take j).sum : Int) := by omega
      have z1 : ((S.take j).sum : Int) ≤ 2500 := by have := T3.out; omega
      generalize S.getD j 0 = x at *
      have x0 : 0 ≤ (x : Int) := by omega
      have x1 : (x : Int) ≤ 2500 := by have := T3.out; omega
      have TL : Hid ((ivals (S.take j)).length ≤ 2500) := Lib.hid (by rw [ivals_length, List.length_take]; omega)
      generalize hz : (S.take j).sum = z at *
      have HZ := Lib.hid hz
      clear hz
      go_wp2_with (at_builtin; refine append_vals rfl _ _ 43 3 rfl Try.underlying43 (.int .i64 0) 8 info_int rfl (by decide) w6.heap.size _ (ivals (S.take j)) rfl (K1.out.below ((Below.refl _ _).alloc (Nat.le_refl _) _) (Nat.le_refl _)) (some ⟨wr.heap.size, 0, none⟩) 1 1 [.int .i64 (x : Int)] rfl rfl (fun h => by cases h) (vals_one _ _) (fun u hu => by rw [List.mem_singleton.1 hu]; rfl) (by have := TL.out; simp; omega) (Nat.le_trans K2.out.size (by simp)) ?_)
      intro v3 w3 hown hgr
      have hbl := rowV.grew (K1.out.below ((Below.refl _ _).alloc (Nat.le_refl _) (.cells #[.int .i64 (x : Int)] 3 (0, 0))) (Nat.le_refl _)) (Nat.le_trans K2.out.size (by simp)) hgr
      have L2 := Lib.hid (K2.out.trans (((Below.refl w6.heap.size wr).alloc K2.out.size _).trans hbl))
      have L1 : Hid (rowV w3 w6.heap.size 3 v3 (ivals (S.take (j + 1)))) := Lib.hid (by rw [T2.out, ivals_append]; exact hown)
      clear hbl hown hgr
      go_wp2_with fail
      go_roundw
      case rel => exact ⟨j + 1, by omega, by go_num, by rw [T1.out]; go_num, L1, L2⟩
      case measure => simp [intOf]; omega
    · have q0 : decide ((j : Int) + 1 < (S.length : Int)) = false := by simp; omega
      have q1 : S.take j = S.dropLast := by
        rw [List.dropLast_eq_take]
        congr 1
        omega
      rw [q1] at K1
      rw [q1]
      have HZ : Hid (S.dropLast.sum ≤ l1.length) := Lib.hid (by rw [← q1]; have := sum_le S j; have := HQ.out; omega)
      have HLD : Hid (S.dropLast.length ≤ 2500) := Lib.hid (by rw [List.length_dropLast]; omega)
      generalize S.dropLast = D at *
      clear q1
      generalize D.sum = z at *
      have z0 : 0 ≤ (z : Int) := by omega
      have z1 : (z : Int) ≤ (l1.length : Int) := by have := HZ.out; omega
      have z2 : (z : Int) ≤ (n1 : Int) := by omega
      have B7 := Lib.hid (B6.out.below K2.out B6.out.lt)
      have c0 : wr.cell? ⟨w.heap.size, 0, none⟩ = some (.int .i64 (r.least : Int)) := B7.out.cell 0
      have c1 : wr.cell? ⟨w.heap.size, 1, none⟩ = some (.int .i64 (r.most : Int)) := B7.out.cell 1
      have c2 : wr.cell? ⟨w.heap.size, 2, none⟩ = some (.int .i64 (r.bits : Int)) := B7.out.cell 2
      have c3 : wr.cell? ⟨w.heap.size, 3, none⟩ = some (.int .u64 (U r.poly)) := B7.out.cell 3
      have HTL : Hid ((l1.take z).length = z) := Lib.hid (by rw [List.length_take]; have := HZ.out; omega)
      have H7 := Lib.hid (H6.out.trans (K2.out.mono H6.out.size))
      have I1w := Lib.hid ((I1.out.take z).below H7.out (Nat.le_refl _))
      have I2w := Lib.hid (I2.out.below H7.out (Nat.le_refl _))
      have K0 := Lib.hid (Below.refl wr.heap.size wr)
      generalize hlz : l1.take z = lz at *
      have HLZ := Lib.hid hlz
      have FBW : Hid (∀ k, Value.ownBlock _ = some k → k < wr.heap.size) := Lib.hid K1.out.own_lt
      have HTL2 : lz.length ≤ 2500 := by rw [HTL.out]; have := HZ.out; omega
      clear hlz
      go_upto_region 12 with fail
      go_cut [12, 8] (fun s12 s8 wx => s8 = .int .i64 0 ∧ Hid (rowV wx wr.heap.size 3 s12 (ivals (r.sizes (lz ++ l2)))) ∧ Hid (Below wr.heap.size wr wx))
      case first =>
        go_region_held3 (fun w' => w'.cell? ⟨w.heap.size, 0, none⟩ = some (.int .i64 (r.least : Int)) ∧ w'.cell? ⟨w.heap.size, 1, none⟩ = some (.int .i64 (r.most : Int)) ∧ w'.cell? ⟨w.heap.size, 2, none⟩ = some (.int .i64 (r.bits : Int)) ∧ w'.cell? ⟨w.heap.size, 3, none⟩ = some (.int .u64 (U r.poly)))
          (first | assumption | go_keep)
          (first
          | (go_at_call 12
             with_reducible refine (to_any _ _ _ _ _).mono ?_
             rintro e wt ⟨rfl, hbt⟩
             have MT : Hid (Below wr.heap.size wr wt) := Lib.hid (by first | exact M2.out.trans (hbt.mono M2.out.size) | exact M1.out.trans (hbt.mono M1.out.size) | exact ((K0.out.alloc K0.out.size _).drew).trans (hbt.mono (Nat.le_trans K0.out.size (by simp [World.drew]))) | exact (K0.out.drew).trans (hbt.mono K0.out.size))
             try have R2 := Lib.hid (R2.out.below hbt (Nat.le_refl _))
             try have R1 := Lib.hid (R1.out.below hbt (Nat.le_refl _))
             try have R0 : Hid (rowIs wt wr.heap.size (.slice (some ⟨wr.heap.size, 0, none⟩) 0 0) []) := Lib.hid (rowIs.below (w := (wr.alloc (.cells #[] 5 (0, 0))).drew) (rowIs.empty wr wr.heap.size K0.out.size) hbt (Nat.le_refl _))
             have BT := Lib.hid (B7.out.below MT.out B7.out.lt)
             have s0 : wt.cell? ⟨w.heap.size, 0, none⟩ = some (.int .i64 (r.least : Int)) := BT.out.cell 0
             have s1 : wt.cell? ⟨w.heap.size, 1, none⟩ = some (.int .i64 (r.most : Int)) := BT.out.cell 1
             have s2 : wt.cell? ⟨w.heap.size, 2, none⟩ = some (.int .i64 (r.bits : Int)) := BT.out.cell 2
             have s3 : wt.cell? ⟨w.heap.size, 3, none⟩ = some (.int .u64 (U r.poly)) := BT.out.cell 3
             clear hbt)
          | (go_at_call 19
             first
             | (obtain ⟨ar, cr, rfl, lr, ir, zr⟩ := R2.out.bytes
                with_reducible refine (sizes_any r hr ar (lz ++ l2) cr _ lr (by rw [List.length_append]; omega) ir).mono ?_
                rintro e wz ⟨vz, rfl, hrz, hbz⟩
                have MZ : Hid (Below wr.heap.size wr wz) := Lib.hid (by first | exact MT.out.trans (hbz.mono MT.out.size))
                have RZ := Lib.hid (hrz.mono (by first | exact MT.out.size)))
             | (obtain ⟨ar, cr, rfl, lr, ir, zr⟩ := R2.out.bytes
                with_reducible refine (sizes_any r hr ar (lz ++ l2) cr _ lr (by rw [List.length_append]; omega) ir).mono ?_
                rintro e wz ⟨vz, rfl, hrz, hbz⟩
                have MZ : Hid (Below wr.heap.size wr wz) := Lib.hid (M2.out.trans (hbz.mono M2.out.size))
                have RZ := Lib.hid (hrz.mono M2.out.size))
             have BT := Lib.hid (B7.out.below MZ.out B7.out.lt)
             have s0 : wz.cell? ⟨w.heap.size, 0, none⟩ = some (.int .i64 (r.least : Int)) := BT.out.cell 0
             have s1 : wz.cell? ⟨w.heap.size, 1, none⟩ = some (.int .i64 (r.most : Int)) := BT.out.cell 1
             have s2 : wz.cell? ⟨w.heap.size, 2, none⟩ = some (.int .i64 (r.bits : Int)) := BT.out.cell 2
             have s3 : wz.cell? ⟨w.heap.size, 3, none⟩ = some (.int .u64 (U r.poly)) := BT.out.cell 3)
          | (refine step_append_bytes rfl _ _ rfl wr.heap.size _ lz rfl R1.out a2 _ n2 l2 rfl rfl Z2.out ?_ ?_ ?_ ?_
             · first | exact I2w.out.below MT.out (Nat.le_refl _) | exact I2w.out.below M1.out (Nat.le_refl _)
             · omega
             · first | exact MT.out.size | exact M1.out.size
             intro v2 wb hown hgr
             have M2 : Hid (Below wr.heap.size wr wb) := Lib.hid (by first | exact M1.out.trans (R1.out.grew M1.out.size hgr) | exact MT.out.trans (R1.out.grew MT.out.size hgr))
             have R2 := Lib.hid hown
             have BT := Lib.hid (B7.out.below M2.out B7.out.lt)
             have s0 : wb.cell? ⟨w.heap.size, 0, none⟩ = some (.int .i64 (r.least : Int)) := BT.out.cell 0
             have s1 : wb.cell? ⟨w.heap.size, 1, none⟩ = some (.int .i64 (r.most : Int)) := BT.out.cell 1
             have s2 : wb.cell? ⟨w.heap.size, 2, none⟩ = some (.int .i64 (r.bits : Int)) := BT.out.cell 2
             have s3 : wb.cell? ⟨w.heap.size, 3, none⟩ = some (.int .u64 (U r.poly)) := BT.out.cell 3
             clear hown hgr)
          | (refine step_append_bytes rfl _ _ rfl wr.heap.size _ [] rfl ?_ a1 _ n1 lz ?_ rfl Z1.out ?_ ?_ ?_ ?_
             · first | exact R0.out | exact rowIs.empty _ _ MT.out.size | exact rowIs.empty _ _ K0.out.size
             · exact HTL.out.symm
             · first | exact I1w.out.below MT.out (Nat.le_refl _) | exact I1w.out.below (MT.out.alloc MT.out.size _) (Nat.le_refl _) | exact I1w.out.below ((MT.out.alloc MT.out.size _).drew) (Nat.le_refl _) | exact I1w.out.below ((K0.out.alloc K0.out.size _).drew) (Nat.le_refl _)
             · simp; omega
             · first | exact MT.out.size | exact Nat.le_trans MT.out.size (by simp [World.drew]) | exact Nat.le_trans K0.out.size (by simp [World.drew])
             intro v1 wa hown hgr
             have M1 : Hid (Below wr.heap.size wr wa) := Lib.hid (by first
               | exact MT.out.trans (R0.out.grew MT.out.size hgr)
               | exact (MT.out.alloc MT.out.size _).trans ((rowIs.empty _ _ MT.out.size).grew (Nat.le_trans MT.out.size (by simp [World.drew])) hgr)
               | exact (K0.out.alloc K0.out.size _).trans ((rowIs.empty _ _ K0.out.size).grew (Nat.le_trans K0.out.size (by simp [World.drew])) hgr))
             have R1 := Lib.hid hown
             have BT := Lib.hid (B7.out.below M1.out B7.out.lt)
             have s0 : wa.cell? ⟨w.heap.size, 0, none⟩ = some (.int .i64 (r.least : Int)) := BT.out.cell 0
             have s1 : wa.cell? ⟨w.heap.size, 1, none⟩ = some (.int .i64 (r.most : Int)) := BT.out.cell 1
             have s2 : wa.cell? ⟨w.heap.size, 2, none⟩ = some (.int .i64 (r.bits : Int)) := BT.out.cell 2
             have s3 : wa.cell? ⟨w.heap.size, 3, none⟩ = some (.int .u64 (U r.poly)) := BT.out.cell 3
             rw [List.nil_append] at R1
             clear hown hgr))
        all_goals
          go_wp2_with fail
          go_meet
          case rel => exact ⟨rfl, RZ, MZ⟩
      obtain ⟨rfl, R8, K8⟩ := hcut
      have H8 := Lib.hid (H7.out.trans (K8.out.mono H7.out.size))
      have B8 := Lib.hid (B7.out.below K8.out B7.out.lt)
      have F8 := Lib.hid (K1.out.below K8.out (Nat.le_refl _))
      have HZ8 : Hid (w6.heap.size ≤ wr.heap.size) := Lib.hid K2.out.size
      clear c0 c1 c2 c3 B7 K1 I1w I2w K0
      have c0 : wc.cell? ⟨w.heap.size, 0, none⟩ = some (.int .i64 (r.least : Int)) := B8.out.cell 0
      have c1 : wc.cell? ⟨w.heap.size, 1, none⟩ = some (.int .i64 (r.most : Int)) := B8.out.cell 1
      have c2 : wc.cell? ⟨w.heap.size, 2, none⟩ = some (.int .i64 (r.bits : Int)) := B8.out.cell 2
      have c3 : wc.cell? ⟨w.heap.size, 3, none⟩ = some (.int .u64 (U r.poly)) := B8.out.cell 3
      go_wp2_with fail
      refine (to_any _ _ _ _ _).mono ?_
      rintro e w9 ⟨rfl, hb⟩
      have H9 := Lib.hid (H8.out.trans (hb.mono H8.out.size))
      have R9 := Lib.hid (R8.out.below hb (Nat.le_refl _))
      have F9 := Lib.hid (F8.out.below hb (Nat.le_refl _))
      have HZ9 : Hid (w6.heap.size ≤ w9.heap.size) := Lib.hid (Nat.le_trans HZ8.out (Nat.le_trans K8.out.size hb.size))
      clear hb c0 c1 c2 c3 H8 R8 F8
      go_wp2_with fail
      refine (sizes_any r hr a2 l2 n2 w9 e6_2 (by omega) (I2.out.below H9.out (Nat.le_refl _))).mono ?_
      rintro e w10 ⟨y, rfl, hrow, hb⟩
      have H10 := Lib.hid (H9.out.trans (hb.mono H9.out.size))
      have R10 := Lib.hid (R9.out.below hb (Nat.le_refl _))
      have F10 := Lib.hid (F9.out.below hb (Nat.le_refl _))
      have HZ10 : Hid (w6.heap.size ≤ w10.heap.size) := Lib.hid (Nat.le_trans HZ9.out hb.size)
      obtain ⟨ya, yc, rfl, yl, hv, hz⟩ := hrow.vals
      have Y10 := Lib.hid hv
      have YZ := Lib.hid hz
      clear hb hrow hv hz H9 R9 F9
      have HY := Lib.hid (r.sizes_len l2)
      generalize r.sizes l2 = Y at *
      have FB := FBW
      obtain ⟨xa, xc, rfl, xl, xv, xz⟩ := R10.out.vals
      clear xv xz
      go_wp2_with (at_builtin; refine append_vals_if (by rfl) _ _ 43 3 rfl Try.underlying43 (.int .i64 0) 8 info_int rfl (by decide) w6.heap.size _ (ivals D) rfl F10.out ya _ yc (ivals Y) rfl rfl YZ.out Y10.out (ivals_one _) (by rw [ivals_length, ivals_length]; have := HLD.out; have := HY.out; omega) HZ10.out ?_)
      intro v11 w11 hown hgr
      have R11 := Lib.hid (R10.out.past hgr FB.out).of.2.2.1
      have H11 := Lib.hid (H10.out.trans ((F10.out.grew HZ10.out hgr).mono H6.out.size))
      obtain ⟨fa, fc, rfl, fl, fv, fz⟩ := hown.vals
      have FV := Lib.hid fv
      clear hown hgr fv fz R10 F10
      go_wp2_with fail
      have P := ints_any xa xc (r.sizes (lz ++ l2)) fa fc (D ++ Y) w11 R11.out (by rw [ivals_append]; exact FV.out) (by have := r.sizes_len (lz ++ l2); rw [List.length_append] at this; omega)
      rw [ivals_length, show (ivals D).length + (ivals Y).length = (D ++ Y).length by rw [List.length_append, ivals_length, ivals_length]]
      with_reducible refine P.mono ?_
      rintro e w12 ⟨rfl, hb⟩
      have H12 := Lib.hid (H11.out.trans (hb.mono H11.out.size))
      clear hb
      have t9 : decide (r.sizes (lz ++ l2) = D ++ Y) = true := decide_eq_true HB.out
      go_wp2_with fail
      go_ret
      exact ⟨rfl, H12.out⟩

namespace cutBehind
open Go.ChangeShapes Go.WideShapes Go.ChangeAt Go.RowKit Go.Joins Go.Deep
set_option maxRecDepth 100000 in
theorem lifted (os : Os) (started : os.Started) (H : Type) (enc : TypeId × Value → H) :
    ReturnsInHanded {} Try.checked os 6 .any (Rows.cutBehindSpec.pre6 enc Try.prog Try.f6 Rows.cutBehindRow.domain false) (Rows.cutBehindSpec.post enc Try.prog Try.f6 false true false false) := by
  refine returnsInHanded_of_change (C := Try.checked) own started (by kernel_rfl) Try.func6
    (ChangeSpec.witness6 (enc := enc) (C := Try.checked) false ⟨#[], #[.agg #[.int .i64 0, .int .i64 0, .int .i64 0, .int .u64 0], .slice none 0 0, .slice none 0 0], []⟩ 8 (by kernel_rfl) (by kernel_rfl) (by kernel_rfl) (by kernel_rfl)) ?_
  intro W base args ds gs before hval0 hW hcnd _
  have hval : ∀ (j : Nat) t v, Try.f6.params[j]? = some t → args[j]? = some v → Value.okWide Try.prog W .any base t v := hval0
  have hW' := hW
  obtain ⟨p, q, hA0, hV, rfl, hfz, hnd⟩ := hW
  have hA : DataW.TrodAll enc Try.prog W 0 (fun _ => true) true Try.f6.params.toList args.toList ds p := hA0
  rw [Try.params6] at hA hval
  obtain ⟨v0, vs0, d0, ds0, p0, q0, hargs, rfl, rfl, h0, r0⟩ := trodAll_cons hA
  obtain ⟨v1, vs1, d1, ds1, p1, q1, rfl, rfl, rfl, h1, r1⟩ := trodAll_cons r0
  obtain ⟨v2, vs2, d2, ds2, p2, q2, rfl, rfl, rfl, h2, r2⟩ := trodAll_cons r1
  obtain ⟨rfl, rfl, rfl⟩ := trodAll_nil r2
  obtain rfl : args = #[v0, v1, v2] := by cases args; simp_all
  obtain ⟨rfl, rfl⟩ := trodVars_none hV
  have h0k := h0
  obtain ⟨u0_0, u1_0, u2_0, u3_0, y0_0, y1_0, y2_0, y3_0, n_0, rfl, hd0, hp0, g0_0, g1_0, g2_0, g3_0⟩ := open_agg4 Try.underlying24 (by kernel_rfl) (by kernel_rfl) (hval 0 24 v0 rfl rfl) h0
  obtain ⟨a0_0, e0_0, _, w0_0⟩ := DataW.trod_int Try.underlying3 g0_0
  obtain rfl : u0_0 = .int .i64 a0_0 := by simpa using e0_0
  obtain ⟨a1_0, e1_0, _, w1_0⟩ := DataW.trod_int Try.underlying3 g1_0
  obtain rfl : u1_0 = .int .i64 a1_0 := by simpa using e1_0
  obtain ⟨a2_0, e2_0, _, w2_0⟩ := DataW.trod_int Try.underlying3 g2_0
  obtain rfl : u2_0 = .int .i64 a2_0 := by simpa using e2_0
  obtain ⟨a3_0, e3_0, _, w3_0⟩ := DataW.trod_int Try.underlying22 g3_0
  obtain rfl : u3_0 = .int .u64 a3_0 := by simpa using e3_0
  obtain ⟨x3_0, rfl⟩ := word_of a3_0 w3_0
  clear hd0 hp0
  obtain ⟨a1, l1, c1, rfl⟩ := okWide_slice Try.underlying25 (hval 1 25 v1 rfl rfl)
  have h1k := h1
  obtain ⟨n1, g1⟩ := h1
  obtain ⟨b1, k1, F1, e1, hF1, hin1, hz1⟩ := open_bytes (v := .slice a1 l1 c1) (by simpa [Value.cells] using g1)
  obtain ⟨a2, l2, c2, rfl⟩ := okWide_slice Try.underlying25 (hval 2 25 v2 rfl rfl)
  have h2k := h2
  obtain ⟨n2, g2⟩ := h2
  obtain ⟨b2, k2, F2, e2, hF2, hin2, hz2⟩ := open_bytes (v := .slice a2 l2 c2) (by simpa [Value.cells] using g2)
  clear hA0 hval0
  simp only [List.append_nil, List.nil_append] at hW'
  have hlt : ∀ x ∈ p0 ++ p1 ++ p2, x.block < W.heap.size := fun x hx => hW'.lt x (by simpa using hx)
  rw [e1, e2]
  refine (law_cutBehind a0_0 a1_0 a2_0 x3_0 b1 k1 F1 b2 k2 F2 W w0_0 w1_0 w2_0 hF1 hin1 hz1 hF2 hin2 hz2).mono fun e W' ⟨he, hb⟩ => ?_
  rw [← e1, ← e2]
  subst he
  refine ⟨_, rfl, [d0, d1, d2], [], p0 ++ (p1 ++ p2), [], p0 ++ (p1 ++ p2), [], by simpa using hW', ?_, ?_, ?_, hb.frame _, fun h => by cases h⟩
  · exact trodAll_cons_mk (shut_bool Try.underlying4 _) trodAll_mk0
  · have := (trodAll_cons_mk (Below.trod laidOut (by kernel_rfl) (of_decide_eq_true (by kernel_rfl)) h0k hb (fun x hx => hlt x (by simp [hx]))) (trodAll_cons_mk (Below.trod laidOut (by kernel_rfl) (of_decide_eq_true (by kernel_rfl)) h1k hb (fun x hx => hlt x (by simp [hx]))) (trodAll_cons_mk (Below.trod laidOut (by kernel_rfl) (of_decide_eq_true (by kernel_rfl)) h2k hb (fun x hx => hlt x (by simp [hx]))) trodAll_mk0)))
    simp only [List.append_nil, List.nil_append] at this
    exact this
  · rfl

theorem proved : Rows.CutBehindSaid :=
  OpenClaim.holds_of_wide 6 Try.f6 rfl rfl rfl rfl rfl rfl rfl ⟨rfl, rfl, rfl, rfl, rfl⟩ rfl rfl rfl rfl rfl (by kernel_rfl) Try.func6 (by kernel_rfl)
    (of_decide_eq_true (by kernel_rfl)) (by unfold Func.isWrapper; first | (rw [if_pos (by decide +kernel)]; kernel_rfl) | (rw [if_neg (by decide +kernel)]; exact ⟨rfl, rfl⟩))
    (fun os started H enc _ => lifted os started H enc)
end cutBehind
end Go.Proofs.Ytefienlfpclekaa
