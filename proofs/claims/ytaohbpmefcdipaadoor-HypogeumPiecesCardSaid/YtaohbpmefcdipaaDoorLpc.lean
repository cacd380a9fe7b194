/- The law HypogeumPieces: its walk. -/
import Derived.Test.YtaohbpmefcdipaaDoorCtPc
import Derived.Test.YtaohbpmefcdipaaDoorCtKf
import Derived.Test.YtaohbpmefcdipaaDoorStd
import Derived.Test.YtaohbpmefcdipaaDoorSmr
import Derived.BigQuiet
import Derived.Deep.DeepCutAuto
import Derived.OwnWalk
namespace Go.Proofs.YtaohbpmefcdipaaDoor
open Go.RowKit Sha

theorem mod_part (x : Int) (n : Nat) (h1 : n ≤ 1000000) : ∃ y : Nat, wrap64 ((IntKind.u64.wrap x).tmod ((n : Int) + 1)) = (y : Int) ∧ y ≤ n := by
  have h2 : 0 ≤ IntKind.u64.wrap x := by rw [IntKind.wrap_u64]; omega
  rw [Int.tmod_eq_emod_of_nonneg h2]
  have h3 : 0 ≤ IntKind.u64.wrap x % ((n : Int) + 1) ∧ IntKind.u64.wrap x % ((n : Int) + 1) < (n : Int) + 1 := ⟨Int.emod_nonneg _ (by omega), Int.emod_lt_of_pos _ (by omega)⟩
  generalize IntKind.u64.wrap x % ((n : Int) + 1) = y at *
  refine ⟨y.toNat, ?_, by omega⟩
  unfold wrap64
  omega
theorem below_drewN' {B : Nat} {x y : World} (h : Below B x y) (n : Nat) : Below B x (y.drewN n) := ⟨h.os, h.tape, h.output, h.size, h.block⟩
set_option maxRecDepth 100000 in
set_option maxHeartbeats 4000000 in
theorem law_hypogeumPieces (a1 : Option Addr) (n1 : Nat) (L1 : List UInt8) (a2 : Option Addr) (n2 : Nat) (L2 : List UInt8) (z : Int) (w : World) (hl1 : L1.length ≤ n1) (hc1 : n1 ≤ 140737488355328) (hin1 : bytesIn w a1 L1) (hz1 : a1 = none → n1 = 0) (hl2 : L2.length ≤ n2) (hc2 : n2 ≤ 140737488355328) (hin2 : bytesIn w a2 L2) (hz2 : a2 = none → n2 = 0) (hw : (Lit.int .i64 z).wf = true) (ht : tables w) :
    Calls Tryd.prog 4 #[.slice a1 L1.length n1, .slice a2 L2.length n2, .int .i64 z] w fun e w' => e = .returned (.bool true) ∧ Below w.heap.size w w' := by
  have hm1 := Nat.le_trans hc1 (show 140737488355328 ≤ 9223372036854775807 by omega)
  have HT := Lib.hid ht
  have HM1 := Lib.hid hm1
  have HB : Hid (Ct.bytesIn w a1 (L1.take 2000)) := Lib.hid (Ct.bytesIn.take (show Ct.bytesIn w a1 L1 from hin1) 2000)
  have HQ : Hid (Ct.bytesIn w a2 (L2.take 500)) := Lib.hid (Ct.bytesIn.take (show Ct.bytesIn w a2 L2 from hin2) 500)
  have HZ1 := Lib.hid hz1
  have HZ2 := Lib.hid hz2
  have e1 : (min (L1.length : Int) 2000).toNat = (L1.take 2000).length := by rw [List.length_take]; omega
  have e2 : (min (L2.length : Int) 500).toNat = (L2.take 500).length := by rw [List.length_take]; omega
  have e3 : (L1.take 2000).length ≤ n1 := by rw [List.length_take]; omega
  have e4 : (L1.take 2000).length ≤ 2000 := by rw [List.length_take]; omega
  have e5 : (L2.take 500).length ≤ n2 := by rw [List.length_take]; omega
  have e6 : (L2.take 500).length ≤ 500 := by rw [List.length_take]; omega
  clear ht hin1 hin2 hz1 hz2 hc1 hc2 hm1 hw
  generalize L1.take 2000 = b at *
  generalize L2.take 500 = q at *
  go_enter Tryd.func4, Tryd.ntmps4
  go_upto_region 1 with fail
  go_cut [0, 1] (fun s t wx => s = .slice a1 b.length n1 ∧ t = .slice a2 q.length n2 ∧ Hid (Below w.heap.size w wx))
  case first =>
    go_quiet (fail)
    go_wp2_with fail
    go_meet
    case rel => exact ⟨rfl, rfl, Lib.hid (below_drewN' (Below.refl _ _) _)⟩
  obtain ⟨rfl, rfl, BC⟩ := hcut
  clear e1 e2 hl1 hl2
  obtain ⟨k, hk1, hk2⟩ := mod_part z b.length (by omega)
  have HK1 := Lib.hid hk1
  clear hk1
  have b0 : (0 : Int) ≤ (b.length : Int) := by omega
  have b1 : (b.length : Int) ≤ 2000 := by omega
  go_upto_region 3 with fail
  rw [HK1.out]
  clear HK1
  obtain ⟨A3, hA3, hr3⟩ := Ct.run_drop a1 b.length n1 k hk2 e3
  have HZ3 : Hid (A3 = none → n1 - k = 0) := Lib.hid (fun h => by
    by_cases hcn : n1 = k
    · omega
    · rw [hA3, if_neg hcn] at h
      cases a1 with
      | none => rw [HZ1.out rfl]; omega
      | some _ => cases h)
  have H3I : Hid (Ct.bytesIn wc A3 (b.drop k)) := Lib.hid (by
    have h := (HB.out.below BC.out (Nat.le_refl _)).mid n1 k b.length hk2 (Nat.le_refl _) e3
    rw [← hA3, List.take_length] at h
    exact h)
  have k0 : (0 : Int) ≤ (k : Int) := by omega
  have k1 : (k : Int) ≤ (b.length : Int) := by omega
  have k2 : (k : Int) ≤ (n1 : Int) := by omega
  have E0 : Hid (Below wc.heap.size wc (wc.alloc (.cells #[] 5 (0, 0))).drew) := Lib.hid ((Below.refl _ _).alloc (Nat.le_refl _) _).drew
  clear hA3
  go_cut [8] (fun s wx => ∃ v, s = v ∧ Hid (Ct.rowIs wx wc.heap.size v (b.take k ++ q ++ b.drop k)) ∧ Hid (Below wc.heap.size wc wx))
  case first =>
    refine wp_region_noPanic ?_
    refine wp_region_held_drew (S := fun _ => True) (by kernel_rfl) trivial (fun hH => ?_)
    refine wpAnyH_take (i := 1) (oi := { dst := some 45, op := Op.move (Operand.tmp 0), type := 22, pos := "top02.go:12", after := #[], guard := none }) (v := .slice a1 b.length n1) rfl (by kernel_rfl) (by kernel_rfl) (by kernel_rfl) (fun _ _ _ h => h) (Or.inl ⟨by rfl, fun wx hS => ?_⟩) hH ?_
    · go_simp
    simp only [Act.put, List.setIfInBounds_toArray, List.set_cons_zero, List.set_cons_succ]
    refine wpAnyH_take (i := 2) (oi := { dst := some 46, op := Op.move (Operand.tmp 7), type := 3, pos := "top02.go:12", after := #[], guard := none }) (v := .int .i64 (k : Int)) rfl (by kernel_rfl) (by kernel_rfl) (by kernel_rfl) (fun _ _ _ h => h) (Or.inl ⟨by rfl, fun wx hS => ?_⟩) hH ?_
    · go_simp
    simp only [Act.put, List.setIfInBounds_toArray, List.set_cons_zero, List.set_cons_succ]
    refine wpAnyH_take (i := 3) (oi := { dst := some 47, op := Op.slice 22 (Operand.tmp 45) none (some (Operand.tmp 46)) none, type := 22, pos := "top02.go:12", after := #[{ on := 1, ground := Ground.data }, { on := 2, ground := Ground.data }], guard := none }) (v := .slice a1 k n1) rfl (by kernel_rfl) (by kernel_rfl) (by kernel_rfl) (fun _ _ _ h => h) (Or.inl ⟨by rfl, fun wx hS => ?_⟩) hH ?_
    · go_simp
    simp only [Act.put, List.setIfInBounds_toArray, List.set_cons_zero, List.set_cons_succ]
    refine wpAnyH_take (i := 5) (oi := { dst := some 49, op := Op.move (Operand.tmp 1), type := 22, pos := "top02.go:12", after := #[], guard := none }) (v := .slice a2 q.length n2) rfl (by kernel_rfl) (by kernel_rfl) (by kernel_rfl) (fun _ _ _ h => h) (Or.inl ⟨by rfl, fun wx hS => ?_⟩) hH ?_
    · go_simp
    simp only [Act.put, List.setIfInBounds_toArray, List.set_cons_zero, List.set_cons_succ]
    refine wpAnyH_take (i := 7) (oi := { dst := some 51, op := Op.move (Operand.tmp 0), type := 22, pos := "top02.go:12", after := #[], guard := none }) (v := .slice a1 b.length n1) rfl (by kernel_rfl) (by kernel_rfl) (by kernel_rfl) (fun _ _ _ h => h) (Or.inl ⟨by rfl, fun wx hS => ?_⟩) hH ?_
    · go_simp
    simp only [Act.put, List.setIfInBounds_toArray, List.set_cons_zero, List.set_cons_succ]
    refine wpAnyH_take (i := 8) (oi := { dst := some 52, op := Op.move (Operand.tmp 7), type := 3, pos := "top02.go:12", after := #[], guard := none }) (v := .int .i64 (k : Int)) rfl (by kernel_rfl) (by kernel_rfl) (by kernel_rfl) (fun _ _ _ h => h) (Or.inl ⟨by rfl, fun wx hS => ?_⟩) hH ?_
    · go_simp
    simp only [Act.put, List.setIfInBounds_toArray, List.set_cons_zero, List.set_cons_succ]
    refine wpAnyH_take (i := 9) (oi := { dst := some 53, op := Op.slice 22 (Operand.tmp 51) (some (Operand.tmp 52)) none none, type := 22, pos := "top02.go:12", after := #[{ on := 7, ground := Ground.data }, { on := 8, ground := Ground.data }], guard := none }) (v := .slice A3 (b.length - k) (n1 - k)) rfl (by kernel_rfl) (by kernel_rfl) (by kernel_rfl) (fun _ _ _ h => h) (Or.inl ⟨by rfl, fun wx hS => ?_⟩) hH ?_
    · have e1 := hr3; go_simp
    simp only [Act.put, List.setIfInBounds_toArray, List.set_cons_zero, List.set_cons_succ]
    refine wpAnyH_ready (rs := [0]) (by kernel_rfl) (by simp) ?_
    refine AllReadyH.cons (o := { dst := some 44, op := Op.buildSlice 22 0 #[], type := 22, pos := "top02.go:12", after := #[], guard := none }) rfl (fun KK hKK => ?_) AllReadyH.nil
    go_simp
    refine hKK.out _ _ trivial (fun hH => ?_)
    clear hKK KK
    try simp only [Act.put, List.setIfInBounds_toArray, List.set_cons_zero, List.set_cons_succ]
    refine wpAnyH_ready (rs := [4]) (by kernel_rfl) (by simp) ?_
    refine AllReadyH.cons (o := { dst := some 48, op := Op.call { callee := Callee.builtin Builtin.append, args := #[Operand.tmp 44, Operand.tmp 47], argTypes := #[22, 22] }, type := 22, pos := "top02.go:12", after := #[{ on := 0, ground := Ground.data }, { on := 3, ground := Ground.data }], guard := none }) rfl (fun KK hKK => ?_) AllReadyH.nil
    refine Ct.step_append_bytes rfl _ _ rfl wc.heap.size _ [] rfl (Ct.rowIs.empty wc wc.heap.size (Nat.le_refl _)) a1 k n1 (b.take k) (by rw [List.length_take]; omega) rfl HZ1.out (((HB.out.below BC.out (Nat.le_refl _)).below E0.out (Nat.le_refl _)).take k) (by simp only [List.length_append, List.length_take, List.length_drop, List.length_nil]; omega) E0.out.size ?_
    intro v4 w4 hown4 hgr4
    have E1 : Hid (Below wc.heap.size wc w4) := Lib.hid (E0.out.trans (Ct.rowIs.grew (w := (wc.alloc (.cells #[] 5 (0, 0))).drew) (Ct.rowIs.empty wc wc.heap.size (Nat.le_refl _)) E0.out.size hgr4))
    clear hH
    refine hKK.out _ _ trivial (fun hH => ?_)
    clear hKK KK
    try simp only [Act.put, List.setIfInBounds_toArray, List.set_cons_zero, List.set_cons_succ]
    refine wpAnyH_ready (rs := [6]) (by kernel_rfl) (by simp) ?_
    refine AllReadyH.cons (o := { dst := some 50, op := Op.call { callee := Callee.builtin Builtin.append, args := #[Operand.tmp 48, Operand.tmp 49], argTypes := #[22, 22] }, type := 22, pos := "top02.go:12", after := #[{ on := 4, ground := Ground.data }, { on := 5, ground := Ground.data }, { on := 4, ground := Ground.chain }], guard := none }) rfl (fun KK hKK => ?_) AllReadyH.nil
    refine Ct.step_append_bytes rfl _ _ rfl wc.heap.size _ ([] ++ b.take k) rfl hown4 a2 q.length n2 q rfl rfl HZ2.out ((HQ.out.below BC.out (Nat.le_refl _)).below E1.out (Nat.le_refl _)) (by simp only [List.length_append, List.length_take, List.length_drop, List.length_nil]; omega) E1.out.size ?_
    intro v5 w5 hown5 hgr5
    have E2 : Hid (Below wc.heap.size wc w5) := Lib.hid (E1.out.trans (hown4.grew E1.out.size hgr5))
    clear hH
    refine hKK.out _ _ trivial (fun hH => ?_)
    clear hKK KK
    try simp only [Act.put, List.setIfInBounds_toArray, List.set_cons_zero, List.set_cons_succ]
    refine wpAnyH_ready (rs := [10]) (by kernel_rfl) (by simp) ?_
    refine AllReadyH.cons (o := { dst := some 54, op := Op.call { callee := Callee.builtin Builtin.append, args := #[Operand.tmp 50, Operand.tmp 53], argTypes := #[22, 22] }, type := 22, pos := "top02.go:12", after := #[{ on := 6, ground := Ground.data }, { on := 9, ground := Ground.data }, { on := 6, ground := Ground.chain }], guard := none }) rfl (fun KK hKK => ?_) AllReadyH.nil
    refine Ct.step_append_bytes rfl _ _ rfl wc.heap.size _ ([] ++ b.take k ++ q) rfl hown5 A3 (b.length - k) (n1 - k) (b.drop k) (by rw [List.length_drop]) rfl HZ3.out (H3I.out.below E2.out (Nat.le_refl _)) (by simp only [List.length_append, List.length_take, List.length_drop, List.length_nil]; omega) E2.out.size ?_
    intro v6 w6 hown6 hgr6
    have E3 : Hid (Below wc.heap.size wc w6) := Lib.hid (E2.out.trans (hown5.grew E2.out.size hgr6))
    clear hH
    refine hKK.out _ _ trivial (fun hH => ?_)
    clear hKK KK
    try simp only [Act.put, List.setIfInBounds_toArray, List.set_cons_zero, List.set_cons_succ]
    refine wpAnyH_take (i := 11) (oi := { dst := some 8, op := Op.assign (Operand.tmp 54), type := 22, pos := "top02.go:12", after := #[{ on := 10, ground := Ground.data }, { on := 10, ground := Ground.chain }, { on := 0, ground := Ground.phase }, { on := 1, ground := Ground.phase }, { on := 2, ground := Ground.phase }, { on := 3, ground := Ground.phase }, { on := 4, ground := Ground.phase }, { on := 5, ground := Ground.phase }, { on := 6, ground := Ground.phase }, { on := 7, ground := Ground.phase }, { on := 8, ground := Ground.phase }, { on := 9, ground := Ground.phase }, { on := 10, ground := Ground.phase }], guard := none }) (v := v6) rfl (by kernel_rfl) (by kernel_rfl) (by kernel_rfl) (fun _ _ _ h => h) (Or.inl ⟨by rfl, fun wx hS => ?_⟩) hH ?_
    · go_simp
    simp only [Act.put, List.setIfInBounds_toArray, List.set_cons_zero, List.set_cons_succ]
    refine wpAnyH_done (by kernel_rfl) ?_ _
    refine NoPanic.normal ?_
    go_wp2_with fail
    go_meet
    case rel => exact ⟨_, rfl, Lib.hid hown6, E3⟩
  obtain ⟨v8, rfl, HC, BC2⟩ := hcut
  obtain ⟨c, hc⟩ : ∃ c, c = b.take k ++ q ++ b.drop k := ⟨_, rfl⟩
  rw [← hc] at HC
  have HCD := Lib.hid hc
  have hcl : c.length = b.length + q.length := by rw [hc, List.length_append, List.length_append, List.length_take, List.length_drop]; omega
  clear hc
  have HB0 : Hid (Below w.heap.size w wc) := Lib.hid (BC.out.trans (BC2.out.mono BC.out.size))
  obtain ⟨ca, cc, rfl, hcc, hcin, -⟩ := HC.out.bytes
  have HCM : Hid (cc ≤ 9223372036854775807) := Lib.hid (by
    rcases HC.out.2 with ⟨e, _⟩ | ⟨_, cap, _, e, _, _, _, h, _, _⟩
    · injection e with _ _ e; omega
    · injection e with _ _ e; unfold maxLen at h; omega)
  have HCI := Lib.hid hcin
  have HB3 := Lib.hid (HB.out.below HB0.out (Nat.le_refl _))
  have HK2 := Lib.hid hk2
  clear hcin BC BC2 HC HZ3 H3I E0 hr3 HZ1 HZ2 HQ HB
  have hcl2 : c.length ≤ 2500 := by omega
  have HCL := Lib.hid hcl
  clear hcl
  go_wp2_with fail
  with_reducible refine (Ct.ruletop_any _).mono ?_
  rintro e w1 ⟨rfl, hb⟩
  have F1 := Lib.hid (HB0.out.trans (hb.mono HB0.out.size))
  have G1 := Lib.hid hb
  have P1 : Hid (Calls Tryd.prog 13 #[.agg #[.int .i64 64, .int .i64 200, .int .i64 5, .int .u64 17349423945073011], .slice a1 b.length n1] w1 fun e w' => ∃ v, e = .returned (.tuple #[v, .int .i64 0]) ∧ Ct.rowV w' w1.heap.size 3 v (Ct.ivals (Ct.ruletop.sizes b)) ∧ Below w1.heap.size w1 w') := Lib.hid (Ct.sizes_any Ct.ruletop Ct.ruletop_ok a1 b n1 w1 e3 (by omega) (HB3.out.below hb (Nat.le_refl _)))
  clear hb
  go_wp2_with fail
  with_reducible refine P1.out.mono ?_
  clear P1
  rintro e w2 ⟨v, rfl, hrow, hb⟩
  obtain ⟨xa, xc, rfl, -, -, -⟩ := hrow.vals
  rw [Ct.ivals_length] at hrow ⊢
  have X2 := Lib.hid (Ct.rowV.mono hrow (Nat.zero_le _))
  have F2 := Lib.hid (F1.out.trans (hb.mono F1.out.size))
  have G2 := Lib.hid (G1.out.trans (hb.mono G1.out.size))
  clear hrow hb F1 G1
  go_wp2_with fail
  with_reducible refine (Ct.ruletop_any _).mono ?_
  rintro e w3 ⟨rfl, hb⟩
  have F3 := Lib.hid (F2.out.trans (hb.mono F2.out.size))
  have G3 := Lib.hid (G2.out.trans (hb.mono G2.out.size))
  have X3 := Lib.hid (X2.out.below hb (Nat.le_refl _))
  clear hb F2 G2 X2
  have P3 : Hid (Calls Tryd.prog 13 #[.agg #[.int .i64 64, .int .i64 200, .int .i64 5, .int .u64 17349423945073011], .slice ca c.length cc] w3 fun e w' => ∃ v, e = .returned (.tuple #[v, .int .i64 0]) ∧ Ct.rowV w' w3.heap.size 3 v (Ct.ivals (Ct.ruletop.sizes c)) ∧ Below w3.heap.size w3 w') := Lib.hid (Ct.sizes_any Ct.ruletop Ct.ruletop_ok ca c cc w3 hcc (by omega) (HCI.out.below G3.out (Nat.le_refl _)))
  go_wp2_with fail
  with_reducible refine P3.out.mono ?_
  clear P3
  rintro e w4 ⟨v, rfl, hrow, hb⟩
  obtain ⟨ya, yc, rfl, -, -, -⟩ := hrow.vals
  rw [Ct.ivals_length] at hrow ⊢
  have Y4 := Lib.hid (Ct.rowV.mono hrow (Nat.zero_le _))
  have F4 := Lib.hid (F3.out.trans (hb.mono F3.out.size))
  have G4 := Lib.hid (G3.out.trans (hb.mono G3.out.size))
  have X4 := Lib.hid (X3.out.below hb (Nat.le_refl _))
  clear hrow hb F3 G3 X3
  have T4 : Hid (tables w4) := Lib.hid (HT.out.below F4.out HT.out.2.2.1 HT.out.2.2.2)
  go_wp2_with fail
  with_reducible refine (stands_any w4 T4.out).mono ?_
  rintro e w5 ⟨rfl, hb⟩
  have F5 := Lib.hid (F4.out.trans (hb.mono F4.out.size))
  have G5 := Lib.hid (G4.out.trans (hb.mono G4.out.size))
  have X5 := Lib.hid (X4.out.below hb (Nat.le_refl _))
  have Y5 := Lib.hid (Y4.out.below hb (Nat.le_refl _))
  clear hb F4 G4 X4 Y4 T4
  have HS1 : Hid ((Ct.ruletop.sizes b).length ≤ 2000) := Lib.hid (Nat.le_trans (Ct.ruletop.sizes_len b) e4)
  have HS2 : Hid ((Ct.ruletop.sizes c).length ≤ 2500) := Lib.hid (Nat.le_trans (Ct.ruletop.sizes_len c) hcl2)
  have HB5 := Lib.hid (HB3.out.below G5.out (Nat.le_refl _))
  have HC5 := Lib.hid (HCI.out.below G5.out (Nat.le_refl _))
  clear HB0 HB3 HCI G5
  go_wp2_with fail
  go_loopw [13, 14, 15] (fun sv fv iv wr => ∃ i : Nat, i ≤ (Ct.ruletop.sizes b).length ∧ fv = .int .i64 ((((Ct.ruletop.sizes b).take i).sum : Nat) : Int) ∧ iv = .int .i64 (i : Int) ∧ Hid (rowS wr w5.heap.size sv ((List.range i).map (fun j => sha (Ct.ruletop.piece b j)))) ∧ Hid (Below w5.heap.size w5 wr)) (fun _ _ iv _ => (Ct.ruletop.sizes b).length - (intOf iv).toNat)
  case atStart => exact ⟨0, Nat.zero_le _, rfl, rfl, Lib.hid (rowS.nil _ _), Lib.hid (Below.refl _ _)⟩
  case round =>
    obtain ⟨i, hi, rfl, rfl, S1, L1⟩ := hrel
    have i0 : (0 : Int) ≤ (i : Int) := by omega
    by_cases hlt : i < (Ct.ruletop.sizes b).length
    · have i1 : (i : Int) < ((Ct.ruletop.sizes b).length : Int) := by omega
      have i2 : (i : Int) ≤ 2000 := by have := HS1.out; omega
      obtain ⟨xb, xo, rfl, d1⟩ := (((Ct.rowV.of X5.out).2.2.1).below L1.out (Nat.le_refl _)).at i (by rw [Ct.ivals_length]; exact hlt)
      have e1 : (Ct.ivals (Ct.ruletop.sizes b))[i]'(by rw [Ct.ivals_length]; exact hlt) = .int .i64 (((Ct.ruletop.sizes b).getD i 0 : Nat) : Int) := by simp [Ct.ivals, hlt]
      rw [e1] at d1
      clear e1
      have hpc := Ct.ruletop.sizes_piece Ct.ruletop_ok b i hlt
      have HTS := Lib.hid (Ct.sum_take (Ct.ruletop.sizes b) i hlt)
      have HPC : Hid (Ct.ruletop.piece b i = (b.take (((Ct.ruletop.sizes b).take i).sum + (Ct.ruletop.sizes b).getD i 0)).drop ((Ct.ruletop.sizes b).take i).sum) := Lib.hid rfl
      generalize ((Ct.ruletop.sizes b).take i).sum = f at *
      have hxv : (Ct.ruletop.sizes b).getD i 0 = (Ct.ruletop.sizes b).getD i 0 := rfl
      generalize hxg : (Ct.ruletop.sizes b).getD i 0 = x at *
      have HXV := Lib.hid hxg
      clear hxg hxv
      obtain ⟨m, hm⟩ : ∃ m, m = f + x := ⟨_, rfl⟩
      rw [← hm] at HPC
      obtain ⟨A4, hA4, hr4⟩ := Ct.run_mid a1 b.length n1 f m (by omega) (by omega) e3
      have HXM : Hid (f + x = m) := Lib.hid hm.symm
      have m1 : m ≤ b.length := by omega
      have HPI : Hid (Ct.bytesIn wr A4 (Ct.ruletop.piece b i)) := Lib.hid (by
        have h := (HB5.out.below L1.out (Nat.le_refl _)).mid n1 f m (by omega) m1 e3
        rw [← hA4, ← HPC.out] at h
        exact h)
      have HPL : Hid ((Ct.ruletop.piece b i).length = m - f) := Lib.hid (by rw [HPC.out, List.length_drop, List.length_take]; omega)
      have f0 : (0 : Int) ≤ (f : Int) := by omega
      have f1 : (f : Int) ≤ (m : Int) := by omega
      have f2 : (m : Int) ≤ (b.length : Int) := by omega
      have f3 : (f : Int) ≤ 2000 := by omega
      have x0 : (0 : Int) ≤ (x : Int) := by omega
      have x3 : (x : Int) ≤ 2000 := by omega
      have m0 : (0 : Int) ≤ (m : Int) := by omega
      have m3 : (m : Int) ≤ 2000 := by omega
      have HMW : Hid ((f : Int) + (x : Int) = (m : Int)) := Lib.hid (by omega)
      have T6 : Hid (tables wr) := Lib.hid (HT.out.below (F5.out.trans (L1.out.mono F5.out.size)) HT.out.2.2.1 HT.out.2.2.2)
      have L2 := Lib.hid ((Below.refl wr.heap.size wr).alloc (Nat.le_refl _) (.cells #[.slice A4 (m - f) (n1 - f)] 22 (0, 0)))
      have hp2 : partsIn (wr.alloc (.cells #[.slice A4 (m - f) (n1 - f)] 22 (0, 0))) (some ⟨wr.heap.size, 0, none⟩) [Ct.ruletop.piece b i] := by
        refine Or.inr ⟨_, _, rfl, fun j hj => ?_⟩
        match j, hj with
        | 0, _ => exact ⟨A4, n1 - f, by rw [World.cell?_alloc_at _ _ _ _ rfl]; show some (Value.slice A4 (m - f) (n1 - f)) = some (Value.slice A4 (Ct.ruletop.piece b i).length (n1 - f)); rw [HPL.out], by show (Ct.ruletop.piece b i).length ≤ _; rw [HPL.out]; omega, by have := HM1.out; omega, HPI.out.below L2.out (Nat.le_refl _)⟩
      have PO := of_any 1 (some ⟨wr.heap.size, 0, none⟩) [Ct.ruletop.piece b i] (wr.alloc (.cells #[.slice A4 (m - f) (n1 - f)] 22 (0, 0))) (by simp) (by simp) (by simp only [List.flatten_cons, List.flatten_nil, List.append_nil]; rw [HPL.out]; omega) (T6.out.below L2.out T6.out.2.2.1 T6.out.2.2.2) hp2
      rw [show [Ct.ruletop.piece b i].flatten = Ct.ruletop.piece b i by simp, show [Ct.ruletop.piece b i].length = 1 from rfl] at PO
      have PO := Lib.hid PO
      clear hp2 hA4 hpc hm m1 HPI T6
      have hw3 := HMW.out
      go_wp2_with fail
      clear hw3 hr4
      with_reducible refine PO.out.mono ?_
      clear PO
      rintro e w7 ⟨rfl, hb⟩
      have hb7 : Below wr.heap.size wr w7 := L2.out.trans (hb.mono (by simp))
      have HSN : Hid ((List.range (i + 1)).map (fun j => sha (Ct.ruletop.piece b j)) = (List.range i).map (fun j => sha (Ct.ruletop.piece b j)) ++ [sha (Ct.ruletop.piece b i)]) := Lib.hid (by rw [List.range_succ, List.map_append]; rfl)
      have HSL : Hid ((sha (Ct.ruletop.piece b i)).length = 32) := Lib.hid (sha_length _)
      have hrl : Hid (((List.range i).map (fun j => sha (Ct.ruletop.piece b j))).length ≤ 1000000) := Lib.hid (by rw [List.length_map, List.length_range]; omega)
      have S6 := Lib.hid (S1.out.below hb7 (Nat.le_refl _))
      have W7 : Hid (w5.heap.size ≤ w7.heap.size) := Lib.hid (Nat.le_trans L1.out.size hb7.size)
      have L7 := Lib.hid (L1.out.trans (hb7.mono L1.out.size))
      clear hb hb7 S1 L2 HPC HPL
      generalize sha (Ct.ruletop.piece b i) = sm at *
      generalize (List.range i).map (fun j => sha (Ct.ruletop.piece b j)) = SS at *
      have S7 := Lib.hid (S6.out.below ((Below.refl w7.heap.size w7).alloc (Nat.le_refl _) (.cells (byteCells sm).toArray 43)) (Nat.le_refl _))
      have N7 := Lib.hid (blockIs.new w7 (byteCells sm) 43)
      go_wp2_with (first | (refine wpList_build_sum rfl _ rfl sm HSL.out rfl ?_) | (at_builtin; refine append_sum rfl _ _ rfl w5.heap.size _ SS rfl S7.out w7.heap.size 1 sm HSL.out rfl N7.out hrl.out (Nat.le_trans W7.out (by simp)) ?_))
      generalize hcs : (byteCells sm).toArray = cs at *
      have HCS := Lib.hid hcs
      clear hcs
      intro v9 w9 hown hgr
      have hgr : Hid ((w7.alloc (.cells cs 43)).grownBy w9 u13.ownBlock) := hgr
      have L8 : Hid (Below w5.heap.size (w7.alloc (.cells cs 43)) w9) := Lib.hid ⟨hgr.out.os, hgr.out.tape, hgr.out.output, hgr.out.size, fun y hy => hgr.out.block y (Nat.lt_of_lt_of_le hy (Nat.le_trans W7.out (by simp))) (fun e => by have := (World.ownsRow.lt S7.out y e.symm).1; omega)⟩
      have L9 : Hid (Below w5.heap.size w5 w9) := Lib.hid ((L7.out.alloc W7.out _).trans L8.out)
      have d2 : w9.cell? ⟨xb, xo + i, none⟩ = some (.int .i64 (x : Int)) := by
        obtain ⟨xb', xo', e1, d⟩ := (((Ct.rowV.of X5.out).2.2.1).below L9.out (Nat.le_refl _)).at i (by rw [Ct.ivals_length]; exact hlt)
        cases e1
        rw [d]
        simp only [Ct.ivals, List.getElem_map]
        rw [← HXV.out]
        simp [hlt]
      have S9 : Hid (rowS w9 w5.heap.size v9 (SS ++ [sm])) := hown
      obtain ⟨sa9, sc9, rfl, -⟩ := S9.out.form
      clear hown hgr L8 S7 N7 S6 L7 W7 d1
      have hw3 := HMW.out
      go_wp2_with fail
      go_roundw
      case rel => exact ⟨i + 1, by omega, by rw [HTS.out, HXM.out], by go_num, by rw [HSN.out]; exact S9, L9⟩
      case measure => simp [intOf]; omega
    · obtain rfl : i = (Ct.ruletop.sizes b).length := by omega
      have h32 : Hid (∀ l ∈ (List.range (Ct.ruletop.sizes b).length).map (fun j => sha (Ct.ruletop.piece b j)), l.length = 32) := Lib.hid (fun l hl => by
        obtain ⟨j, _, rfl⟩ := List.mem_map.1 hl
        exact sha_length _)
      have HGET : Hid (∀ j (h : j < ((List.range (Ct.ruletop.sizes b).length).map (fun j => sha (Ct.ruletop.piece b j))).length), ((List.range (Ct.ruletop.sizes b).length).map (fun j => sha (Ct.ruletop.piece b j)))[j] = sha (Ct.ruletop.piece b j)) := Lib.hid (fun j h => by simp)
      have HSL : Hid (((List.range (Ct.ruletop.sizes b).length).map (fun j => sha (Ct.ruletop.piece b j))).length = (Ct.ruletop.sizes b).length) := Lib.hid (by simp)
      generalize (List.range (Ct.ruletop.sizes b).length).map (fun j => sha (Ct.ruletop.piece b j)) = SA at *
      obtain ⟨sa, sc, rfl, -⟩ := S1.out.form
      rw [HSL.out]
      generalize ((Ct.ruletop.sizes b).take (Ct.ruletop.sizes b).length).sum = fs at *
      have n0 : (0 : Int) ≤ ((Ct.ruletop.sizes b).length : Int) := by omega
      have n1' : ((Ct.ruletop.sizes b).length : Int) ≤ 2000 := by have := HS1.out; omega
      rename World => wo
      clear i0 hi
      go_wp2_with fail
      go_loopw [2, 16, 17] (fun av mv iv wr => ∃ (i : Nat) (met : Bool), i ≤ (Ct.ruletop.sizes c).length ∧ av = .int .i64 ((((Ct.ruletop.sizes c).take i).sum : Nat) : Int) ∧ mv = .bool met ∧ iv = .int .i64 (i : Int) ∧ Hid (met = true → Ct.ruletop.metAt b c k q.length i) ∧ Hid (Below wo.heap.size wo wr)) (fun _ _ iv _ => (Ct.ruletop.sizes c).length - (intOf iv).toNat)
      case atStart => exact ⟨0, false, Nat.zero_le _, rfl, rfl, rfl, Lib.hid (fun h => by cases h), Lib.hid (Below.refl _ _)⟩
      case round =>
        obtain ⟨i, met, hi, rfl, rfl, rfl, HM, LW⟩ := hrel
        have i0 : (0 : Int) ≤ (i : Int) := by omega
        by_cases hlt : i < (Ct.ruletop.sizes c).length
        · have i1 : (i : Int) < ((Ct.ruletop.sizes c).length : Int) := by omega
          have i2 : (i : Int) ≤ 2500 := by have := HS2.out; omega
          have LW5 : Hid (Below w5.heap.size w5 wr) := Lib.hid (L1.out.trans (LW.out.mono L1.out.size))
          obtain ⟨yb, yo, rfl, d1⟩ := (((Ct.rowV.of Y5.out).2.2.1).below LW5.out (Nat.le_refl _)).at i (by rw [Ct.ivals_length]; exact hlt)
          have e1 : (Ct.ivals (Ct.ruletop.sizes c))[i]'(by rw [Ct.ivals_length]; exact hlt) = .int .i64 (((Ct.ruletop.sizes c).getD i 0 : Nat) : Int) := by simp [Ct.ivals, hlt]
          rw [e1] at d1
          clear e1
          have hpc := Ct.ruletop.sizes_piece Ct.ruletop_ok c i hlt
          have HTS := Lib.hid (Ct.sum_take (Ct.ruletop.sizes c) i hlt)
          have HPC : Hid (Ct.ruletop.piece c i = (c.take (((Ct.ruletop.sizes c).take i).sum + (Ct.ruletop.sizes c).getD i 0)).drop ((Ct.ruletop.sizes c).take i).sum) := Lib.hid rfl
          have HAH : Hid (((Ct.ruletop.sizes c).take i).sum + (Ct.ruletop.sizes c).getD i 0 ≤ k → ((Ct.ruletop.sizes c).take i).sum + (Ct.ruletop.sizes c).getD i 0 < c.length → ∃ j, j < (Ct.ruletop.sizes b).length ∧ Ct.ruletop.piece b j = Ct.ruletop.piece c i) := Lib.hid (fun g1 g2 => by
            have hk := HK2.out
            have := Ct.ruletop.ahead_piece b c k hk (by rw [HCD.out, List.append_assoc, List.take_append_of_le_length (by rw [List.length_take]; omega), List.take_take, Nat.min_self]) (by have := HCL.out; omega) i hlt g1 g2
            exact ⟨i, this.1, this.2⟩)
          have HMS : Hid (Ct.ruletop.metAt b c k q.length i → (∃ j, j < (Ct.ruletop.sizes b).length ∧ Ct.ruletop.piece b j = Ct.ruletop.piece c i) ∧ Ct.ruletop.metAt b c k q.length (i + 1)) := Lib.hid (fun h => by
            have := Ct.ruletop.met_step b q k i HK2.out (by rw [← HCD.out]; exact hlt) (by rw [← HCD.out]; exact h)
            rw [← HCD.out] at this
            exact this)
          have HME : Hid (∀ j, j ≤ (Ct.ruletop.sizes b).length → ((Ct.ruletop.sizes b).take j).sum + q.length = ((Ct.ruletop.sizes c).take i).sum → k + q.length ≤ ((Ct.ruletop.sizes c).take i).sum → Ct.ruletop.metAt b c k q.length i) := Lib.hid (fun j g1 g2 g3 => ⟨j, g1, g2, g3⟩)
          generalize ((Ct.ruletop.sizes c).take i).sum = A at *
          generalize (Ct.ruletop.sizes c).getD i 0 = x at *
          obtain ⟨E, hE⟩ : ∃ E, E = A + x := ⟨_, rfl⟩
          rw [← hE] at HPC HAH
          have EL : E ≤ c.length := by omega
          have HAE : Hid (A + x = E) := Lib.hid hE.symm
          have A0 : (0 : Int) ≤ (A : Int) := by omega
          have x0 : (0 : Int) ≤ (x : Int) := by omega
          have A2 : (A : Int) ≤ 2500 := by omega
          have x2 : (x : Int) ≤ 2500 := by omega
          have E0 : (0 : Int) ≤ (E : Int) := by omega
          have E2 : (E : Int) ≤ 2500 := by omega
          have AE : (A : Int) ≤ (E : Int) := by omega
          have EC : (E : Int) ≤ (c.length : Int) := by omega
          have k3 : (k : Int) ≤ 2000 := by have := HK2.out; omega
          have q0 : (0 : Int) ≤ (q.length : Int) := by omega
          have q1 : (q.length : Int) ≤ 500 := by omega
          have c2 : (c.length : Int) ≤ 2500 := by omega
          have hw3 : (A : Int) + (x : Int) = (E : Int) := by omega
          clear hE hpc
          go_upto_region 22 with fail
          clear hw3 d1
          rcases (show ¬ k + q.length ≤ A ∨ k + q.length ≤ A by omega) with g0 | g0
          · have g0i : ¬ (k : Int) + (q.length : Int) ≤ (A : Int) := by omega
            cases met with
            | true =>
              have HMT : Hid (Ct.ruletop.metAt b c k q.length i) := Lib.hid (HM.out rfl)
              go_upto_region 29 with fail
              rcases (show ((E : Int) ≤ (k : Int) ∧ (E : Int) < (c.length : Int)) ∨ ((E : Int) ≤ (k : Int) ∧ ¬ (E : Int) < (c.length : Int)) ∨ ¬ (E : Int) ≤ (k : Int) by omega) with ⟨g3, g4⟩ | ⟨g3, g4⟩ | g3
              all_goals
                as_aux_lemma =>
                  have HKN : Hid (∃ j, j < (Ct.ruletop.sizes b).length ∧ Ct.ruletop.piece b j = Ct.ruletop.piece c i) := Lib.hid ((HMS.out HMT.out).1)
                  obtain ⟨A5, hA5, hr5⟩ := Ct.run_mid ca c.length cc A E (by omega) EL hcc
                  have HPI : Hid (Ct.bytesIn wr A5 (Ct.ruletop.piece c i)) := Lib.hid (by
                    have h := (HC5.out.below LW5.out (Nat.le_refl _)).mid cc A E (by omega) EL hcc
                    rw [← hA5, ← HPC.out] at h
                    exact h)
                  have HPL : Hid ((Ct.ruletop.piece c i).length = E - A) := Lib.hid (by rw [HPC.out, List.length_drop, List.length_take]; omega)
                  have T6 : Hid (tables wr) := Lib.hid (HT.out.below (F5.out.trans (LW5.out.mono F5.out.size)) HT.out.2.2.1 HT.out.2.2.2)
                  have L2 := Lib.hid ((Below.refl wr.heap.size wr).alloc (Nat.le_refl _) (.cells #[.slice A5 (E - A) (cc - A)] 22 (0, 0)))
                  have hp2 : partsIn (wr.alloc (.cells #[.slice A5 (E - A) (cc - A)] 22 (0, 0))) (some ⟨wr.heap.size, 0, none⟩) [Ct.ruletop.piece c i] := by
                    refine Or.inr ⟨_, _, rfl, fun j hj => ?_⟩
                    match j, hj with
                    | 0, _ => exact ⟨A5, cc - A, by rw [World.cell?_alloc_at _ _ _ _ rfl]; show some (Value.slice A5 (E - A) (cc - A)) = some (Value.slice A5 (Ct.ruletop.piece c i).length (cc - A)); rw [HPL.out], by show (Ct.ruletop.piece c i).length ≤ _; rw [HPL.out]; omega, by have := HCM.out; omega, HPI.out.below L2.out (Nat.le_refl _)⟩
                  have PO := of_any 1 (some ⟨wr.heap.size, 0, none⟩) [Ct.ruletop.piece c i] (wr.alloc (.cells #[.slice A5 (E - A) (cc - A)] 22 (0, 0))) (by simp) (by simp) (by simp only [List.flatten_cons, List.flatten_nil, List.append_nil]; rw [HPL.out]; omega) (T6.out.below L2.out T6.out.2.2.1 T6.out.2.2.2) hp2
                  rw [show [Ct.ruletop.piece c i].flatten = Ct.ruletop.piece c i by simp, show [Ct.ruletop.piece c i].length = 1 from rfl] at PO
                  have PO := Lib.hid PO
                  clear hp2 hA5 HPI T6
                  go_wp2_with fail
                  clear hr5
                  with_reducible refine PO.out.mono ?_
                  clear PO
                  rintro e w7 ⟨rfl, hb⟩
                  have hb7 : Below wr.heap.size wr w7 := L2.out.trans (hb.mono (by simp))
                  have L7 := Lib.hid (LW.out.trans (hb7.mono LW.out.size))
                  have SJ : Hid (∃ j, j < (Ct.ruletop.sizes b).length ∧ sha (Ct.ruletop.piece b j) = sha (Ct.ruletop.piece c i)) := Lib.hid (by
                    obtain ⟨j, h1, h2⟩ := HKN.out
                    exact ⟨j, h1, by rw [h2]⟩)
                  have HSM : Hid ((sha (Ct.ruletop.piece c i)).length = 32) := Lib.hid (sha_length _)
                  clear hb hb7 L2 HKN HPL HPC
                  generalize sha (Ct.ruletop.piece c i) = sm at *
                  have hz3 := zero28
                  have HW7 : Hid (wo.heap.size ≤ w7.heap.size) := Lib.hid L7.out.size
                  go_wp2_with (refine wpList_store_block rfl 43 _ _ rfl w7.heap.size 0 (byteCells sm) rfl rfl (zeros 32) 43 (blockIs.new w7 _ _) (by rw [info28, byteCells_length, HSM.out]) (by simp [zeros, byteCells_length, HSM.out]) (byteCells_one _) ?_)
                  intro w9 h1 h2 h3
                  have h1 := h1.out
                  rw [splice_all _ _ (by simp [zeros, byteCells_length, HSM.out])] at h1
                  have B9 := Lib.hid h1
                  have L9 : Hid (Below wo.heap.size wo w9) := Lib.hid ((L7.out.alloc L7.out.size (.cells (zeros 32).toArray 43 (0, 0))).trans (h2.out.below L7.out.size (by simp; have := HW7.out; omega)))
                  clear h1 h2 h3 L7 hz3
                  have S9 : Hid (rowS w9 w5.heap.size (.slice sa (Ct.ruletop.sizes b).length sc) SA) := Lib.hid (by
                    have h := S1.out.below L9.out (Nat.le_refl _)
                    rw [HSL.out] at h
                    exact h)
                  rename World => wq
                  go_wp2_with fail
                  go_loopw [24, 25] (fun kv jv wr => ∃ (j : Nat) (kb : Bool), j ≤ (Ct.ruletop.sizes b).length ∧ kv = .bool kb ∧ jv = .int .i64 (j : Int) ∧ Hid (∀ t (h : t < SA.length), t < j → SA[t] = sm → kb = true) ∧ Hid (Below wq.heap.size wq wr)) (fun _ jv _ => (Ct.ruletop.sizes b).length - (intOf jv).toNat)
                  case atStart => exact ⟨0, false, Nat.zero_le _, rfl, rfl, Lib.hid (fun t _ h => absurd h (Nat.not_lt_zero _)), Lib.hid (Below.refl _ _)⟩
                  case round =>
                    obtain ⟨j, kb, hj, rfl, rfl, HKB, LQ⟩ := hrel
                    have j0 : (0 : Int) ≤ (j : Int) := by omega
                    by_cases hlt4 : j < (Ct.ruletop.sizes b).length
                    · have j1 : (j : Int) < ((Ct.ruletop.sizes b).length : Int) := by omega
                      have j2 : (j : Int) ≤ 2000 := by omega
                      cases kb with
                      | true =>
                        go_upto_region 34 with fail
                        refine wp_region_noPanic ?_
                        refine wp_region_held_drew (S := fun _ => True) (by kernel_rfl) trivial (fun hH => ?_)
                        refine wpAnyH_take (i := 0) (oi := { dst := some 174, op := Op.move (Operand.tmp 24), type := 4, pos := "top02.go:40", after := #[], guard := none }) (v := .bool true) rfl (by kernel_rfl) (by kernel_rfl) (by kernel_rfl) (fun _ _ _ h => h) (Or.inl ⟨by rfl, fun wx hS => ?_⟩) hH ?_
                        · go_simp
                        simp only [Act.put, List.setIfInBounds_toArray, List.set_cons_zero, List.set_cons_succ]
                        refine wpAnyH_take (i := 1) (oi := { dst := some 175, op := Op.move (Operand.tmp 174), type := 4, pos := "top02.go:40", after := #[{ on := 0, ground := Ground.data }], guard := none }) (v := .bool true) rfl (by kernel_rfl) (by kernel_rfl) (by kernel_rfl) (fun _ _ _ h => h) (Or.inl ⟨by rfl, fun wx hS => ?_⟩) hH ?_
                        · go_simp
                        simp only [Act.put, List.setIfInBounds_toArray, List.set_cons_zero, List.set_cons_succ]
                        refine wpAnyH_take (i := 2) (oi := { dst := some 176, op := Op.move (Operand.tmp 13), type := 42, pos := "top02.go:40", after := #[{ on := 1, ground := Ground.guard }], guard := some (1, false) }) (v := undef) rfl (by kernel_rfl) (by kernel_rfl) (by kernel_rfl) (fun _ _ _ h => h) (Or.inr ⟨by rfl, rfl⟩) hH ?_
                        simp only [Act.put, List.setIfInBounds_toArray, List.set_cons_zero, List.set_cons_succ]
                        refine wpAnyH_take (i := 3) (oi := { dst := some 177, op := Op.move (Operand.tmp 25), type := 3, pos := "top02.go:40", after := #[{ on := 1, ground := Ground.guard }], guard := some (1, false) }) (v := undef) rfl (by kernel_rfl) (by kernel_rfl) (by kernel_rfl) (fun _ _ _ h => h) (Or.inr ⟨by rfl, rfl⟩) hH ?_
                        simp only [Act.put, List.setIfInBounds_toArray, List.set_cons_zero, List.set_cons_succ]
                        refine wpAnyH_take (i := 4) (oi := { dst := some 178, op := Op.indexAddr 42 (Operand.tmp 176) (Operand.tmp 177), type := 0, pos := "top02.go:40", after := #[{ on := 2, ground := Ground.data }, { on := 3, ground := Ground.data }, { on := 1, ground := Ground.guard }], guard := some (1, false) }) (v := undef) rfl (by kernel_rfl) (by kernel_rfl) (by kernel_rfl) (fun _ _ _ h => h) (Or.inr ⟨by rfl, rfl⟩) hH ?_
                        simp only [Act.put, List.setIfInBounds_toArray, List.set_cons_zero, List.set_cons_succ]
                        refine wpAnyH_take (i := 5) (oi := { dst := some 179, op := Op.load 43 (Operand.tmp 178), type := 43, pos := "top02.go:40", after := #[{ on := 4, ground := Ground.data }, { on := 1, ground := Ground.guard }], guard := some (1, false) }) (v := undef) rfl (by kernel_rfl) (by kernel_rfl) (by kernel_rfl) (fun _ _ _ h => h) (Or.inr ⟨by rfl, rfl⟩) hH ?_
                        simp only [Act.put, List.setIfInBounds_toArray, List.set_cons_zero, List.set_cons_succ]
                        refine wpAnyH_take (i := 6) (oi := { dst := some 180, op := Op.load 43 (Operand.tmp 23), type := 43, pos := "top02.go:40", after := #[{ on := 1, ground := Ground.guard }], guard := some (1, false) }) (v := undef) rfl (by kernel_rfl) (by kernel_rfl) (by kernel_rfl) (fun _ _ _ h => h) (Or.inr ⟨by rfl, rfl⟩) hH ?_
                        simp only [Act.put, List.setIfInBounds_toArray, List.set_cons_zero, List.set_cons_succ]
                        refine wpAnyH_take (i := 7) (oi := { dst := some 181, op := Op.binOp BinOp.eql 43 (Operand.tmp 179) (Operand.tmp 180) 43, type := 4, pos := "top02.go:40", after := #[{ on := 5, ground := Ground.data }, { on := 6, ground := Ground.data }, { on := 1, ground := Ground.guard }], guard := some (1, false) }) (v := undef) rfl (by kernel_rfl) (by kernel_rfl) (by kernel_rfl) (fun _ _ _ h => h) (Or.inr ⟨by rfl, rfl⟩) hH ?_
                        simp only [Act.put, List.setIfInBounds_toArray, List.set_cons_zero, List.set_cons_succ]
                        refine wpAnyH_take (i := 8) (oi := { dst := some 182, op := Op.pick (Operand.tmp 175) (Operand.const (Value.bool true)) (Operand.tmp 181), type := 4, pos := "top02.go:40", after := #[{ on := 1, ground := Ground.data }, { on := 7, ground := Ground.data }], guard := none }) (v := .bool true) rfl (by kernel_rfl) (by kernel_rfl) (by kernel_rfl) (fun _ _ _ h => h) (Or.inl ⟨by rfl, fun wx hS => ?_⟩) hH ?_
                        · go_simp
                        simp only [Act.put, List.setIfInBounds_toArray, List.set_cons_zero, List.set_cons_succ]
                        refine wpAnyH_take (i := 9) (oi := { dst := some 24, op := Op.assign (Operand.tmp 182), type := 4, pos := "top02.go:40", after := #[{ on := 8, ground := Ground.data }, { on := 1, ground := Ground.chain }, { on := 0, ground := Ground.phase }, { on := 1, ground := Ground.phase }, { on := 2, ground := Ground.phase }, { on := 3, ground := Ground.phase }, { on := 4, ground := Ground.phase }, { on := 5, ground := Ground.phase }, { on := 6, ground := Ground.phase }, { on := 7, ground := Ground.phase }, { on := 8, ground := Ground.phase }], guard := none }) (v := .bool true) rfl (by kernel_rfl) (by kernel_rfl) (by kernel_rfl) (fun _ _ _ h => h) (Or.inl ⟨by rfl, fun wx hS => ?_⟩) hH ?_
                        · go_simp
                        simp only [Act.put, List.setIfInBounds_toArray, List.set_cons_zero, List.set_cons_succ]
                        refine wpAnyH_done (by kernel_rfl) ?_ _
                        refine NoPanic.normal ?_
                        clear hH
                        go_wp2_with fail
                        go_roundw
                        case rel => exact ⟨j + 1, true, by omega, rfl, by go_num, Lib.hid (fun _ _ _ _ => rfl), Lib.hid (below_drewN' LQ.out 1)⟩
                        case measure => simp [intOf]; omega
                      | false =>
                        have hjS : j < SA.length := by rw [HSL.out]; exact hlt4
                        obtain ⟨sg, rfl, hrg⟩ := (S9.out.below LQ.out (Nat.le_refl _)).at h32.out j hjS
                        have BQ := Lib.hid (B9.out.below LQ.out B9.out.lt)
                        have RG := Lib.hid hrg
                        have HLJ : Hid ((SA[j]).length = 32) := Lib.hid (h32.out _ (List.getElem_mem hjS))
                        have HPJ : Hid (∀ t (h : t < SA.length), t < j + 1 → SA[t] = sm → (SA[j] == sm) = true) := Lib.hid (fun t h1 h2 h3 => by
                          by_cases e : t = j
                          · subst e; rw [h3]; simp
                          · exact absurd (HKB.out t h1 (by omega) h3) (by decide))
                        clear hrg HKB
                        generalize SA[j] = sj at *
                        go_upto_region 34 with fail
                        refine wp_region_noPanic ?_
                        refine wp_region_held_drew (S := fun w' => w'.rangeAt sg (j * 32) (byteCells sj) ∧ w'.rangeAt w7.heap.size 0 (byteCells sm)) (by kernel_rfl) ⟨RG.out, fun t u hu => by rw [Nat.zero_add]; exact (BQ.out.cell t).trans hu⟩ (fun hH => ?_)
                        refine wpAnyH_take (i := 0) (oi := { dst := some 174, op := Op.move (Operand.tmp 24), type := 4, pos := "top02.go:40", after := #[], guard := none }) (v := .bool false) rfl (by kernel_rfl) (by kernel_rfl) (by kernel_rfl) (fun _ _ _ h => h) (Or.inl ⟨by rfl, fun wx hS => ?_⟩) hH ?_
                        · go_simp
                        simp only [Act.put, List.setIfInBounds_toArray, List.set_cons_zero, List.set_cons_succ]
                        refine wpAnyH_take (i := 1) (oi := { dst := some 175, op := Op.move (Operand.tmp 174), type := 4, pos := "top02.go:40", after := #[{ on := 0, ground := Ground.data }], guard := none }) (v := .bool false) rfl (by kernel_rfl) (by kernel_rfl) (by kernel_rfl) (fun _ _ _ h => h) (Or.inl ⟨by rfl, fun wx hS => ?_⟩) hH ?_
                        · go_simp
                        simp only [Act.put, List.setIfInBounds_toArray, List.set_cons_zero, List.set_cons_succ]
                        refine wpAnyH_take (i := 2) (oi := { dst := some 176, op := Op.move (Operand.tmp 13), type := 42, pos := "top02.go:40", after := #[{ on := 1, ground := Ground.guard }], guard := some (1, false) }) (v := .slice (some ⟨sg, 0, none⟩) (Ct.ruletop.sizes b).length sc) rfl (by kernel_rfl) (by kernel_rfl) (by kernel_rfl) (fun _ _ _ h => h) (Or.inl ⟨by rfl, fun wx hS => ?_⟩) hH ?_
                        · go_simp
                        simp only [Act.put, List.setIfInBounds_toArray, List.set_cons_zero, List.set_cons_succ]
                        refine wpAnyH_take (i := 3) (oi := { dst := some 177, op := Op.move (Operand.tmp 25), type := 3, pos := "top02.go:40", after := #[{ on := 1, ground := Ground.guard }], guard := some (1, false) }) (v := .int .i64 (j : Int)) rfl (by kernel_rfl) (by kernel_rfl) (by kernel_rfl) (fun _ _ _ h => h) (Or.inl ⟨by rfl, fun wx hS => ?_⟩) hH ?_
                        · go_simp
                        simp only [Act.put, List.setIfInBounds_toArray, List.set_cons_zero, List.set_cons_succ]
                        refine wpAnyH_take (i := 4) (oi := { dst := some 178, op := Op.indexAddr 42 (Operand.tmp 176) (Operand.tmp 177), type := 0, pos := "top02.go:40", after := #[{ on := 2, ground := Ground.data }, { on := 3, ground := Ground.data }, { on := 1, ground := Ground.guard }], guard := some (1, false) }) (v := .pointer (some ⟨sg, j * 32, none⟩)) rfl (by kernel_rfl) (by kernel_rfl) (by kernel_rfl) (fun _ _ _ h => h) (Or.inl ⟨by rfl, fun wx hS => ?_⟩) hH ?_
                        · go_simp
                        simp only [Act.put, List.setIfInBounds_toArray, List.set_cons_zero, List.set_cons_succ]
                        refine wpAnyH_take (i := 5) (oi := { dst := some 179, op := Op.load 43 (Operand.tmp 178), type := 43, pos := "top02.go:40", after := #[{ on := 4, ground := Ground.data }, { on := 1, ground := Ground.guard }], guard := some (1, false) }) (v := .agg (byteCells sj).toArray) rfl (by kernel_rfl) (by kernel_rfl) (by kernel_rfl) (fun _ _ _ h => h) (yieldsIf_load_mid (by rfl) 43 _ rfl sg (j * 32) rfl (byteCells sj) _ (fun wx hS => hS.1) Tryd.underlying43 rfl (by rw [info28, byteCells_length, HLJ.out])) hH ?_
                        simp only [Act.put, List.setIfInBounds_toArray, List.set_cons_zero, List.set_cons_succ]
                        refine wpAnyH_take (i := 6) (oi := { dst := some 180, op := Op.load 43 (Operand.tmp 23), type := 43, pos := "top02.go:40", after := #[{ on := 1, ground := Ground.guard }], guard := some (1, false) }) (v := .agg (byteCells sm).toArray) rfl (by kernel_rfl) (by kernel_rfl) (by kernel_rfl) (fun _ _ _ h => h) (yieldsIf_load_mid (by rfl) 43 _ rfl w7.heap.size 0 rfl (byteCells sm) _ (fun wx hS => hS.2) Tryd.underlying43 rfl (by rw [info28, byteCells_length, HSM.out])) hH ?_
                        simp only [Act.put, List.setIfInBounds_toArray, List.set_cons_zero, List.set_cons_succ]
                        refine wpAnyH_take (i := 7) (oi := { dst := some 181, op := Op.binOp BinOp.eql 43 (Operand.tmp 179) (Operand.tmp 180) 43, type := 4, pos := "top02.go:40", after := #[{ on := 5, ground := Ground.data }, { on := 6, ground := Ground.data }, { on := 1, ground := Ground.guard }], guard := some (1, false) }) (v := .bool (sj == sm)) rfl (by kernel_rfl) (by kernel_rfl) (by kernel_rfl) (fun _ _ _ h => h) (Or.inl ⟨by rfl, fun wx hS => ?_⟩) hH ?_
                        · exact eql_op2 _ _ _ _ sj sm rfl rfl rfl HLJ.out HSM.out wx
                        simp only [Act.put, List.setIfInBounds_toArray, List.set_cons_zero, List.set_cons_succ]
                        refine wpAnyH_take (i := 8) (oi := { dst := some 182, op := Op.pick (Operand.tmp 175) (Operand.const (Value.bool true)) (Operand.tmp 181), type := 4, pos := "top02.go:40", after := #[{ on := 1, ground := Ground.data }, { on := 7, ground := Ground.data }], guard := none }) (v := .bool (sj == sm)) rfl (by kernel_rfl) (by kernel_rfl) (by kernel_rfl) (fun _ _ _ h => h) (Or.inl ⟨by rfl, fun wx hS => ?_⟩) hH ?_
                        · go_simp
                        simp only [Act.put, List.setIfInBounds_toArray, List.set_cons_zero, List.set_cons_succ]
                        refine wpAnyH_take (i := 9) (oi := { dst := some 24, op := Op.assign (Operand.tmp 182), type := 4, pos := "top02.go:40", after := #[{ on := 8, ground := Ground.data }, { on := 1, ground := Ground.chain }, { on := 0, ground := Ground.phase }, { on := 1, ground := Ground.phase }, { on := 2, ground := Ground.phase }, { on := 3, ground := Ground.phase }, { on := 4, ground := Ground.phase }, { on := 5, ground := Ground.phase }, { on := 6, ground := Ground.phase }, { on := 7, ground := Ground.phase }, { on := 8, ground := Ground.phase }], guard := none }) (v := .bool (sj == sm)) rfl (by kernel_rfl) (by kernel_rfl) (by kernel_rfl) (fun _ _ _ h => h) (Or.inl ⟨by rfl, fun wx hS => ?_⟩) hH ?_
                        · go_simp
                        simp only [Act.put, List.setIfInBounds_toArray, List.set_cons_zero, List.set_cons_succ]
                        refine wpAnyH_done (by kernel_rfl) ?_ _
                        refine NoPanic.normal ?_
                        clear hH
                        clear RG BQ
                        go_wp2_with fail
                        go_roundw
                        case rel => exact ⟨j + 1, _, by omega, rfl, by go_num, HPJ, Lib.hid (below_drewN' LQ.out 1)⟩
                        case measure => simp [intOf]; omega
                    · have j1 : ¬ (j : Int) < ((Ct.ruletop.sizes b).length : Int) := by omega
                      have hkb : kb = true := by
                        obtain ⟨t, h1, h2⟩ := SJ.out
                        exact HKB.out t (by rw [HSL.out]; exact h1) (by omega) (by rw [HGET.out]; exact h2)
                      subst hkb
                      go_wp2_with fail
                      go_roundw
                      case rel => exact ⟨i + 1, true, by omega, by rw [HTS.out, HAE.out], rfl, by go_num, Lib.hid (fun h => (HMS.out HMT.out).2), Lib.hid (L9.out.trans (LQ.out.mono L9.out.size))⟩
                      case measure => simp [intOf]; omega
            | false =>
              go_upto_region 29 with fail
              rcases (show ((E : Int) ≤ (k : Int) ∧ (E : Int) < (c.length : Int)) ∨ ((E : Int) ≤ (k : Int) ∧ ¬ (E : Int) < (c.length : Int)) ∨ ¬ (E : Int) ≤ (k : Int) by omega) with ⟨g3, g4⟩ | ⟨g3, g4⟩ | g3
              · as_aux_lemma =>
                  have HKN : Hid (∃ j, j < (Ct.ruletop.sizes b).length ∧ Ct.ruletop.piece b j = Ct.ruletop.piece c i) := Lib.hid (HAH.out (by omega) (by omega))
                  obtain ⟨A5, hA5, hr5⟩ := Ct.run_mid ca c.length cc A E (by omega) EL hcc
                  have HPI : Hid (Ct.bytesIn wr A5 (Ct.ruletop.piece c i)) := Lib.hid (by
                    have h := (HC5.out.below LW5.out (Nat.le_refl _)).mid cc A E (by omega) EL hcc
                    rw [← hA5, ← HPC.out] at h
                    exact h)
                  have HPL : Hid ((Ct.ruletop.piece c i).length = E - A) := Lib.hid (by rw [HPC.out, List.length_drop, List.length_take]; omega)
                  have T6 : Hid (tables wr) := Lib.hid (HT.out.below (F5.out.trans (LW5.out.mono F5.out.size)) HT.out.2.2.1 HT.out.2.2.2)
                  have L2 := Lib.hid ((Below.refl wr.heap.size wr).alloc (Nat.le_refl _) (.cells #[.slice A5 (E - A) (cc - A)] 22 (0, 0)))
                  have hp2 : partsIn (wr.alloc (.cells #[.slice A5 (E - A) (cc - A)] 22 (0, 0))) (some ⟨wr.heap.size, 0, none⟩) [Ct.ruletop.piece c i] := by
                    refine Or.inr ⟨_, _, rfl, fun j hj => ?_⟩
                    match j, hj with
                    | 0, _ => exact ⟨A5, cc - A, by rw [World.cell?_alloc_at _ _ _ _ rfl]; show some (Value.slice A5 (E - A) (cc - A)) = some (Value.slice A5 (Ct.ruletop.piece c i).length (cc - A)); rw [HPL.out], by show (Ct.ruletop.piece c i).length ≤ _; rw [HPL.out]; omega, by have := HCM.out; omega, HPI.out.below L2.out (Nat.le_refl _)⟩
                  have PO := of_any 1 (some ⟨wr.heap.size, 0, none⟩) [Ct.ruletop.piece c i] (wr.alloc (.cells #[.slice A5 (E - A) (cc - A)] 22 (0, 0))) (by simp) (by simp) (by simp only [List.flatten_cons, List.flatten_nil, List.append_nil]; rw [HPL.out]; omega) (T6.out.below L2.out T6.out.2.2.1 T6.out.2.2.2) hp2
                  rw [show [Ct.ruletop.piece c i].flatten = Ct.ruletop.piece c i by simp, show [Ct.ruletop.piece c i].length = 1 from rfl] at PO
                  have PO := Lib.hid PO
                  clear hp2 hA5 HPI T6
                  go_wp2_with fail
                  clear hr5
                  with_reducible refine PO.out.mono ?_
                  clear PO
                  rintro e w7 ⟨rfl, hb⟩
                  have hb7 : Below wr.heap.size wr w7 := L2.out.trans (hb.mono (by simp))
                  have L7 := Lib.hid (LW.out.trans (hb7.mono LW.out.size))
                  have SJ : Hid (∃ j, j < (Ct.ruletop.sizes b).length ∧ sha (Ct.ruletop.piece b j) = sha (Ct.ruletop.piece c i)) := Lib.hid (by
                    obtain ⟨j, h1, h2⟩ := HKN.out
                    exact ⟨j, h1, by rw [h2]⟩)
                  have HSM : Hid ((sha (Ct.ruletop.piece c i)).length = 32) := Lib.hid (sha_length _)
                  clear hb hb7 L2 HKN HPL HPC
                  generalize sha (Ct.ruletop.piece c i) = sm at *
                  have hz3 := zero28
                  have HW7 : Hid (wo.heap.size ≤ w7.heap.size) := Lib.hid L7.out.size
                  go_wp2_with (refine wpList_store_block rfl 43 _ _ rfl w7.heap.size 0 (byteCells sm) rfl rfl (zeros 32) 43 (blockIs.new w7 _ _) (by rw [info28, byteCells_length, HSM.out]) (by simp [zeros, byteCells_length, HSM.out]) (byteCells_one _) ?_)
                  intro w9 h1 h2 h3
                  have h1 := h1.out
                  rw [splice_all _ _ (by simp [zeros, byteCells_length, HSM.out])] at h1
                  have B9 := Lib.hid h1
                  have L9 : Hid (Below wo.heap.size wo w9) := Lib.hid ((L7.out.alloc L7.out.size (.cells (zeros 32).toArray 43 (0, 0))).trans (h2.out.below L7.out.size (by simp; have := HW7.out; omega)))
                  clear h1 h2 h3 L7 hz3
                  have S9 : Hid (rowS w9 w5.heap.size (.slice sa (Ct.ruletop.sizes b).length sc) SA) := Lib.hid (by
                    have h := S1.out.below L9.out (Nat.le_refl _)
                    rw [HSL.out] at h
                    exact h)
                  rename World => wq
                  go_wp2_with fail
                  go_loopw [24, 25] (fun kv jv wr => ∃ (j : Nat) (kb : Bool), j ≤ (Ct.ruletop.sizes b).length ∧ kv = .bool kb ∧ jv = .int .i64 (j : Int) ∧ Hid (∀ t (h : t < SA.length), t < j → SA[t] = sm → kb = true) ∧ Hid (Below wq.heap.size wq wr)) (fun _ jv _ => (Ct.ruletop.sizes b).length - (intOf jv).toNat)
                  case atStart => exact ⟨0, false, Nat.zero_le _, rfl, rfl, Lib.hid (fun t _ h => absurd h (Nat.not_lt_zero _)), Lib.hid (Below.refl _ _)⟩
                  case round =>
                    obtain ⟨j, kb, hj, rfl, rfl, HKB, LQ⟩ := hrel
                    have j0 : (0 : Int) ≤ (j : Int) := by omega
                    by_cases hlt4 : j < (Ct.ruletop.sizes b).length
                    · have j1 : (j : Int) < ((Ct.ruletop.sizes b).length : Int) := by omega
                      have j2 : (j : Int) ≤ 2000 := by omega
                      cases kb with
                      | true =>
                        go_upto_region 34 with fail
                        refine wp_region_noPanic ?_
                        refine wp_region_held_drew (S := fun _ => True) (by kernel_rfl) trivial (fun hH => ?_)
                        refine wpAnyH_take (i := 0) (oi := { dst := some 174, op := Op.move (Operand.tmp 24), type := 4, pos := "top02.go:40", after := #[], guard := none }) (v := .bool true) rfl (by kernel_rfl) (by kernel_rfl) (by kernel_rfl) (fun _ _ _ h => h) (Or.inl ⟨by rfl, fun wx hS => ?_⟩) hH ?_
                        · go_simp
                        simp only [Act.put, List.setIfInBounds_toArray, List.set_cons_zero, List.set_cons_succ]
                        refine wpAnyH_take (i := 1) (oi := { dst := some 175, op := Op.move (Operand.tmp 174), type := 4, pos := "top02.go:40", after := #[{ on := 0, ground := Ground.data }], guard := none }) (v := .bool true) rfl (by kernel_rfl) (by kernel_rfl) (by kernel_rfl) (fun _ _ _ h => h) (Or.inl ⟨by rfl, fun wx hS => ?_⟩) hH ?_
                        · go_simp
                        simp only [Act.put, List.setIfInBounds_toArray, List.set_cons_zero, List.set_cons_succ]
                        refine wpAnyH_take (i := 2) (oi := { dst := some 176, op := Op.move (Operand.tmp 13), type := 42, pos := "top02.go:40", after := #[{ on := 1, ground := Ground.guard }], guard := some (1, false) }) (v := undef) rfl (by kernel_rfl) (by kernel_rfl) (by kernel_rfl) (fun _ _ _ h => h) (Or.inr ⟨by rfl, rfl⟩) hH ?_
                        simp only [Act.put, List.setIfInBounds_toArray, List.set_cons_zero, List.set_cons_succ]
                        refine wpAnyH_take (i := 3) (oi := { dst := some 177, op := Op.move (Operand.tmp 25), type := 3, pos := "top02.go:40", after := #[{ on := 1, ground := Ground.guard }], guard := some (1, false) }) (v := undef) rfl (by kernel_rfl) (by kernel_rfl) (by kernel_rfl) (fun _ _ _ h => h) (Or.inr ⟨by rfl, rfl⟩) hH ?_
                        simp only [Act.put, List.setIfInBounds_toArray, List.set_cons_zero, List.set_cons_succ]
                        refine wpAnyH_take (i := 4) (oi := { dst := some 178, op := Op.indexAddr 42 (Operand.tmp 176) (Operand.tmp 177), type := 0, pos := "top02.go:40", after := #[{ on := 2, ground := Ground.data }, { on := 3, ground := Ground.data }, { on := 1, ground := Ground.guard }], guard := some (1, false) }) (v := undef) rfl (by kernel_rfl) (by kernel_rfl) (by kernel_rfl) (fun _ _ _ h => h) (Or.inr ⟨by rfl, rfl⟩) hH ?_
                        simp only [Act.put, List.setIfInBounds_toArray, List.set_cons_zero, List.set_cons_succ]
                        refine wpAnyH_take (i := 5) (oi := { dst := some 179, op := Op.load 43 (Operand.tmp 178), type := 43, pos := "top02.go:40", after := #[{ on := 4, ground := Ground.data }, { on := 1, ground := Ground.guard }], guard := some (1, false) }) (v := undef) rfl (by kernel_rfl) (by kernel_rfl) (by kernel_rfl) (fun _ _ _ h => h) (Or.inr ⟨by rfl, rfl⟩) hH ?_
                        simp only [Act.put, List.setIfInBounds_toArray, List.set_cons_zero, List.set_cons_succ]
                        refine wpAnyH_take (i := 6) (oi := { dst := some 180, op := Op.load 43 (Operand.tmp 23), type := 43, pos := "top02.go:40", after := #[{ on := 1, ground := Ground.guard }], guard := some (1, false) }) (v := undef) rfl (by kernel_rfl) (by kernel_rfl) (by kernel_rfl) (fun _ _ _ h => h) (Or.inr ⟨by rfl, rfl⟩) hH ?_
                        simp only [Act.put, List.setIfInBounds_toArray, List.set_cons_zero, List.set_cons_succ]
                        refine wpAnyH_take (i := 7) (oi := { dst := some 181, op := Op.binOp BinOp.eql 43 (Operand.tmp 179) (Operand.tmp 180) 43, type := 4, pos := "top02.go:40", after := #[{ on := 5, ground := Ground.data }, { on := 6, ground := Ground.data }, { on := 1, ground := Ground.guard }], guard := some (1, false) }) (v := undef) rfl (by kernel_rfl) (by kernel_rfl) (by kernel_rfl) (fun _ _ _ h => h) (Or.inr ⟨by rfl, rfl⟩) hH ?_
                        simp only [Act.put, List.setIfInBounds_toArray, List.set_cons_zero, List.set_cons_succ]
                        refine wpAnyH_take (i := 8) (oi := { dst := some 182, op := Op.pick (Operand.tmp 175) (Operand.const (Value.bool true)) (Operand.tmp 181), type := 4, pos := "top02.go:40", after := #[{ on := 1, ground := Ground.data }, { on := 7, ground := Ground.data }], guard := none }) (v := .bool true) rfl (by kernel_rfl) (by kernel_rfl) (by kernel_rfl) (fun _ _ _ h => h) (Or.inl ⟨by rfl, fun wx hS => ?_⟩) hH ?_
                        · go_simp
                        simp only [Act.put, List.setIfInBounds_toArray, List.set_cons_zero, List.set_cons_succ]
                        refine wpAnyH_take (i := 9) (oi := { dst := some 24, op := Op.assign (Operand.tmp 182), type := 4, pos := "top02.go:40", after := #[{ on := 8, ground := Ground.data }, { on := 1, ground := Ground.chain }, { on := 0, ground := Ground.phase }, { on := 1, ground := Ground.phase }, { on := 2, ground := Ground.phase }, { on := 3, ground := Ground.phase }, { on := 4, ground := Ground.phase }, { on := 5, ground := Ground.phase }, { on := 6, ground := Ground.phase }, { on := 7, ground := Ground.phase }, { on := 8, ground := Ground.phase }], guard := none }) (v := .bool true) rfl (by kernel_rfl) (by kernel_rfl) (by kernel_rfl) (fun _ _ _ h => h) (Or.inl ⟨by rfl, fun wx hS => ?_⟩) hH ?_
                        · go_simp
                        simp only [Act.put, List.setIfInBounds_toArray, List.set_cons_zero, List.set_cons_succ]
                        refine wpAnyH_done (by kernel_rfl) ?_ _
                        refine NoPanic.normal ?_
                        clear hH
                        go_wp2_with fail
                        go_roundw
                        case rel => exact ⟨j + 1, true, by omega, rfl, by go_num, Lib.hid (fun _ _ _ _ => rfl), Lib.hid (below_drewN' LQ.out 1)⟩
                        case measure => simp [intOf]; omega
                      | false =>
                        have hjS : j < SA.length := by rw [HSL.out]; exact hlt4
                        obtain ⟨sg, rfl, hrg⟩ := (S9.out.below LQ.out (Nat.le_refl _)).at h32.out j hjS
                        have BQ := Lib.hid (B9.out.below LQ.out B9.out.lt)
                        have RG := Lib.hid hrg
                        have HLJ : Hid ((SA[j]).length = 32) := Lib.hid (h32.out _ (List.getElem_mem hjS))
                        have HPJ : Hid (∀ t (h : t < SA.length), t < j + 1 → SA[t] = sm → (SA[j] == sm) = true) := Lib.hid (fun t h1 h2 h3 => by
                          by_cases e : t = j
                          · subst e; rw [h3]; simp
                          · exact absurd (HKB.out t h1 (by omega) h3) (by decide))
                        clear hrg HKB
                        generalize SA[j] = sj at *
                        go_upto_region 34 with fail
                        refine wp_region_noPanic ?_
                        refine wp_region_held_drew (S := fun w' => w'.rangeAt sg (j * 32) (byteCells sj) ∧ w'.rangeAt w7.heap.size 0 (byteCells sm)) (by kernel_rfl) ⟨RG.out, fun t u hu => by rw [Nat.zero_add]; exact (BQ.out.cell t).trans hu⟩ (fun hH => ?_)
                        refine wpAnyH_take (i := 0) (oi := { dst := some 174, op := Op.move (Operand.tmp 24), type := 4, pos := "top02.go:40", after := #[], guard := none }) (v := .bool false) rfl (by kernel_rfl) (by kernel_rfl) (by kernel_rfl) (fun _ _ _ h => h) (Or.inl ⟨by rfl, fun wx hS => ?_⟩) hH ?_
                        · go_simp
                        simp only [Act.put, List.setIfInBounds_toArray, List.set_cons_zero, List.set_cons_succ]
                        refine wpAnyH_take (i := 1) (oi := { dst := some 175, op := Op.move (Operand.tmp 174), type := 4, pos := "top02.go:40", after := #[{ on := 0, ground := Ground.data }], guard := none }) (v := .bool false) rfl (by kernel_rfl) (by kernel_rfl) (by kernel_rfl) (fun _ _ _ h => h) (Or.inl ⟨by rfl, fun wx hS => ?_⟩) hH ?_
                        · go_simp
                        simp only [Act.put, List.setIfInBounds_toArray, List.set_cons_zero, List.set_cons_succ]
                        refine wpAnyH_take (i := 2) (oi := { dst := some 176, op := Op.move (Operand.tmp 13), type := 42, pos := "top02.go:40", after := #[{ on := 1, ground := Ground.guard }], guard := some (1, false) }) (v := .slice (some ⟨sg, 0, none⟩) (Ct.ruletop.sizes b).length sc) rfl (by kernel_rfl) (by kernel_rfl) (by kernel_rfl) (fun _ _ _ h => h) (Or.inl ⟨by rfl, fun wx hS => ?_⟩) hH ?_
                        · go_simp
                        simp only [Act.put, List.setIfInBounds_toArray, List.set_cons_zero, List.set_cons_succ]
                        refine wpAnyH_take (i := 3) (oi := { dst := some 177, op := Op.move (Operand.tmp 25), type := 3, pos := "top02.go:40", after := #[{ on := 1, ground := Ground.guard }], guard := some (1, false) }) (v := .int .i64 (j : Int)) rfl (by kernel_rfl) (by kernel_rfl) (by kernel_rfl) (fun _ _ _ h => h) (Or.inl ⟨by rfl, fun wx hS => ?_⟩) hH ?_
                        · go_simp
                        simp only [Act.put, List.setIfInBounds_toArray, List.set_cons_zero, List.set_cons_succ]
                        refine wpAnyH_take (i := 4) (oi := { dst := some 178, op := Op.indexAddr 42 (Operand.tmp 176) (Operand.tmp 177), type := 0, pos := "top02.go:40", after := #[{ on := 2, ground := Ground.data }, { on := 3, ground := Ground.data }, { on := 1, ground := Ground.guard }], guard := some (1, false) }) (v := .pointer (some ⟨sg, j * 32, none⟩)) rfl (by kernel_rfl) (by kernel_rfl) (by kernel_rfl) (fun _ _ _ h => h) (Or.inl ⟨by rfl, fun wx hS => ?_⟩) hH ?_
                        · go_simp
                        simp only [Act.put, List.setIfInBounds_toArray, List.set_cons_zero, List.set_cons_succ]
                        refine wpAnyH_take (i := 5) (oi := { dst := some 179, op := Op.load 43 (Operand.tmp 178), type := 43, pos := "top02.go:40", after := #[{ on := 4, ground := Ground.data }, { on := 1, ground := Ground.guard }], guard := some (1, false) }) (v := .agg (byteCells sj).toArray) rfl (by kernel_rfl) (by kernel_rfl) (by kernel_rfl) (fun _ _ _ h => h) (yieldsIf_load_mid (by rfl) 43 _ rfl sg (j * 32) rfl (byteCells sj) _ (fun wx hS => hS.1) Tryd.underlying43 rfl (by rw [info28, byteCells_length, HLJ.out])) hH ?_
                        simp only [Act.put, List.setIfInBounds_toArray, List.set_cons_zero, List.set_cons_succ]
                        refine wpAnyH_take (i := 6) (oi := { dst := some 180, op := Op.load 43 (Operand.tmp 23), type := 43, pos := "top02.go:40", after := #[{ on := 1, ground := Ground.guard }], guard := some (1, false) }) (v := .agg (byteCells sm).toArray) rfl (by kernel_rfl) (by kernel_rfl) (by kernel_rfl) (fun _ _ _ h => h) (yieldsIf_load_mid (by rfl) 43 _ rfl w7.heap.size 0 rfl (byteCells sm) _ (fun wx hS => hS.2) Tryd.underlying43 rfl (by rw [info28, byteCells_length, HSM.out])) hH ?_
                        simp only [Act.put, List.setIfInBounds_toArray, List.set_cons_zero, List.set_cons_succ]
                        refine wpAnyH_take (i := 7) (oi := { dst := some 181, op := Op.binOp BinOp.eql 43 (Operand.tmp 179) (Operand.tmp 180) 43, type := 4, pos := "top02.go:40", after := #[{ on := 5, ground := Ground.data }, { on := 6, ground := Ground.data }, { on := 1, ground := Ground.guard }], guard := some (1, false) }) (v := .bool (sj == sm)) rfl (by kernel_rfl) (by kernel_rfl) (by kernel_rfl) (fun _ _ _ h => h) (Or.inl ⟨by rfl, fun wx hS => ?_⟩) hH ?_
                        · exact eql_op2 _ _ _ _ sj sm rfl rfl rfl HLJ.out HSM.out wx
                        simp only [Act.put, List.setIfInBounds_toArray, List.set_cons_zero, List.set_cons_succ]
                        refine wpAnyH_take (i := 8) (oi := { dst := some 182, op := Op.pick (Operand.tmp 175) (Operand.const (Value.bool true)) (Operand.tmp 181), type := 4, pos := "top02.go:40", after := #[{ on := 1, ground := Ground.data }, { on := 7, ground := Ground.data }], guard := none }) (v := .bool (sj == sm)) rfl (by kernel_rfl) (by kernel_rfl) (by kernel_rfl) (fun _ _ _ h => h) (Or.inl ⟨by rfl, fun wx hS => ?_⟩) hH ?_
                        · go_simp
                        simp only [Act.put, List.setIfInBounds_toArray, List.set_cons_zero, List.set_cons_succ]
                        refine wpAnyH_take (i := 9) (oi := { dst := some 24, op := Op.assign (Operand.tmp 182), type := 4, pos := "top02.go:40", after := #[{ on := 8, ground := Ground.data }, { on := 1, ground := Ground.chain }, { on := 0, ground := Ground.phase }, { on := 1, ground := Ground.phase }, { on := 2, ground := Ground.phase }, { on := 3, ground := Ground.phase }, { on := 4, ground := Ground.phase }, { on := 5, ground := Ground.phase }, { on := 6, ground := Ground.phase }, { on := 7, ground := Ground.phase }, { on := 8, ground := Ground.phase }], guard := none }) (v := .bool (sj == sm)) rfl (by kernel_rfl) (by kernel_rfl) (by kernel_rfl) (fun _ _ _ h => h) (Or.inl ⟨by rfl, fun wx hS => ?_⟩) hH ?_
                        · go_simp
                        simp only [Act.put, List.setIfInBounds_toArray, List.set_cons_zero, List.set_cons_succ]
                        refine wpAnyH_done (by kernel_rfl) ?_ _
                        refine NoPanic.normal ?_
                        clear hH
                        clear RG BQ
                        go_wp2_with fail
                        go_roundw
                        case rel => exact ⟨j + 1, _, by omega, rfl, by go_num, HPJ, Lib.hid (below_drewN' LQ.out 1)⟩
                        case measure => simp [intOf]; omega
                    · have j1 : ¬ (j : Int) < ((Ct.ruletop.sizes b).length : Int) := by omega
                      have hkb : kb = true := by
                        obtain ⟨t, h1, h2⟩ := SJ.out
                        exact HKB.out t (by rw [HSL.out]; exact h1) (by omega) (by rw [HGET.out]; exact h2)
                      subst hkb
                      go_wp2_with fail
                      go_roundw
                      case rel => exact ⟨i + 1, false, by omega, by rw [HTS.out, HAE.out], rfl, by go_num, Lib.hid (fun h => by cases h), Lib.hid (L9.out.trans (LQ.out.mono L9.out.size))⟩
                      case measure => simp [intOf]; omega
              all_goals
                as_aux_lemma =>
                  go_wp2_with fail
                  go_roundw
                  case rel => exact ⟨i + 1, false, by omega, by rw [HTS.out, HAE.out], rfl, by go_num, Lib.hid (fun h => by cases h), LW⟩
                  case measure => simp [intOf]; omega
          · cases met with
            | true =>
              have g0i : (k : Int) + (q.length : Int) ≤ (A : Int) := by omega
              have HMT : Hid (Ct.ruletop.metAt b c k q.length i) := Lib.hid (HM.out rfl)
              go_upto_region 29 with fail
              rcases (show ((E : Int) ≤ (k : Int) ∧ (E : Int) < (c.length : Int)) ∨ ((E : Int) ≤ (k : Int) ∧ ¬ (E : Int) < (c.length : Int)) ∨ ¬ (E : Int) ≤ (k : Int) by omega) with ⟨g3, g4⟩ | ⟨g3, g4⟩ | g3
              all_goals
                as_aux_lemma =>
                  have HKN : Hid (∃ j, j < (Ct.ruletop.sizes b).length ∧ Ct.ruletop.piece b j = Ct.ruletop.piece c i) := Lib.hid ((HMS.out HMT.out).1)
                  obtain ⟨A5, hA5, hr5⟩ := Ct.run_mid ca c.length cc A E (by omega) EL hcc
                  have HPI : Hid (Ct.bytesIn wr A5 (Ct.ruletop.piece c i)) := Lib.hid (by
                    have h := (HC5.out.below LW5.out (Nat.le_refl _)).mid cc A E (by omega) EL hcc
                    rw [← hA5, ← HPC.out] at h
                    exact h)
                  have HPL : Hid ((Ct.ruletop.piece c i).length = E - A) := Lib.hid (by rw [HPC.out, List.length_drop, List.length_take]; omega)
                  have T6 : Hid (tables wr) := Lib.hid (HT.out.below (F5.out.trans (LW5.out.mono F5.out.size)) HT.out.2.2.1 HT.out.2.2.2)
                  have L2 := Lib.hid ((Below.refl wr.heap.size wr).alloc (Nat.le_refl _) (.cells #[.slice A5 (E - A) (cc - A)] 22 (0, 0)))
                  have hp2 : partsIn (wr.alloc (.cells #[.slice A5 (E - A) (cc - A)] 22 (0, 0))) (some ⟨wr.heap.size, 0, none⟩) [Ct.ruletop.piece c i] := by
                    refine Or.inr ⟨_, _, rfl, fun j hj => ?_⟩
                    match j, hj with
                    | 0, _ => exact ⟨A5, cc - A, by rw [World.cell?_alloc_at _ _ _ _ rfl]; show some (Value.slice A5 (E - A) (cc - A)) = some (Value.slice A5 (Ct.ruletop.piece c i).length (cc - A)); rw [HPL.out], by show (Ct.ruletop.piece c i).length ≤ _; rw [HPL.out]; omega, by have := HCM.out; omega, HPI.out.below L2.out (Nat.le_refl _)⟩
                  have PO := of_any 1 (some ⟨wr.heap.size, 0, none⟩) [Ct.ruletop.piece c i] (wr.alloc (.cells #[.slice A5 (E - A) (cc - A)] 22 (0, 0))) (by simp) (by simp) (by simp only [List.flatten_cons, List.flatten_nil, List.append_nil]; rw [HPL.out]; omega) (T6.out.below L2.out T6.out.2.2.1 T6.out.2.2.2) hp2
                  rw [show [Ct.ruletop.piece c i].flatten = Ct.ruletop.piece c i by simp, show [Ct.ruletop.piece c i].length = 1 from rfl] at PO
                  have PO := Lib.hid PO
                  clear hp2 hA5 HPI T6
                  go_wp2_with fail
                  clear hr5
                  with_reducible refine PO.out.mono ?_
                  clear PO
                  rintro e w7 ⟨rfl, hb⟩
                  have hb7 : Below wr.heap.size wr w7 := L2.out.trans (hb.mono (by simp))
                  have L7 := Lib.hid (LW.out.trans (hb7.mono LW.out.size))
                  have SJ : Hid (∃ j, j < (Ct.ruletop.sizes b).length ∧ sha (Ct.ruletop.piece b j) = sha (Ct.ruletop.piece c i)) := Lib.hid (by
                    obtain ⟨j, h1, h2⟩ := HKN.out
                    exact ⟨j, h1, by rw [h2]⟩)
                  have HSM : Hid ((sha (Ct.ruletop.piece c i)).length = 32) := Lib.hid (sha_length _)
                  clear hb hb7 L2 HKN HPL HPC
                  generalize sha (Ct.ruletop.piece c i) = sm at *
                  have hz3 := zero28
                  have HW7 : Hid (wo.heap.size ≤ w7.heap.size) := Lib.hid L7.out.size
                  go_wp2_with (refine wpList_store_block rfl 43 _ _ rfl w7.heap.size 0 (byteCells sm) rfl rfl (zeros 32) 43 (blockIs.new w7 _ _) (by rw [info28, byteCells_length, HSM.out]) (by simp [zeros, byteCells_length, HSM.out]) (byteCells_one _) ?_)
                  intro w9 h1 h2 h3
                  have h1 := h1.out
                  rw [splice_all _ _ (by simp [zeros, byteCells_length, HSM.out])] at h1
                  have B9 := Lib.hid h1
                  have L9 : Hid (Below wo.heap.size wo w9) := Lib.hid ((L7.out.alloc L7.out.size (.cells (zeros 32).toArray 43 (0, 0))).trans (h2.out.below L7.out.size (by simp; have := HW7.out; omega)))
                  clear h1 h2 h3 L7 hz3
                  have S9 : Hid (rowS w9 w5.heap.size (.slice sa (Ct.ruletop.sizes b).length sc) SA) := Lib.hid (by
                    have h := S1.out.below L9.out (Nat.le_refl _)
                    rw [HSL.out] at h
                    exact h)
                  rename World => wq
                  go_wp2_with fail
                  go_loopw [24, 25] (fun kv jv wr => ∃ (j : Nat) (kb : Bool), j ≤ (Ct.ruletop.sizes b).length ∧ kv = .bool kb ∧ jv = .int .i64 (j : Int) ∧ Hid (∀ t (h : t < SA.length), t < j → SA[t] = sm → kb = true) ∧ Hid (Below wq.heap.size wq wr)) (fun _ jv _ => (Ct.ruletop.sizes b).length - (intOf jv).toNat)
                  case atStart => exact ⟨0, false, Nat.zero_le _, rfl, rfl, Lib.hid (fun t _ h => absurd h (Nat.not_lt_zero _)), Lib.hid (Below.refl _ _)⟩
                  case round =>
                    obtain ⟨j, kb, hj, rfl, rfl, HKB, LQ⟩ := hrel
                    have j0 : (0 : Int) ≤ (j : Int) := by omega
                    by_cases hlt4 : j < (Ct.ruletop.sizes b).length
                    · have j1 : (j : Int) < ((Ct.ruletop.sizes b).length : Int) := by omega
                      have j2 : (j : Int) ≤ 2000 := by omega
                      cases kb with
                      | true =>
                        go_upto_region 34 with fail
                        refine wp_region_noPanic ?_
                        refine wp_region_held_drew (S := fun _ => True) (by kernel_rfl) trivial (fun hH => ?_)
                        refine wpAnyH_take (i := 0) (oi := { dst := some 174, op := Op.move (Operand.tmp 24), type := 4, pos := "top02.go:40", after := #[], guard := none }) (v := .bool true) rfl (by kernel_rfl) (by kernel_rfl) (by kernel_rfl) (fun _ _ _ h => h) (Or.inl ⟨by rfl, fun wx hS => ?_⟩) hH ?_
                        · go_simp
                        simp only [Act.put, List.setIfInBounds_toArray, List.set_cons_zero, List.set_cons_succ]
                        refine wpAnyH_take (i := 1) (oi := { dst := some 175, op := Op.move (Operand.tmp 174), type := 4, pos := "top02.go:40", after := #[{ on := 0, ground := Ground.data }], guard := none }) (v := .bool true) rfl (by kernel_rfl) (by kernel_rfl) (by kernel_rfl) (fun _ _ _ h => h) (Or.inl ⟨by rfl, fun wx hS => ?_⟩) hH ?_
                        · go_simp
                        simp only [Act.put, List.setIfInBounds_toArray, List.set_cons_zero, List.set_cons_succ]
                        refine wpAnyH_take (i := 2) (oi := { dst := some 176, op := Op.move (Operand.tmp 13), type := 42, pos := "top02.go:40", after := #[{ on := 1, ground := Ground.guard }], guard := some (1, false) }) (v := undef) rfl (by kernel_rfl) (by kernel_rfl) (by kernel_rfl) (fun _ _ _ h => h) (Or.inr ⟨by rfl, rfl⟩) hH ?_
                        simp only [Act.put, List.setIfInBounds_toArray, List.set_cons_zero, List.set_cons_succ]
                        refine wpAnyH_take (i := 3) (oi := { dst := some 177, op := Op.move (Operand.tmp 25), type := 3, pos := "top02.go:40", after := #[{ on := 1, ground := Ground.guard }], guard := some (1, false) }) (v := undef) rfl (by kernel_rfl) (by kernel_rfl) (by kernel_rfl) (fun _ _ _ h => h) (Or.inr ⟨by rfl, rfl⟩) hH ?_
                        simp only [Act.put, List.setIfInBounds_toArray, List.set_cons_zero, List.set_cons_succ]
                        refine wpAnyH_take (i := 4) (oi := { dst := some 178, op := Op.indexAddr 42 (Operand.tmp 176) (Operand.tmp 177), type := 0, pos := "top02.go:40", after := #[{ on := 2, ground := Ground.data }, { on := 3, ground := Ground.data }, { on := 1, ground := Ground.guard }], guard := some (1, false) }) (v := undef) rfl (by kernel_rfl) (by kernel_rfl) (by kernel_rfl) (fun _ _ _ h => h) (Or.inr ⟨by rfl, rfl⟩) hH ?_
                        simp only [Act.put, List.setIfInBounds_toArray, List.set_cons_zero, List.set_cons_succ]
                        refine wpAnyH_take (i := 5) (oi := { dst := some 179, op := Op.load 43 (Operand.tmp 178), type := 43, pos := "top02.go:40", after := #[{ on := 4, ground := Ground.data }, { on := 1, ground := Ground.guard }], guard := some (1, false) }) (v := undef) rfl (by kernel_rfl) (by kernel_rfl) (by kernel_rfl) (fun _ _ _ h => h) (Or.inr ⟨by rfl, rfl⟩) hH ?_
                        simp only [Act.put, List.setIfInBounds_toArray, List.set_cons_zero, List.set_cons_succ]
                        refine wpAnyH_take (i := 6) (oi := { dst := some 180, op := Op.load 43 (Operand.tmp 23), type := 43, pos := "top02.go:40", after := #[{ on := 1, ground := Ground.guard }], guard := some (1, false) }) (v := undef) rfl (by kernel_rfl) (by kernel_rfl) (by kernel_rfl) (fun _ _ _ h => h) (Or.inr ⟨by rfl, rfl⟩) hH ?_
                        simp only [Act.put, List.setIfInBounds_toArray, List.set_cons_zero, List.set_cons_succ]
                        refine wpAnyH_take (i := 7) (oi := { dst := some 181, op := Op.binOp BinOp.eql 43 (Operand.tmp 179) (Operand.tmp 180) 43, type := 4, pos := "top02.go:40", after := #[{ on := 5, ground := Ground.data }, { on := 6, ground := Ground.data }, { on := 1, ground := Ground.guard }], guard := some (1, false) }) (v := undef) rfl (by kernel_rfl) (by kernel_rfl) (by kernel_rfl) (fun _ _ _ h => h) (Or.inr ⟨by rfl, rfl⟩) hH ?_
                        simp only [Act.put, List.setIfInBounds_toArray, List.set_cons_zero, List.set_cons_succ]
                        refine wpAnyH_take (i := 8) (oi := { dst := some 182, op := Op.pick (Operand.tmp 175) (Operand.const (Value.bool true)) (Operand.tmp 181), type := 4, pos := "top02.go:40", after := #[{ on := 1, ground := Ground.data }, { on := 7, ground := Ground.data }], guard := none }) (v := .bool true) rfl (by kernel_rfl) (by kernel_rfl) (by kernel_rfl) (fun _ _ _ h => h) (Or.inl ⟨by rfl, fun wx hS => ?_⟩) hH ?_
                        · go_simp
                        simp only [Act.put, List.setIfInBounds_toArray, List.set_cons_zero, List.set_cons_succ]
                        refine wpAnyH_take (i := 9) (oi := { dst := some 24, op := Op.assign (Operand.tmp 182), type := 4, pos := "top02.go:40", after := #[{ on := 8, ground := Ground.data }, { on := 1, ground := Ground.chain }, { on := 0, ground := Ground.phase }, { on := 1, ground := Ground.phase }, { on := 2, ground := Ground.phase }, { on := 3, ground := Ground.phase }, { on := 4, ground := Ground.phase }, { on := 5, ground := Ground.phase }, { on := 6, ground := Ground.phase }, { on := 7, ground := Ground.phase }, { on := 8, ground := Ground.phase }], guard := none }) (v := .bool true) rfl (by kernel_rfl) (by kernel_rfl) (by kernel_rfl) (fun _ _ _ h => h) (Or.inl ⟨by rfl, fun wx hS => ?_⟩) hH ?_
                        · go_simp
                        simp only [Act.put, List.setIfInBounds_toArray, List.set_cons_zero, List.set_cons_succ]
                        refine wpAnyH_done (by kernel_rfl) ?_ _
                        refine NoPanic.normal ?_
                        clear hH
                        go_wp2_with fail
                        go_roundw
                        case rel => exact ⟨j + 1, true, by omega, rfl, by go_num, Lib.hid (fun _ _ _ _ => rfl), Lib.hid (below_drewN' LQ.out 1)⟩
                        case measure => simp [intOf]; omega
                      | false =>
                        have hjS : j < SA.length := by rw [HSL.out]; exact hlt4
                        obtain ⟨sg, rfl, hrg⟩ := (S9.out.below LQ.out (Nat.le_refl _)).at h32.out j hjS
                        have BQ := Lib.hid (B9.out.below LQ.out B9.out.lt)
                        have RG := Lib.hid hrg
                        have HLJ : Hid ((SA[j]).length = 32) := Lib.hid (h32.out _ (List.getElem_mem hjS))
                        have HPJ : Hid (∀ t (h : t < SA.length), t < j + 1 → SA[t] = sm → (SA[j] == sm) = true) := Lib.hid (fun t h1 h2 h3 => by
                          by_cases e : t = j
                          · subst e; rw [h3]; simp
                          · exact absurd (HKB.out t h1 (by omega) h3) (by decide))
                        clear hrg HKB
                        generalize SA[j] = sj at *
                        go_upto_region 34 with fail
                        refine wp_region_noPanic ?_
                        refine wp_region_held_drew (S := fun w' => w'.rangeAt sg (j * 32) (byteCells sj) ∧ w'.rangeAt w7.heap.size 0 (byteCells sm)) (by kernel_rfl) ⟨RG.out, fun t u hu => by rw [Nat.zero_add]; exact (BQ.out.cell t).trans hu⟩ (fun hH => ?_)
                        refine wpAnyH_take (i := 0) (oi := { dst := some 174, op := Op.move (Operand.tmp 24), type := 4, pos := "top02.go:40", after := #[], guard := none }) (v := .bool false) rfl (by kernel_rfl) (by kernel_rfl) (by kernel_rfl) (fun _ _ _ h => h) (Or.inl ⟨by rfl, fun wx hS => ?_⟩) hH ?_
                        · go_simp
                        simp only [Act.put, List.setIfInBounds_toArray, List.set_cons_zero, List.set_cons_succ]
                        refine wpAnyH_take (i := 1) (oi := { dst := some 175, op := Op.move (Operand.tmp 174), type := 4, pos := "top02.go:40", after := #[{ on := 0, ground := Ground.data }], guard := none }) (v := .bool false) rfl (by kernel_rfl) (by kernel_rfl) (by kernel_rfl) (fun _ _ _ h => h) (Or.inl ⟨by rfl, fun wx hS => ?_⟩) hH ?_
                        · go_simp
                        simp only [Act.put, List.setIfInBounds_toArray, List.set_cons_zero, List.set_cons_succ]
                        refine wpAnyH_take (i := 2) (oi := { dst := some 176, op := Op.move (Operand.tmp 13), type := 42, pos := "top02.go:40", after := #[{ on := 1, ground := Ground.guard }], guard := some (1, false) }) (v := .slice (some ⟨sg, 0, none⟩) (Ct.ruletop.sizes b).length sc) rfl (by kernel_rfl) (by kernel_rfl) (by kernel_rfl) (fun _ _ _ h => h) (Or.inl ⟨by rfl, fun wx hS => ?_⟩) hH ?_
                        · go_simp
                        simp only [Act.put, List.setIfInBounds_toArray, List.set_cons_zero, List.set_cons_succ]
                        refine wpAnyH_take (i := 3) (oi := { dst := some 177, op := Op.move (Operand.tmp 25), type := 3, pos := "top02.go:40", after := #[{ on := 1, ground := Ground.guard }], guard := some (1, false) }) (v := .int .i64 (j : Int)) rfl (by kernel_rfl) (by kernel_rfl) (by kernel_rfl) (fun _ _ _ h => h) (Or.inl ⟨by rfl, fun wx hS => ?_⟩) hH ?_
                        · go_simp
                        simp only [Act.put, List.setIfInBounds_toArray, List.set_cons_zero, List.set_cons_succ]
                        refine wpAnyH_take (i := 4) (oi := { dst := some 178, op := Op.indexAddr 42 (Operand.tmp 176) (Operand.tmp 177), type := 0, pos := "top02.go:40", after := #[{ on := 2, ground := Ground.data }, { on := 3, ground := Ground.data }, { on := 1, ground := Ground.guard }], guard := some (1, false) }) (v := .pointer (some ⟨sg, j * 32, none⟩)) rfl (by kernel_rfl) (by kernel_rfl) (by kernel_rfl) (fun _ _ _ h => h) (Or.inl ⟨by rfl, fun wx hS => ?_⟩) hH ?_
                        · go_simp
                        simp only [Act.put, List.setIfInBounds_toArray, List.set_cons_zero, List.set_cons_succ]
                        refine wpAnyH_take (i := 5) (oi := { dst := some 179, op := Op.load 43 (Operand.tmp 178), type := 43, pos := "top02.go:40", after := #[{ on := 4, ground := Ground.data }, { on := 1, ground := Ground.guard }], guard := some (1, false) }) (v := .agg (byteCells sj).toArray) rfl (by kernel_rfl) (by kernel_rfl) (by kernel_rfl) (fun _ _ _ h => h) (yieldsIf_load_mid (by rfl) 43 _ rfl sg (j * 32) rfl (byteCells sj) _ (fun wx hS => hS.1) Tryd.underlying43 rfl (by rw [info28, byteCells_length, HLJ.out])) hH ?_
                        simp only [Act.put, List.setIfInBounds_toArray, List.set_cons_zero, List.set_cons_succ]
                        refine wpAnyH_take (i := 6) (oi := { dst := some 180, op := Op.load 43 (Operand.tmp 23), type := 43, pos := "top02.go:40", after := #[{ on := 1, ground := Ground.guard }], guard := some (1, false) }) (v := .agg (byteCells sm).toArray) rfl (by kernel_rfl) (by kernel_rfl) (by kernel_rfl) (fun _ _ _ h => h) (yieldsIf_load_mid (by rfl) 43 _ rfl w7.heap.size 0 rfl (byteCells sm) _ (fun wx hS => hS.2) Tryd.underlying43 rfl (by rw [info28, byteCells_length, HSM.out])) hH ?_
                        simp only [Act.put, List.setIfInBounds_toArray, List.set_cons_zero, List.set_cons_succ]
                        refine wpAnyH_take (i := 7) (oi := { dst := some 181, op := Op.binOp BinOp.eql 43 (Operand.tmp 179) (Operand.tmp 180) 43, type := 4, pos := "top02.go:40", after := #[{ on := 5, ground := Ground.data }, { on := 6, ground := Ground.data }, { on := 1, ground := Ground.guard }], guard := some (1, false) }) (v := .bool (sj == sm)) rfl (by kernel_rfl) (by kernel_rfl) (by kernel_rfl) (fun _ _ _ h => h) (Or.inl ⟨by rfl, fun wx hS => ?_⟩) hH ?_
                        · exact eql_op2 _ _ _ _ sj sm rfl rfl rfl HLJ.out HSM.out wx
                        simp only [Act.put, List.setIfInBounds_toArray, List.set_cons_zero, List.set_cons_succ]
                        refine wpAnyH_take (i := 8) (oi := { dst := some 182, op := Op.pick (Operand.tmp 175) (Operand.const (Value.bool true)) (Operand.tmp 181), type := 4, pos := "top02.go:40", after := #[{ on := 1, ground := Ground.data }, { on := 7, ground := Ground.data }], guard := none }) (v := .bool (sj == sm)) rfl (by kernel_rfl) (by kernel_rfl) (by kernel_rfl) (fun _ _ _ h => h) (Or.inl ⟨by rfl, fun wx hS => ?_⟩) hH ?_
                        · go_simp
                        simp only [Act.put, List.setIfInBounds_toArray, List.set_cons_zero, List.set_cons_succ]
                        refine wpAnyH_take (i := 9) (oi := { dst := some 24, op := Op.assign (Operand.tmp 182), type := 4, pos := "top02.go:40", after := #[{ on := 8, ground := Ground.data }, { on := 1, ground := Ground.chain }, { on := 0, ground := Ground.phase }, { on := 1, ground := Ground.phase }, { on := 2, ground := Ground.phase }, { on := 3, ground := Ground.phase }, { on := 4, ground := Ground.phase }, { on := 5, ground := Ground.phase }, { on := 6, ground := Ground.phase }, { on := 7, ground := Ground.phase }, { on := 8, ground := Ground.phase }], guard := none }) (v := .bool (sj == sm)) rfl (by kernel_rfl) (by kernel_rfl) (by kernel_rfl) (fun _ _ _ h => h) (Or.inl ⟨by rfl, fun wx hS => ?_⟩) hH ?_
                        · go_simp
                        simp only [Act.put, List.setIfInBounds_toArray, List.set_cons_zero, List.set_cons_succ]
                        refine wpAnyH_done (by kernel_rfl) ?_ _
                        refine NoPanic.normal ?_
                        clear hH
                        clear RG BQ
                        go_wp2_with fail
                        go_roundw
                        case rel => exact ⟨j + 1, _, by omega, rfl, by go_num, HPJ, Lib.hid (below_drewN' LQ.out 1)⟩
                        case measure => simp [intOf]; omega
                    · have j1 : ¬ (j : Int) < ((Ct.ruletop.sizes b).length : Int) := by omega
                      have hkb : kb = true := by
                        obtain ⟨t, h1, h2⟩ := SJ.out
                        exact HKB.out t (by rw [HSL.out]; exact h1) (by omega) (by rw [HGET.out]; exact h2)
                      subst hkb
                      go_wp2_with fail
                      go_roundw
                      case rel => exact ⟨i + 1, true, by omega, by rw [HTS.out, HAE.out], rfl, by go_num, Lib.hid (fun h => (HMS.out HMT.out).2), Lib.hid (L9.out.trans (LQ.out.mono L9.out.size))⟩
                      case measure => simp [intOf]; omega
            | false =>
              have g0i : (k : Int) + (q.length : Int) ≤ (A : Int) := by omega
              have p0 : (0 : Int) ≤ (A : Int) - (q.length : Int) := by omega
              go_wp2_with fail
              go_loop [20, 22] (fun ov jv => ∃ j : Nat, j ≤ (Ct.ruletop.sizes b).length ∧ ov = .int .i64 ((((Ct.ruletop.sizes b).take j).sum : Nat) : Int) ∧ jv = .int .i64 (j : Int)) (fun _ jv => (Ct.ruletop.sizes b).length - (intOf jv).toNat)
              case atStart => exact ⟨0, Nat.zero_le _, rfl, rfl⟩
              case round =>
                obtain ⟨j, hj, rfl, rfl⟩ := hrel
                have j0 : (0 : Int) ≤ (j : Int) := by omega
                have j2 : (j : Int) ≤ 2000 := by omega
                have HSU : Hid (((Ct.ruletop.sizes b).take j).sum ≤ 2000) := Lib.hid (by
                  have h2 := Ct.sum_le (Ct.ruletop.sizes b) j
                  have h3 := Ct.ruletop.sizes_sum b
                  omega)
                by_cases hgo : j < (Ct.ruletop.sizes b).length ∧ ((Ct.ruletop.sizes b).take j).sum + q.length < A
                · obtain ⟨hj1, hj2⟩ := hgo
                  have j1 : (j : Int) < ((Ct.ruletop.sizes b).length : Int) := by omega
                  obtain ⟨xb, xo, rfl, d2⟩ := (((Ct.rowV.of X5.out).2.2.1).below LW5.out (Nat.le_refl _)).at j (by rw [Ct.ivals_length]; exact hj1)
                  have e1 : (Ct.ivals (Ct.ruletop.sizes b))[j]'(by rw [Ct.ivals_length]; exact hj1) = .int .i64 (((Ct.ruletop.sizes b).getD j 0 : Nat) : Int) := by simp [Ct.ivals, hj1]
                  rw [e1] at d2
                  clear e1
                  have HTJ := Lib.hid (Ct.sum_take (Ct.ruletop.sizes b) j hj1)
                  have hpj := (Ct.ruletop.sizes_piece Ct.ruletop_ok b j hj1).2.2.2
                  generalize ((Ct.ruletop.sizes b).take j).sum = f at *
                  generalize (Ct.ruletop.sizes b).getD j 0 = y at *
                  have f0 : (0 : Int) ≤ (f : Int) := by omega
                  have f2 : (f : Int) ≤ 2000 := by omega
                  have y0 : (0 : Int) ≤ (y : Int) := by omega
                  have y2 : (y : Int) ≤ 2000 := by omega
                  have f3 : (f : Int) < (A : Int) - (q.length : Int) := by omega
                  go_wp2_with fail
                  go_round
                  case rel => exact ⟨j + 1, by omega, by rw [HTJ.out]; go_num, by go_num⟩
                  case measure => simp [intOf]; omega
                · have HJ : Hid (((Ct.ruletop.sizes b).take j).sum + q.length = A → Ct.ruletop.metAt b c k q.length i) := Lib.hid (fun h => HME.out j hj h g0)
                  generalize ((Ct.ruletop.sizes b).take j).sum = f at *
                  have f0 : (0 : Int) ≤ (f : Int) := by omega
                  have f2 : (f : Int) ≤ 2000 := by have := HSU.out; omega
                  by_cases heq : f + q.length = A
                  · have HMT : Hid (Ct.ruletop.metAt b c k q.length i) := Lib.hid (HJ.out heq)
                    have f3 : ¬ (f : Int) < (A : Int) - (q.length : Int) := by omega
                    have f4 : ((f : Int) == (A : Int) - (q.length : Int)) = true := by simp; omega
                    by_cases h5 : j < (Ct.ruletop.sizes b).length
                    · have j1 : (j : Int) < ((Ct.ruletop.sizes b).length : Int) := by omega
                      go_upto_region 29 with fail
                      clear j1 f3 f4 heq hgo HJ
                      rcases (show ((E : Int) ≤ (k : Int) ∧ (E : Int) < (c.length : Int)) ∨ ((E : Int) ≤ (k : Int) ∧ ¬ (E : Int) < (c.length : Int)) ∨ ¬ (E : Int) ≤ (k : Int) by omega) with ⟨g3, g4⟩ | ⟨g3, g4⟩ | g3
                      all_goals
                        as_aux_lemma =>
                          have HKN : Hid (∃ j, j < (Ct.ruletop.sizes b).length ∧ Ct.ruletop.piece b j = Ct.ruletop.piece c i) := Lib.hid ((HMS.out HMT.out).1)
                          obtain ⟨A5, hA5, hr5⟩ := Ct.run_mid ca c.length cc A E (by omega) EL hcc
                          have HPI : Hid (Ct.bytesIn wr A5 (Ct.ruletop.piece c i)) := Lib.hid (by
                            have h := (HC5.out.below LW5.out (Nat.le_refl _)).mid cc A E (by omega) EL hcc
                            rw [← hA5, ← HPC.out] at h
                            exact h)
                          have HPL : Hid ((Ct.ruletop.piece c i).length = E - A) := Lib.hid (by rw [HPC.out, List.length_drop, List.length_take]; omega)
                          have T6 : Hid (tables wr) := Lib.hid (HT.out.below (F5.out.trans (LW5.out.mono F5.out.size)) HT.out.2.2.1 HT.out.2.2.2)
                          have L2 := Lib.hid ((Below.refl wr.heap.size wr).alloc (Nat.le_refl _) (.cells #[.slice A5 (E - A) (cc - A)] 22 (0, 0)))
                          have hp2 : partsIn (wr.alloc (.cells #[.slice A5 (E - A) (cc - A)] 22 (0, 0))) (some ⟨wr.heap.size, 0, none⟩) [Ct.ruletop.piece c i] := by
                            refine Or.inr ⟨_, _, rfl, fun j hj => ?_⟩
                            match j, hj with
                            | 0, _ => exact ⟨A5, cc - A, by rw [World.cell?_alloc_at _ _ _ _ rfl]; show some (Value.slice A5 (E - A) (cc - A)) = some (Value.slice A5 (Ct.ruletop.piece c i).length (cc - A)); rw [HPL.out], by show (Ct.ruletop.piece c i).length ≤ _; rw [HPL.out]; omega, by have := HCM.out; omega, HPI.out.below L2.out (Nat.le_refl _)⟩
                          have PO := of_any 1 (some ⟨wr.heap.size, 0, none⟩) [Ct.ruletop.piece c i] (wr.alloc (.cells #[.slice A5 (E - A) (cc - A)] 22 (0, 0))) (by simp) (by simp) (by simp only [List.flatten_cons, List.flatten_nil, List.append_nil]; rw [HPL.out]; omega) (T6.out.below L2.out T6.out.2.2.1 T6.out.2.2.2) hp2
                          rw [show [Ct.ruletop.piece c i].flatten = Ct.ruletop.piece c i by simp, show [Ct.ruletop.piece c i].length = 1 from rfl] at PO
                          have PO := Lib.hid PO
                          clear hp2 hA5 HPI T6
                          go_wp2_with fail
                          clear hr5
                          with_reducible refine PO.out.mono ?_
                          clear PO
                          rintro e w7 ⟨rfl, hb⟩
                          have hb7 : Below wr.heap.size wr w7 := L2.out.trans (hb.mono (by simp))
                          have L7 := Lib.hid (LW.out.trans (hb7.mono LW.out.size))
                          have SJ : Hid (∃ j, j < (Ct.ruletop.sizes b).length ∧ sha (Ct.ruletop.piece b j) = sha (Ct.ruletop.piece c i)) := Lib.hid (by
                            obtain ⟨j, h1, h2⟩ := HKN.out
                            exact ⟨j, h1, by rw [h2]⟩)
                          have HSM : Hid ((sha (Ct.ruletop.piece c i)).length = 32) := Lib.hid (sha_length _)
                          clear hb hb7 L2 HKN HPL HPC
                          generalize sha (Ct.ruletop.piece c i) = sm at *
                          have hz3 := zero28
                          have HW7 : Hid (wo.heap.size ≤ w7.heap.size) := Lib.hid L7.out.size
                          go_wp2_with (refine wpList_store_block rfl 43 _ _ rfl w7.heap.size 0 (byteCells sm) rfl rfl (zeros 32) 43 (blockIs.new w7 _ _) (by rw [info28, byteCells_length, HSM.out]) (by simp [zeros, byteCells_length, HSM.out]) (byteCells_one _) ?_)
                          intro w9 h1 h2 h3
                          have h1 := h1.out
                          rw [splice_all _ _ (by simp [zeros, byteCells_length, HSM.out])] at h1
                          have B9 := Lib.hid h1
                          have L9 : Hid (Below wo.heap.size wo w9) := Lib.hid ((L7.out.alloc L7.out.size (.cells (zeros 32).toArray 43 (0, 0))).trans (h2.out.below L7.out.size (by simp; have := HW7.out; omega)))
                          clear h1 h2 h3 L7 hz3
                          have S9 : Hid (rowS w9 w5.heap.size (.slice sa (Ct.ruletop.sizes b).length sc) SA) := Lib.hid (by
                            have h := S1.out.below L9.out (Nat.le_refl _)
                            rw [HSL.out] at h
                            exact h)
                          rename World => wq
                          go_wp2_with fail
                          go_loopw [24, 25] (fun kv jv wr => ∃ (j : Nat) (kb : Bool), j ≤ (Ct.ruletop.sizes b).length ∧ kv = .bool kb ∧ jv = .int .i64 (j : Int) ∧ Hid (∀ t (h : t < SA.length), t < j → SA[t] = sm → kb = true) ∧ Hid (Below wq.heap.size wq wr)) (fun _ jv _ => (Ct.ruletop.sizes b).length - (intOf jv).toNat)
                          case atStart => exact ⟨0, false, Nat.zero_le _, rfl, rfl, Lib.hid (fun t _ h => absurd h (Nat.not_lt_zero _)), Lib.hid (Below.refl _ _)⟩
                          case round =>
                            obtain ⟨j, kb, hj, rfl, rfl, HKB, LQ⟩ := hrel
                            have j0 : (0 : Int) ≤ (j : Int) := by omega
                            by_cases hlt4 : j < (Ct.ruletop.sizes b).length
                            · have j1 : (j : Int) < ((Ct.ruletop.sizes b).length : Int) := by omega
                              have j2 : (j : Int) ≤ 2000 := by omega
                              cases kb with
                              | true =>
                                go_upto_region 34 with fail
                                refine wp_region_noPanic ?_
                                refine wp_region_held_drew (S := fun _ => True) (by kernel_rfl) trivial (fun hH => ?_)
                                refine wpAnyH_take (i := 0) (oi := { dst := some 174, op := Op.move (Operand.tmp 24), type := 4, pos := "top02.go:40", after := #[], guard := none }) (v := .bool true) rfl (by kernel_rfl) (by kernel_rfl) (by kernel_rfl) (fun _ _ _ h => h) (Or.inl ⟨by rfl, fun wx hS => ?_⟩) hH ?_
                                · go_simp
                                simp only [Act.put, List.setIfInBounds_toArray, List.set_cons_zero, List.set_cons_succ]
                                refine wpAnyH_take (i := 1) (oi := { dst := some 175, op := Op.move (Operand.tmp 174), type := 4, pos := "top02.go:40", after := #[{ on := 0, ground := Ground.data }], guard := none }) (v := .bool true) rfl (by kernel_rfl) (by kernel_rfl) (by kernel_rfl) (fun _ _ _ h => h) (Or.inl ⟨by rfl, fun wx hS => ?_⟩) hH ?_
                                · go_simp
                                simp only [Act.put, List.setIfInBounds_toArray, List.set_cons_zero, List.set_cons_succ]
                                refine wpAnyH_take (i := 2) (oi := { dst := some 176, op := Op.move (Operand.tmp 13), type := 42, pos := "top02.go:40", after := #[{ on := 1, ground := Ground.guard }], guard := some (1, false) }) (v := undef) rfl (by kernel_rfl) (by kernel_rfl) (by kernel_rfl) (fun _ _ _ h => h) (Or.inr ⟨by rfl, rfl⟩) hH ?_
                                simp only [Act.put, List.setIfInBounds_toArray, List.set_cons_zero, List.set_cons_succ]
                                refine wpAnyH_take (i := 3) (oi := { dst := some 177, op := Op.move (Operand.tmp 25), type := 3, pos := "top02.go:40", after := #[{ on := 1, ground := Ground.guard }], guard := some (1, false) }) (v := undef) rfl (by kernel_rfl) (by kernel_rfl) (by kernel_rfl) (fun _ _ _ h => h) (Or.inr ⟨by rfl, rfl⟩) hH ?_
                                simp only [Act.put, List.setIfInBounds_toArray, List.set_cons_zero, List.set_cons_succ]
                                refine wpAnyH_take (i := 4) (oi := { dst := some 178, op := Op.indexAddr 42 (Operand.tmp 176) (Operand.tmp 177), type := 0, pos := "top02.go:40", after := #[{ on := 2, ground := Ground.data }, { on := 3, ground := Ground.data }, { on := 1, ground := Ground.guard }], guard := some (1, false) }) (v := undef) rfl (by kernel_rfl) (by kernel_rfl) (by kernel_rfl) (fun _ _ _ h => h) (Or.inr ⟨by rfl, rfl⟩) hH ?_
                                simp only [Act.put, List.setIfInBounds_toArray, List.set_cons_zero, List.set_cons_succ]
                                refine wpAnyH_take (i := 5) (oi := { dst := some 179, op := Op.load 43 (Operand.tmp 178), type := 43, pos := "top02.go:40", after := #[{ on := 4, ground := Ground.data }, { on := 1, ground := Ground.guard }], guard := some (1, false) }) (v := undef) rfl (by kernel_rfl) (by kernel_rfl) (by kernel_rfl) (fun _ _ _ h => h) (Or.inr ⟨by rfl, rfl⟩) hH ?_
                                simp only [Act.put, List.setIfInBounds_toArray, List.set_cons_zero, List.set_cons_succ]
                                refine wpAnyH_take (i := 6) (oi := { dst := some 180, op := Op.load 43 (Operand.tmp 23), type := 43, pos := "top02.go:40", after := #[{ on := 1, ground := Ground.guard }], guard := some (1, false) }) (v := undef) rfl (by kernel_rfl) (by kernel_rfl) (by kernel_rfl) (fun _ _ _ h => h) (Or.inr ⟨by rfl, rfl⟩) hH ?_
                                simp only [Act.put, List.setIfInBounds_toArray, List.set_cons_zero, List.set_cons_succ]
                                refine wpAnyH_take (i := 7) (oi := { dst := some 181, op := Op.binOp BinOp.eql 43 (Operand.tmp 179) (Operand.tmp 180) 43, type := 4, pos := "top02.go:40", after := #[{ on := 5, ground := Ground.data }, { on := 6, ground := Ground.data }, { on := 1, ground := Ground.guard }], guard := some (1, false) }) (v := undef) rfl (by kernel_rfl) (by kernel_rfl) (by kernel_rfl) (fun _ _ _ h => h) (Or.inr ⟨by rfl, rfl⟩) hH ?_
                                simp only [Act.put, List.setIfInBounds_toArray, List.set_cons_zero, List.set_cons_succ]
                                refine wpAnyH_take (i := 8) (oi := { dst := some 182, op := Op.pick (Operand.tmp 175) (Operand.const (Value.bool true)) (Operand.tmp 181), type := 4, pos := "top02.go:40", after := #[{ on := 1, ground := Ground.data }, { on := 7, ground := Ground.data }], guard := none }) (v := .bool true) rfl (by kernel_rfl) (by kernel_rfl) (by kernel_rfl) (fun _ _ _ h => h) (Or.inl ⟨by rfl, fun wx hS => ?_⟩) hH ?_
                                · go_simp
                                simp only [Act.put, List.setIfInBounds_toArray, List.set_cons_zero, List.set_cons_succ]
                                refine wpAnyH_take (i := 9) (oi := { dst := some 24, op := Op.assign (Operand.tmp 182), type := 4, pos := "top02.go:40", after := #[{ on := 8, ground := Ground.data }, { on := 1, ground := Ground.chain }, { on := 0, ground := Ground.phase }, { on := 1, ground := Ground.phase }, { on := 2, ground := Ground.phase }, { on := 3, ground := Ground.phase }, { on := 4, ground := Ground.phase }, { on := 5, ground := Ground.phase }, { on := 6, ground := Ground.phase }, { on := 7, ground := Ground.phase }, { on := 8, ground := Ground.phase }], guard := none }) (v := .bool true) rfl (by kernel_rfl) (by kernel_rfl) (by kernel_rfl) (fun _ _ _ h => h) (Or.inl ⟨by rfl, fun wx hS => ?_⟩) hH ?_
                                · go_simp
                                simp only [Act.put, List.setIfInBounds_toArray, List.set_cons_zero, List.set_cons_succ]
                                refine wpAnyH_done (by kernel_rfl) ?_ _
                                refine NoPanic.normal ?_
                                clear hH
                                go_wp2_with fail
                                go_roundw
                                case rel => exact ⟨j + 1, true, by omega, rfl, by go_num, Lib.hid (fun _ _ _ _ => rfl), Lib.hid (below_drewN' LQ.out 1)⟩
                                case measure => simp [intOf]; omega
                              | false =>
                                have hjS : j < SA.length := by rw [HSL.out]; exact hlt4
                                obtain ⟨sg, rfl, hrg⟩ := (S9.out.below LQ.out (Nat.le_refl _)).at h32.out j hjS
                                have BQ := Lib.hid (B9.out.below LQ.out B9.out.lt)
                                have RG := Lib.hid hrg
                                have HLJ : Hid ((SA[j]).length = 32) := Lib.hid (h32.out _ (List.getElem_mem hjS))
                                have HPJ : Hid (∀ t (h : t < SA.length), t < j + 1 → SA[t] = sm → (SA[j] == sm) = true) := Lib.hid (fun t h1 h2 h3 => by
                                  by_cases e : t = j
                                  · subst e; rw [h3]; simp
                                  · exact absurd (HKB.out t h1 (by omega) h3) (by decide))
                                clear hrg HKB
                                generalize SA[j] = sj at *
                                go_upto_region 34 with fail
                                refine wp_region_noPanic ?_
                                refine wp_region_held_drew (S := fun w' => w'.rangeAt sg (j * 32) (byteCells sj) ∧ w'.rangeAt w7.heap.size 0 (byteCells sm)) (by kernel_rfl) ⟨RG.out, fun t u hu => by rw [Nat.zero_add]; exact (BQ.out.cell t).trans hu⟩ (fun hH => ?_)
                                refine wpAnyH_take (i := 0) (oi := { dst := some 174, op := Op.move (Operand.tmp 24), type := 4, pos := "top02.go:40", after := #[], guard := none }) (v := .bool false) rfl (by kernel_rfl) (by kernel_rfl) (by kernel_rfl) (fun _ _ _ h => h) (Or.inl ⟨by rfl, fun wx hS => ?_⟩) hH ?_
                                · go_simp
                                simp only [Act.put, List.setIfInBounds_toArray, List.set_cons_zero, List.set_cons_succ]
                                refine wpAnyH_take (i := 1) (oi := { dst := some 175, op := Op.move (Operand.tmp 174), type := 4, pos := "top02.go:40", after := #[{ on := 0, ground := Ground.data }], guard := none }) (v := .bool false) rfl (by kernel_rfl) (by kernel_rfl) (by kernel_rfl) (fun _ _ _ h => h) (Or.inl ⟨by rfl, fun wx hS => ?_⟩) hH ?_
                                · go_simp
                                simp only [Act.put, List.setIfInBounds_toArray, List.set_cons_zero, List.set_cons_succ]
                                refine wpAnyH_take (i := 2) (oi := { dst := some 176, op := Op.move (Operand.tmp 13), type := 42, pos := "top02.go:40", after := #[{ on := 1, ground := Ground.guard }], guard := some (1, false) }) (v := .slice (some ⟨sg, 0, none⟩) (Ct.ruletop.sizes b).length sc) rfl (by kernel_rfl) (by kernel_rfl) (by kernel_rfl) (fun _ _ _ h => h) (Or.inl ⟨by rfl, fun wx hS => ?_⟩) hH ?_
                                · go_simp
                                simp only [Act.put, List.setIfInBounds_toArray, List.set_cons_zero, List.set_cons_succ]
                                refine wpAnyH_take (i := 3) (oi := { dst := some 177, op := Op.move (Operand.tmp 25), type := 3, pos := "top02.go:40", after := #[{ on := 1, ground := Ground.guard }], guard := some (1, false) }) (v := .int .i64 (j : Int)) rfl (by kernel_rfl) (by kernel_rfl) (by kernel_rfl) (fun _ _ _ h => h) (Or.inl ⟨by rfl, fun wx hS => ?_⟩) hH ?_
                                · go_simp
                                simp only [Act.put, List.setIfInBounds_toArray, List.set_cons_zero, List.set_cons_succ]
                                refine wpAnyH_take (i := 4) (oi := { dst := some 178, op := Op.indexAddr 42 (Operand.tmp 176) (Operand.tmp 177), type := 0, pos := "top02.go:40", after := #[{ on := 2, ground := Ground.data }, { on := 3, ground := Ground.data }, { on := 1, ground := Ground.guard }], guard := some (1, false) }) (v := .pointer (some ⟨sg, j * 32, none⟩)) rfl (by kernel_rfl) (by kernel_rfl) (by kernel_rfl) (fun _ _ _ h => h) (Or.inl ⟨by rfl, fun wx hS => ?_⟩) hH ?_
                                · go_simp
                                simp only [Act.put, List.setIfInBounds_toArray, List.set_cons_zero, List.set_cons_succ]
                                refine wpAnyH_take (i := 5) (oi := { dst := some 179, op := Op.load 43 (Operand.tmp 178), type := 43, pos := "top02.go:40", after := #[{ on := 4, ground := Ground.data }, { on := 1, ground := Ground.guard }], guard := some (1, false) }) (v := .agg (byteCells sj).toArray) rfl (by kernel_rfl) (by kernel_rfl) (by kernel_rfl) (fun _ _ _ h => h) (yieldsIf_load_mid (by rfl) 43 _ rfl sg (j * 32) rfl (byteCells sj) _ (fun wx hS => hS.1) Tryd.underlying43 rfl (by rw [info28, byteCells_length, HLJ.out])) hH ?_
                                simp only [Act.put, List.setIfInBounds_toArray, List.set_cons_zero, List.set_cons_succ]
                                refine wpAnyH_take (i := 6) (oi := { dst := some 180, op := Op.load 43 (Operand.tmp 23), type := 43, pos := "top02.go:40", after := #[{ on := 1, ground := Ground.guard }], guard := some (1, false) }) (v := .agg (byteCells sm).toArray) rfl (by kernel_rfl) (by kernel_rfl) (by kernel_rfl) (fun _ _ _ h => h) (yieldsIf_load_mid (by rfl) 43 _ rfl w7.heap.size 0 rfl (byteCells sm) _ (fun wx hS => hS.2) Tryd.underlying43 rfl (by rw [info28, byteCells_length, HSM.out])) hH ?_
                                simp only [Act.put, List.setIfInBounds_toArray, List.set_cons_zero, List.set_cons_succ]
                                refine wpAnyH_take (i := 7) (oi := { dst := some 181, op := Op.binOp BinOp.eql 43 (Operand.tmp 179) (Operand.tmp 180) 43, type := 4, pos := "top02.go:40", after := #[{ on := 5, ground := Ground.data }, { on := 6, ground := Ground.data }, { on := 1, ground := Ground.guard }], guard := some (1, false) }) (v := .bool (sj == sm)) rfl (by kernel_rfl) (by kernel_rfl) (by kernel_rfl) (fun _ _ _ h => h) (Or.inl ⟨by rfl, fun wx hS => ?_⟩) hH ?_
                                · exact eql_op2 _ _ _ _ sj sm rfl rfl rfl HLJ.out HSM.out wx
                                simp only [Act.put, List.setIfInBounds_toArray, List.set_cons_zero, List.set_cons_succ]
                                refine wpAnyH_take (i := 8) (oi := { dst := some 182, op := Op.pick (Operand.tmp 175) (Operand.const (Value.bool true)) (Operand.tmp 181), type := 4, pos := "top02.go:40", after := #[{ on := 1, ground := Ground.data }, { on := 7, ground := Ground.data }], guard := none }) (v := .bool (sj == sm)) rfl (by kernel_rfl) (by kernel_rfl) (by kernel_rfl) (fun _ _ _ h => h) (Or.inl ⟨by rfl, fun wx hS => ?_⟩) hH ?_
                                · go_simp
                                simp only [Act.put, List.setIfInBounds_toArray, List.set_cons_zero, List.set_cons_succ]
                                refine wpAnyH_take (i := 9) (oi := { dst := some 24, op := Op.assign (Operand.tmp 182), type := 4, pos := "top02.go:40", after := #[{ on := 8, ground := Ground.data }, { on := 1, ground := Ground.chain }, { on := 0, ground := Ground.phase }, { on := 1, ground := Ground.phase }, { on := 2, ground := Ground.phase }, { on := 3, ground := Ground.phase }, { on := 4, ground := Ground.phase }, { on := 5, ground := Ground.phase }, { on := 6, ground := Ground.phase }, { on := 7, ground := Ground.phase }, { on := 8, ground := Ground.phase }], guard := none }) (v := .bool (sj == sm)) rfl (by kernel_rfl) (by kernel_rfl) (by kernel_rfl) (fun _ _ _ h => h) (Or.inl ⟨by rfl, fun wx hS => ?_⟩) hH ?_
                                · go_simp
                                simp only [Act.put, List.setIfInBounds_toArray, List.set_cons_zero, List.set_cons_succ]
                                refine wpAnyH_done (by kernel_rfl) ?_ _
                                refine NoPanic.normal ?_
                                clear hH
                                clear RG BQ
                                go_wp2_with fail
                                go_roundw
                                case rel => exact ⟨j + 1, _, by omega, rfl, by go_num, HPJ, Lib.hid (below_drewN' LQ.out 1)⟩
                                case measure => simp [intOf]; omega
                            · have j1 : ¬ (j : Int) < ((Ct.ruletop.sizes b).length : Int) := by omega
                              have hkb : kb = true := by
                                obtain ⟨t, h1, h2⟩ := SJ.out
                                exact HKB.out t (by rw [HSL.out]; exact h1) (by omega) (by rw [HGET.out]; exact h2)
                              subst hkb
                              go_wp2_with fail
                              go_roundw
                              case rel => exact ⟨i + 1, true, by omega, by rw [HTS.out, HAE.out], rfl, by go_num, Lib.hid (fun h => (HMS.out HMT.out).2), Lib.hid (L9.out.trans (LQ.out.mono L9.out.size))⟩
                              case measure => simp [intOf]; omega
                    · have j1 : ¬ (j : Int) < ((Ct.ruletop.sizes b).length : Int) := by omega
                      go_upto_region 29 with fail
                      clear j1 f3 f4 heq hgo HJ
                      rcases (show ((E : Int) ≤ (k : Int) ∧ (E : Int) < (c.length : Int)) ∨ ((E : Int) ≤ (k : Int) ∧ ¬ (E : Int) < (c.length : Int)) ∨ ¬ (E : Int) ≤ (k : Int) by omega) with ⟨g3, g4⟩ | ⟨g3, g4⟩ | g3
                      all_goals
                        as_aux_lemma =>
                          have HKN : Hid (∃ j, j < (Ct.ruletop.sizes b).length ∧ Ct.ruletop.piece b j = Ct.ruletop.piece c i) := Lib.hid ((HMS.out HMT.out).1)
                          obtain ⟨A5, hA5, hr5⟩ := Ct.run_mid ca c.length cc A E (by omega) EL hcc
                          have HPI : Hid (Ct.bytesIn wr A5 (Ct.ruletop.piece c i)) := Lib.hid (by
                            have h := (HC5.out.below LW5.out (Nat.le_refl _)).mid cc A E (by omega) EL hcc
                            rw [← hA5, ← HPC.out] at h
                            exact h)
                          have HPL : Hid ((Ct.ruletop.piece c i).length = E - A) := Lib.hid (by rw [HPC.out, List.length_drop, List.length_take]; omega)
                          have T6 : Hid (tables wr) := Lib.hid (HT.out.below (F5.out.trans (LW5.out.mono F5.out.size)) HT.out.2.2.1 HT.out.2.2.2)
                          have L2 := Lib.hid ((Below.refl wr.heap.size wr).alloc (Nat.le_refl _) (.cells #[.slice A5 (E - A) (cc - A)] 22 (0, 0)))
                          have hp2 : partsIn (wr.alloc (.cells #[.slice A5 (E - A) (cc - A)] 22 (0, 0))) (some ⟨wr.heap.size, 0, none⟩) [Ct.ruletop.piece c i] := by
                            refine Or.inr ⟨_, _, rfl, fun j hj => ?_⟩
                            match j, hj with
                            | 0, _ => exact ⟨A5, cc - A, by rw [World.cell?_alloc_at _ _ _ _ rfl]; show some (Value.slice A5 (E - A) (cc - A)) = some (Value.slice A5 (Ct.ruletop.piece c i).length (cc - A)); rw [HPL.out], by show (Ct.ruletop.piece c i).length ≤ _; rw [HPL.out]; omega, by have := HCM.out; omega, HPI.out.below L2.out (Nat.le_refl _)⟩
                          have PO := of_any 1 (some ⟨wr.heap.size, 0, none⟩) [Ct.ruletop.piece c i] (wr.alloc (.cells #[.slice A5 (E - A) (cc - A)] 22 (0, 0))) (by simp) (by simp) (by simp only [List.flatten_cons, List.flatten_nil, List.append_nil]; rw [HPL.out]; omega) (T6.out.below L2.out T6.out.2.2.1 T6.out.2.2.2) hp2
                          rw [show [Ct.ruletop.piece c i].flatten = Ct.ruletop.piece c i by simp, show [Ct.ruletop.piece c i].length = 1 from rfl] at PO
                          have PO := Lib.hid PO
                          clear hp2 hA5 HPI T6
                          go_wp2_with fail
                          clear hr5
                          with_reducible refine PO.out.mono ?_
                          clear PO
                          rintro e w7 ⟨rfl, hb⟩
                          have hb7 : Below wr.heap.size wr w7 := L2.out.trans (hb.mono (by simp))
                          have L7 := Lib.hid (LW.out.trans (hb7.mono LW.out.size))
                          have SJ : Hid (∃ j, j < (Ct.ruletop.sizes b).length ∧ sha (Ct.ruletop.piece b j) = sha (Ct.ruletop.piece c i)) := Lib.hid (by
                            obtain ⟨j, h1, h2⟩ := HKN.out
                            exact ⟨j, h1, by rw [h2]⟩)
                          have HSM : Hid ((sha (Ct.ruletop.piece c i)).length = 32) := Lib.hid (sha_length _)
                          clear hb hb7 L2 HKN HPL HPC
                          generalize sha (Ct.ruletop.piece c i) = sm at *
                          have hz3 := zero28
                          have HW7 : Hid (wo.heap.size ≤ w7.heap.size) := Lib.hid L7.out.size
                          go_wp2_with (refine wpList_store_block rfl 43 _ _ rfl w7.heap.size 0 (byteCells sm) rfl rfl (zeros 32) 43 (blockIs.new w7 _ _) (by rw [info28, byteCells_length, HSM.out]) (by simp [zeros, byteCells_length, HSM.out]) (byteCells_one _) ?_)
                          intro w9 h1 h2 h3
                          have h1 := h1.out
                          rw [splice_all _ _ (by simp [zeros, byteCells_length, HSM.out])] at h1
                          have B9 := Lib.hid h1
                          have L9 : Hid (Below wo.heap.size wo w9) := Lib.hid ((L7.out.alloc L7.out.size (.cells (zeros 32).toArray 43 (0, 0))).trans (h2.out.below L7.out.size (by simp; have := HW7.out; omega)))
                          clear h1 h2 h3 L7 hz3
                          have S9 : Hid (rowS w9 w5.heap.size (.slice sa (Ct.ruletop.sizes b).length sc) SA) := Lib.hid (by
                            have h := S1.out.below L9.out (Nat.le_refl _)
                            rw [HSL.out] at h
                            exact h)
                          rename World => wq
                          go_wp2_with fail
                          go_loopw [24, 25] (fun kv jv wr => ∃ (j : Nat) (kb : Bool), j ≤ (Ct.ruletop.sizes b).length ∧ kv = .bool kb ∧ jv = .int .i64 (j : Int) ∧ Hid (∀ t (h : t < SA.length), t < j → SA[t] = sm → kb = true) ∧ Hid (Below wq.heap.size wq wr)) (fun _ jv _ => (Ct.ruletop.sizes b).length - (intOf jv).toNat)
                          case atStart => exact ⟨0, false, Nat.zero_le _, rfl, rfl, Lib.hid (fun t _ h => absurd h (Nat.not_lt_zero _)), Lib.hid (Below.refl _ _)⟩
                          case round =>
                            obtain ⟨j, kb, hj, rfl, rfl, HKB, LQ⟩ := hrel
                            have j0 : (0 : Int) ≤ (j : Int) := by omega
                            by_cases hlt4 : j < (Ct.ruletop.sizes b).length
                            · have j1 : (j : Int) < ((Ct.ruletop.sizes b).length : Int) := by omega
                              have j2 : (j : Int) ≤ 2000 := by omega
                              cases kb with
                              | true =>
                                go_upto_region 34 with fail
                                refine wp_region_noPanic ?_
                                refine wp_region_held_drew (S := fun _ => True) (by kernel_rfl) trivial (fun hH => ?_)
                                refine wpAnyH_take (i := 0) (oi := { dst := some 174, op := Op.move (Operand.tmp 24), type := 4, pos := "top02.go:40", after := #[], guard := none }) (v := .bool true) rfl (by kernel_rfl) (by kernel_rfl) (by kernel_rfl) (fun _ _ _ h => h) (Or.inl ⟨by rfl, fun wx hS => ?_⟩) hH ?_
                                · go_simp
                                simp only [Act.put, List.setIfInBounds_toArray, List.set_cons_zero, List.set_cons_succ]
                                refine wpAnyH_take (i := 1) (oi := { dst := some 175, op := Op.move (Operand.tmp 174), type := 4, pos := "top02.go:40", after := #[{ on := 0, ground := Ground.data }], guard := none }) (v := .bool true) rfl (by kernel_rfl) (by kernel_rfl) (by kernel_rfl) (fun _ _ _ h => h) (Or.inl ⟨by rfl, fun wx hS => ?_⟩) hH ?_
                                · go_simp
                                simp only [Act.put, List.setIfInBounds_toArray, List.set_cons_zero, List.set_cons_succ]
                                refine wpAnyH_take (i := 2) (oi := { dst := some 176, op := Op.move (Operand.tmp 13), type := 42, pos := "top02.go:40", after := #[{ on := 1, ground := Ground.guard }], guard := some (1, false) }) (v := undef) rfl (by kernel_rfl) (by kernel_rfl) (by kernel_rfl) (fun _ _ _ h => h) (Or.inr ⟨by rfl, rfl⟩) hH ?_
                                simp only [Act.put, List.setIfInBounds_toArray, List.set_cons_zero, List.set_cons_succ]
                                refine wpAnyH_take (i := 3) (oi := { dst := some 177, op := Op.move (Operand.tmp 25), type := 3, pos := "top02.go:40", after := #[{ on := 1, ground := Ground.guard }], guard := some (1, false) }) (v := undef) rfl (by kernel_rfl) (by kernel_rfl) (by kernel_rfl) (fun _ _ _ h => h) (Or.inr ⟨by rfl, rfl⟩) hH ?_
                                simp only [Act.put, List.setIfInBounds_toArray, List.set_cons_zero, List.set_cons_succ]
                                refine wpAnyH_take (i := 4) (oi := { dst := some 178, op := Op.indexAddr 42 (Operand.tmp 176) (Operand.tmp 177), type := 0, pos := "top02.go:40", after := #[{ on := 2, ground := Ground.data }, { on := 3, ground := Ground.data }, { on := 1, ground := Ground.guard }], guard := some (1, false) }) (v := undef) rfl (by kernel_rfl) (by kernel_rfl) (by kernel_rfl) (fun _ _ _ h => h) (Or.inr ⟨by rfl, rfl⟩) hH ?_
                                simp only [Act.put, List.setIfInBounds_toArray, List.set_cons_zero, List.set_cons_succ]
                                refine wpAnyH_take (i := 5) (oi := { dst := some 179, op := Op.load 43 (Operand.tmp 178), type := 43, pos := "top02.go:40", after := #[{ on := 4, ground := Ground.data }, { on := 1, ground := Ground.guard }], guard := some (1, false) }) (v := undef) rfl (by kernel_rfl) (by kernel_rfl) (by kernel_rfl) (fun _ _ _ h => h) (Or.inr ⟨by rfl, rfl⟩) hH ?_
                                simp only [Act.put, List.setIfInBounds_toArray, List.set_cons_zero, List.set_cons_succ]
                                refine wpAnyH_take (i := 6) (oi := { dst := some 180, op := Op.load 43 (Operand.tmp 23), type := 43, pos := "top02.go:40", after := #[{ on := 1, ground := Ground.guard }], guard := some (1, false) }) (v := undef) rfl (by kernel_rfl) (by kernel_rfl) (by kernel_rfl) (fun _ _ _ h => h) (Or.inr ⟨by rfl, rfl⟩) hH ?_
                                simp only [Act.put, List.setIfInBounds_toArray, List.set_cons_zero, List.set_cons_succ]
                                refine wpAnyH_take (i := 7) (oi := { dst := some 181, op := Op.binOp BinOp.eql 43 (Operand.tmp 179) (Operand.tmp 180) 43, type := 4, pos := "top02.go:40", after := #[{ on := 5, ground := Ground.data }, { on := 6, ground := Ground.data }, { on := 1, ground := Ground.guard }], guard := some (1, false) }) (v := undef) rfl (by kernel_rfl) (by kernel_rfl) (by kernel_rfl) (fun _ _ _ h => h) (Or.inr ⟨by rfl, rfl⟩) hH ?_
                                simp only [Act.put, List.setIfInBounds_toArray, List.set_cons_zero, List.set_cons_succ]
                                refine wpAnyH_take (i := 8) (oi := { dst := some 182, op := Op.pick (Operand.tmp 175) (Operand.const (Value.bool true)) (Operand.tmp 181), type := 4, pos := "top02.go:40", after := #[{ on := 1, ground := Ground.data }, { on := 7, ground := Ground.data }], guard := none }) (v := .bool true) rfl (by kernel_rfl) (by kernel_rfl) (by kernel_rfl) (fun _ _ _ h => h) (Or.inl ⟨by rfl, fun wx hS => ?_⟩) hH ?_
                                · go_simp
                                simp only [Act.put, List.setIfInBounds_toArray, List.set_cons_zero, List.set_cons_succ]
                                refine wpAnyH_take (i := 9) (oi := { dst := some 24, op := Op.assign (Operand.tmp 182), type := 4, pos := "top02.go:40", after := #[{ on := 8, ground := Ground.data }, { on := 1, ground := Ground.chain }, { on := 0, ground := Ground.phase }, { on := 1, ground := Ground.phase }, { on := 2, ground := Ground.phase }, { on := 3, ground := Ground.phase }, { on := 4, ground := Ground.phase }, { on := 5, ground := Ground.phase }, { on := 6, ground := Ground.phase }, { on := 7, ground := Ground.phase }, { on := 8, ground := Ground.phase }], guard := none }) (v := .bool true) rfl (by kernel_rfl) (by kernel_rfl) (by kernel_rfl) (fun _ _ _ h => h) (Or.inl ⟨by rfl, fun wx hS => ?_⟩) hH ?_
                                · go_simp
                                simp only [Act.put, List.setIfInBounds_toArray, List.set_cons_zero, List.set_cons_succ]
                                refine wpAnyH_done (by kernel_rfl) ?_ _
                                refine NoPanic.normal ?_
                                clear hH
                                go_wp2_with fail
                                go_roundw
                                case rel => exact ⟨j + 1, true, by omega, rfl, by go_num, Lib.hid (fun _ _ _ _ => rfl), Lib.hid (below_drewN' LQ.out 1)⟩
                                case measure => simp [intOf]; omega
                              | false =>
                                have hjS : j < SA.length := by rw [HSL.out]; exact hlt4
                                obtain ⟨sg, rfl, hrg⟩ := (S9.out.below LQ.out (Nat.le_refl _)).at h32.out j hjS
                                have BQ := Lib.hid (B9.out.below LQ.out B9.out.lt)
                                have RG := Lib.hid hrg
                                have HLJ : Hid ((SA[j]).length = 32) := Lib.hid (h32.out _ (List.getElem_mem hjS))
                                have HPJ : Hid (∀ t (h : t < SA.length), t < j + 1 → SA[t] = sm → (SA[j] == sm) = true) := Lib.hid (fun t h1 h2 h3 => by
                                  by_cases e : t = j
                                  · subst e; rw [h3]; simp
                                  · exact absurd (HKB.out t h1 (by omega) h3) (by decide))
                                clear hrg HKB
                                generalize SA[j] = sj at *
                                go_upto_region 34 with fail
                                refine wp_region_noPanic ?_
                                refine wp_region_held_drew (S := fun w' => w'.rangeAt sg (j * 32) (byteCells sj) ∧ w'.rangeAt w7.heap.size 0 (byteCells sm)) (by kernel_rfl) ⟨RG.out, fun t u hu => by rw [Nat.zero_add]; exact (BQ.out.cell t).trans hu⟩ (fun hH => ?_)
                                refine wpAnyH_take (i := 0) (oi := { dst := some 174, op := Op.move (Operand.tmp 24), type := 4, pos := "top02.go:40", after := #[], guard := none }) (v := .bool false) rfl (by kernel_rfl) (by kernel_rfl) (by kernel_rfl) (fun _ _ _ h => h) (Or.inl ⟨by rfl, fun wx hS => ?_⟩) hH ?_
                                · go_simp
                                simp only [Act.put, List.setIfInBounds_toArray, List.set_cons_zero, List.set_cons_succ]
                                refine wpAnyH_take (i := 1) (oi := { dst := some 175, op := Op.move (Operand.tmp 174), type := 4, pos := "top02.go:40", after := #[{ on := 0, ground := Ground.data }], guard := none }) (v := .bool false) rfl (by kernel_rfl) (by kernel_rfl) (by kernel_rfl) (fun _ _ _ h => h) (Or.inl ⟨by rfl, fun wx hS => ?_⟩) hH ?_
                                · go_simp
                                simp only [Act.put, List.setIfInBounds_toArray, List.set_cons_zero, List.set_cons_succ]
                                refine wpAnyH_take (i := 2) (oi := { dst := some 176, op := Op.move (Operand.tmp 13), type := 42, pos := "top02.go:40", after := #[{ on := 1, ground := Ground.guard }], guard := some (1, false) }) (v := .slice (some ⟨sg, 0, none⟩) (Ct.ruletop.sizes b).length sc) rfl (by kernel_rfl) (by kernel_rfl) (by kernel_rfl) (fun _ _ _ h => h) (Or.inl ⟨by rfl, fun wx hS => ?_⟩) hH ?_
                                · go_simp
                                simp only [Act.put, List.setIfInBounds_toArray, List.set_cons_zero, List.set_cons_succ]
                                refine wpAnyH_take (i := 3) (oi := { dst := some 177, op := Op.move (Operand.tmp 25), type := 3, pos := "top02.go:40", after := #[{ on := 1, ground := Ground.guard }], guard := some (1, false) }) (v := .int .i64 (j : Int)) rfl (by kernel_rfl) (by kernel_rfl) (by kernel_rfl) (fun _ _ _ h => h) (Or.inl ⟨by rfl, fun wx hS => ?_⟩) hH ?_
                                · go_simp
                                simp only [Act.put, List.setIfInBounds_toArray, List.set_cons_zero, List.set_cons_succ]
                                refine wpAnyH_take (i := 4) (oi := { dst := some 178, op := Op.indexAddr 42 (Operand.tmp 176) (Operand.tmp 177), type := 0, pos := "top02.go:40", after := #[{ on := 2, ground := Ground.data }, { on := 3, ground := Ground.data }, { on := 1, ground := Ground.guard }], guard := some (1, false) }) (v := .pointer (some ⟨sg, j * 32, none⟩)) rfl (by kernel_rfl) (by kernel_rfl) (by kernel_rfl) (fun _ _ _ h => h) (Or.inl ⟨by rfl, fun wx hS => ?_⟩) hH ?_
                                · go_simp
                                simp only [Act.put, List.setIfInBounds_toArray, List.set_cons_zero, List.set_cons_succ]
                                refine wpAnyH_take (i := 5) (oi := { dst := some 179, op := Op.load 43 (Operand.tmp 178), type := 43, pos := "top02.go:40", after := #[{ on := 4, ground := Ground.data }, { on := 1, ground := Ground.guard }], guard := some (1, false) }) (v := .agg (byteCells sj).toArray) rfl (by kernel_rfl) (by kernel_rfl) (by kernel_rfl) (fun _ _ _ h => h) (yieldsIf_load_mid (by rfl) 43 _ rfl sg (j * 32) rfl (byteCells sj) _ (fun wx hS => hS.1) Tryd.underlying43 rfl (by rw [info28, byteCells_length, HLJ.out])) hH ?_
                                simp only [Act.put, List.setIfInBounds_toArray, List.set_cons_zero, List.set_cons_succ]
                                refine wpAnyH_take (i := 6) (oi := { dst := some 180, op := Op.load 43 (Operand.tmp 23), type := 43, pos := "top02.go:40", after := #[{ on := 1, ground := Ground.guard }], guard := some (1, false) }) (v := .agg (byteCells sm).toArray) rfl (by kernel_rfl) (by kernel_rfl) (by kernel_rfl) (fun _ _ _ h => h) (yieldsIf_load_mid (by rfl) 43 _ rfl w7.heap.size 0 rfl (byteCells sm) _ (fun wx hS => hS.2) Tryd.underlying43 rfl (by rw [info28, byteCells_length, HSM.out])) hH ?_
                                simp only [Act.put, List.setIfInBounds_toArray, List.set_cons_zero, List.set_cons_succ]
                                refine wpAnyH_take (i := 7) (oi := { dst := some 181, op := Op.binOp BinOp.eql 43 (Operand.tmp 179) (Operand.tmp 180) 43, type := 4, pos := "top02.go:40", after := #[{ on := 5, ground := Ground.data }, { on := 6, ground := Ground.data }, { on := 1, ground := Ground.guard }], guard := some (1, false) }) (v := .bool (sj == sm)) rfl (by kernel_rfl) (by kernel_rfl) (by kernel_rfl) (fun _ _ _ h => h) (Or.inl ⟨by rfl, fun wx hS => ?_⟩) hH ?_
                                · exact eql_op2 _ _ _ _ sj sm rfl rfl rfl HLJ.out HSM.out wx
                                simp only [Act.put, List.setIfInBounds_toArray, List.set_cons_zero, List.set_cons_succ]
                                refine wpAnyH_take (i := 8) (oi := { dst := some 182, op := Op.pick (Operand.tmp 175) (Operand.const (Value.bool true)) (Operand.tmp 181), type := 4, pos := "top02.go:40", after := #[{ on := 1, ground := Ground.data }, { on := 7, ground := Ground.data }], guard := none }) (v := .bool (sj == sm)) rfl (by kernel_rfl) (by kernel_rfl) (by kernel_rfl) (fun _ _ _ h => h) (Or.inl ⟨by rfl, fun wx hS => ?_⟩) hH ?_
                                · go_simp
                                simp only [Act.put, List.setIfInBounds_toArray, List.set_cons_zero, List.set_cons_succ]
                                refine wpAnyH_take (i := 9) (oi := { dst := some 24, op := Op.assign (Operand.tmp 182), type := 4, pos := "top02.go:40", after := #[{ on := 8, ground := Ground.data }, { on := 1, ground := Ground.chain }, { on := 0, ground := Ground.phase }, { on := 1, ground := Ground.phase }, { on := 2, ground := Ground.phase }, { on := 3, ground := Ground.phase }, { on := 4, ground := Ground.phase }, { on := 5, ground := Ground.phase }, { on := 6, ground := Ground.phase }, { on := 7, ground := Ground.phase }, { on := 8, ground := Ground.phase }], guard := none }) (v := .bool (sj == sm)) rfl (by kernel_rfl) (by kernel_rfl) (by kernel_rfl) (fun _ _ _ h => h) (Or.inl ⟨by rfl, fun wx hS => ?_⟩) hH ?_
                                · go_simp
                                simp only [Act.put, List.setIfInBounds_toArray, List.set_cons_zero, List.set_cons_succ]
                                refine wpAnyH_done (by kernel_rfl) ?_ _
                                refine NoPanic.normal ?_
                                clear hH
                                clear RG BQ
                                go_wp2_with fail
                                go_roundw
                                case rel => exact ⟨j + 1, _, by omega, rfl, by go_num, HPJ, Lib.hid (below_drewN' LQ.out 1)⟩
                                case measure => simp [intOf]; omega
                            · have j1 : ¬ (j : Int) < ((Ct.ruletop.sizes b).length : Int) := by omega
                              have hkb : kb = true := by
                                obtain ⟨t, h1, h2⟩ := SJ.out
                                exact HKB.out t (by rw [HSL.out]; exact h1) (by omega) (by rw [HGET.out]; exact h2)
                              subst hkb
                              go_wp2_with fail
                              go_roundw
                              case rel => exact ⟨i + 1, true, by omega, by rw [HTS.out, HAE.out], rfl, by go_num, Lib.hid (fun h => (HMS.out HMT.out).2), Lib.hid (L9.out.trans (LQ.out.mono L9.out.size))⟩
                              case measure => simp [intOf]; omega
                  · have f4 : ((f : Int) == (A : Int) - (q.length : Int)) = false := by simp; omega
                    rcases (show (¬ j < (Ct.ruletop.sizes b).length) ∨ (j < (Ct.ruletop.sizes b).length ∧ ¬ f + q.length < A) by omega) with h5 | ⟨h5, h6⟩
                    · have j1 : ¬ (j : Int) < ((Ct.ruletop.sizes b).length : Int) := by omega
                      go_upto_region 29 with fail
                      clear j1 f4 heq hgo HJ
                      rcases (show ((E : Int) ≤ (k : Int) ∧ (E : Int) < (c.length : Int)) ∨ ((E : Int) ≤ (k : Int) ∧ ¬ (E : Int) < (c.length : Int)) ∨ ¬ (E : Int) ≤ (k : Int) by omega) with ⟨g3, g4⟩ | ⟨g3, g4⟩ | g3
                      · as_aux_lemma =>
                          have HKN : Hid (∃ j, j < (Ct.ruletop.sizes b).length ∧ Ct.ruletop.piece b j = Ct.ruletop.piece c i) := Lib.hid (HAH.out (by omega) (by omega))
                          obtain ⟨A5, hA5, hr5⟩ := Ct.run_mid ca c.length cc A E (by omega) EL hcc
                          have HPI : Hid (Ct.bytesIn wr A5 (Ct.ruletop.piece c i)) := Lib.hid (by
                            have h := (HC5.out.below LW5.out (Nat.le_refl _)).mid cc A E (by omega) EL hcc
                            rw [← hA5, ← HPC.out] at h
                            exact h)
                          have HPL : Hid ((Ct.ruletop.piece c i).length = E - A) := Lib.hid (by rw [HPC.out, List.length_drop, List.length_take]; omega)
                          have T6 : Hid (tables wr) := Lib.hid (HT.out.below (F5.out.trans (LW5.out.mono F5.out.size)) HT.out.2.2.1 HT.out.2.2.2)
                          have L2 := Lib.hid ((Below.refl wr.heap.size wr).alloc (Nat.le_refl _) (.cells #[.slice A5 (E - A) (cc - A)] 22 (0, 0)))
                          have hp2 : partsIn (wr.alloc (.cells #[.slice A5 (E - A) (cc - A)] 22 (0, 0))) (some ⟨wr.heap.size, 0, none⟩) [Ct.ruletop.piece c i] := by
                            refine Or.inr ⟨_, _, rfl, fun j hj => ?_⟩
                            match j, hj with
                            | 0, _ => exact ⟨A5, cc - A, by rw [World.cell?_alloc_at _ _ _ _ rfl]; show some (Value.slice A5 (E - A) (cc - A)) = some (Value.slice A5 (Ct.ruletop.piece c i).length (cc - A)); rw [HPL.out], by show (Ct.ruletop.piece c i).length ≤ _; rw [HPL.out]; omega, by have := HCM.out; omega, HPI.out.below L2.out (Nat.le_refl _)⟩
                          have PO := of_any 1 (some ⟨wr.heap.size, 0, none⟩) [Ct.ruletop.piece c i] (wr.alloc (.cells #[.slice A5 (E - A) (cc - A)] 22 (0, 0))) (by simp) (by simp) (by simp only [List.flatten_cons, List.flatten_nil, List.append_nil]; rw [HPL.out]; omega) (T6.out.below L2.out T6.out.2.2.1 T6.out.2.2.2) hp2
                          rw [show [Ct.ruletop.piece c i].flatten = Ct.ruletop.piece c i by simp, show [Ct.ruletop.piece c i].length = 1 from rfl] at PO
                          have PO := Lib.hid PO
                          clear hp2 hA5 HPI T6
                          go_wp2_with fail
                          clear hr5
                          with_reducible refine PO.out.mono ?_
                          clear PO
                          rintro e w7 ⟨rfl, hb⟩
                          have hb7 : Below wr.heap.size wr w7 := L2.out.trans (hb.mono (by simp))
                          have L7 := Lib.hid (LW.out.trans (hb7.mono LW.out.size))
                          have SJ : Hid (∃ j, j < (Ct.ruletop.sizes b).length ∧ sha (Ct.ruletop.piece b j) = sha (Ct.ruletop.piece c i)) := Lib.hid (by
                            obtain ⟨j, h1, h2⟩ := HKN.out
                            exact ⟨j, h1, by rw [h2]⟩)
                          have HSM : Hid ((sha (Ct.ruletop.piece c i)).length = 32) := Lib.hid (sha_length _)
                          clear hb hb7 L2 HKN HPL HPC
                          generalize sha (Ct.ruletop.piece c i) = sm at *
                          have hz3 := zero28
                          have HW7 : Hid (wo.heap.size ≤ w7.heap.size) := Lib.hid L7.out.size
                          go_wp2_with (refine wpList_store_block rfl 43 _ _ rfl w7.heap.size 0 (byteCells sm) rfl rfl (zeros 32) 43 (blockIs.new w7 _ _) (by rw [info28, byteCells_length, HSM.out]) (by simp [zeros, byteCells_length, HSM.out]) (byteCells_one _) ?_)
                          intro w9 h1 h2 h3
                          have h1 := h1.out
                          rw [splice_all _ _ (by simp [zeros, byteCells_length, HSM.out])] at h1
                          have B9 := Lib.hid h1
                          have L9 : Hid (Below wo.heap.size wo w9) := Lib.hid ((L7.out.alloc L7.out.size (.cells (zeros 32).toArray 43 (0, 0))).trans (h2.out.below L7.out.size (by simp; have := HW7.out; omega)))
                          clear h1 h2 h3 L7 hz3
                          have S9 : Hid (rowS w9 w5.heap.size (.slice sa (Ct.ruletop.sizes b).length sc) SA) := Lib.hid (by
                            have h := S1.out.below L9.out (Nat.le_refl _)
                            rw [HSL.out] at h
                            exact h)
                          rename World => wq
                          go_wp2_with fail
                          go_loopw [24, 25] (fun kv jv wr => ∃ (j : Nat) (kb : Bool), j ≤ (Ct.ruletop.sizes b).length ∧ kv = .bool kb ∧ jv = .int .i64 (j : Int) ∧ Hid (∀ t (h : t < SA.length), t < j → SA[t] = sm → kb = true) ∧ Hid (Below wq.heap.size wq wr)) (fun _ jv _ => (Ct.ruletop.sizes b).length - (intOf jv).toNat)
                          case atStart => exact ⟨0, false, Nat.zero_le _, rfl, rfl, Lib.hid (fun t _ h => absurd h (Nat.not_lt_zero _)), Lib.hid (Below.refl _ _)⟩
                          case round =>
                            obtain ⟨j, kb, hj, rfl, rfl, HKB, LQ⟩ := hrel
                            have j0 : (0 : Int) ≤ (j : Int) := by omega
                            by_cases hlt4 : j < (Ct.ruletop.sizes b).length
                            · have j1 : (j : Int) < ((Ct.ruletop.sizes b).length : Int) := by omega
                              have j2 : (j : Int) ≤ 2000 := by omega
                              cases kb with
                              | true =>
                                go_upto_region 34 with fail
                                refine wp_region_noPanic ?_
                                refine wp_region_held_drew (S := fun _ => True) (by kernel_rfl) trivial (fun hH => ?_)
                                refine wpAnyH_take (i := 0) (oi := { dst := some 174, op := Op.move (Operand.tmp 24), type := 4, pos := "top02.go:40", after := #[], guard := none }) (v := .bool true) rfl (by kernel_rfl) (by kernel_rfl) (by kernel_rfl) (fun _ _ _ h => h) (Or.inl ⟨by rfl, fun wx hS => ?_⟩) hH ?_
                                · go_simp
                                simp only [Act.put, List.setIfInBounds_toArray, List.set_cons_zero, List.set_cons_succ]
                                refine wpAnyH_take (i := 1) (oi := { dst := some 175, op := Op.move (Operand.tmp 174), type := 4, pos := "top02.go:40", after := #[{ on := 0, ground := Ground.data }], guard := none }) (v := .bool true) rfl (by kernel_rfl) (by kernel_rfl) (by kernel_rfl) (fun _ _ _ h => h) (Or.inl ⟨by rfl, fun wx hS => ?_⟩) hH ?_
                                · go_simp
                                simp only [Act.put, List.setIfInBounds_toArray, List.set_cons_zero, List.set_cons_succ]
                                refine wpAnyH_take (i := 2) (oi := { dst := some 176, op := Op.move (Operand.tmp 13), type := 42, pos := "top02.go:40", after := #[{ on := 1, ground := Ground.guard }], guard := some (1, false) }) (v := undef) rfl (by kernel_rfl) (by kernel_rfl) (by kernel_rfl) (fun _ _ _ h => h) (Or.inr ⟨by rfl, rfl⟩) hH ?_
                                simp only [Act.put, List.setIfInBounds_toArray, List.set_cons_zero, List.set_cons_succ]
                                refine wpAnyH_take (i := 3) (oi := { dst := some 177, op := Op.move (Operand.tmp 25), type := 3, pos := "top02.go:40", after := #[{ on := 1, ground := Ground.guard }], guard := some (1, false) }) (v := undef) rfl (by kernel_rfl) (by kernel_rfl) (by kernel_rfl) (fun _ _ _ h => h) (Or.inr ⟨by rfl, rfl⟩) hH ?_
                                simp only [Act.put, List.setIfInBounds_toArray, List.set_cons_zero, List.set_cons_succ]
                                refine wpAnyH_take (i := 4) (oi := { dst := some 178, op := Op.indexAddr 42 (Operand.tmp 176) (Operand.tmp 177), type := 0, pos := "top02.go:40", after := #[{ on := 2, ground := Ground.data }, { on := 3, ground := Ground.data }, { on := 1, ground := Ground.guard }], guard := some (1, false) }) (v := undef) rfl (by kernel_rfl) (by kernel_rfl) (by kernel_rfl) (fun _ _ _ h => h) (Or.inr ⟨by rfl, rfl⟩) hH ?_
                                simp only [Act.put, List.setIfInBounds_toArray, List.set_cons_zero, List.set_cons_succ]
                                refine wpAnyH_take (i := 5) (oi := { dst := some 179, op := Op.load 43 (Operand.tmp 178), type := 43, pos := "top02.go:40", after := #[{ on := 4, ground := Ground.data }, { on := 1, ground := Ground.guard }], guard := some (1, false) }) (v := undef) rfl (by kernel_rfl) (by kernel_rfl) (by kernel_rfl) (fun _ _ _ h => h) (Or.inr ⟨by rfl, rfl⟩) hH ?_
                                simp only [Act.put, List.setIfInBounds_toArray, List.set_cons_zero, List.set_cons_succ]
                                refine wpAnyH_take (i := 6) (oi := { dst := some 180, op := Op.load 43 (Operand.tmp 23), type := 43, pos := "top02.go:40", after := #[{ on := 1, ground := Ground.guard }], guard := some (1, false) }) (v := undef) rfl (by kernel_rfl) (by kernel_rfl) (by kernel_rfl) (fun _ _ _ h => h) (Or.inr ⟨by rfl, rfl⟩) hH ?_
                                simp only [Act.put, List.setIfInBounds_toArray, List.set_cons_zero, List.set_cons_succ]
                                refine wpAnyH_take (i := 7) (oi := { dst := some 181, op := Op.binOp BinOp.eql 43 (Operand.tmp 179) (Operand.tmp 180) 43, type := 4, pos := "top02.go:40", after := #[{ on := 5, ground := Ground.data }, { on := 6, ground := Ground.data }, { on := 1, ground := Ground.guard }], guard := some (1, false) }) (v := undef) rfl (by kernel_rfl) (by kernel_rfl) (by kernel_rfl) (fun _ _ _ h => h) (Or.inr ⟨by rfl, rfl⟩) hH ?_
                                simp only [Act.put, List.setIfInBounds_toArray, List.set_cons_zero, List.set_cons_succ]
                                refine wpAnyH_take (i := 8) (oi := { dst := some 182, op := Op.pick (Operand.tmp 175) (Operand.const (Value.bool true)) (Operand.tmp 181), type := 4, pos := "top02.go:40", after := #[{ on := 1, ground := Ground.data }, { on := 7, ground := Ground.data }], guard := none }) (v := .bool true) rfl (by kernel_rfl) (by kernel_rfl) (by kernel_rfl) (fun _ _ _ h => h) (Or.inl ⟨by rfl, fun wx hS => ?_⟩) hH ?_
                                · go_simp
                                simp only [Act.put, List.setIfInBounds_toArray, List.set_cons_zero, List.set_cons_succ]
                                refine wpAnyH_take (i := 9) (oi := { dst := some 24, op := Op.assign (Operand.tmp 182), type := 4, pos := "top02.go:40", after := #[{ on := 8, ground := Ground.data }, { on := 1, ground := Ground.chain }, { on := 0, ground := Ground.phase }, { on := 1, ground := Ground.phase }, { on := 2, ground := Ground.phase }, { on := 3, ground := Ground.phase }, { on := 4, ground := Ground.phase }, { on := 5, ground := Ground.phase }, { on := 6, ground := Ground.phase }, { on := 7, ground := Ground.phase }, { on := 8, ground := Ground.phase }], guard := none }) (v := .bool true) rfl (by kernel_rfl) (by kernel_rfl) (by kernel_rfl) (fun _ _ _ h => h) (Or.inl ⟨by rfl, fun wx hS => ?_⟩) hH ?_
                                · go_simp
                                simp only [Act.put, List.setIfInBounds_toArray, List.set_cons_zero, List.set_cons_succ]
                                refine wpAnyH_done (by kernel_rfl) ?_ _
                                refine NoPanic.normal ?_
                                clear hH
                                go_wp2_with fail
                                go_roundw
                                case rel => exact ⟨j + 1, true, by omega, rfl, by go_num, Lib.hid (fun _ _ _ _ => rfl), Lib.hid (below_drewN' LQ.out 1)⟩
                                case measure => simp [intOf]; omega
                              | false =>
                                have hjS : j < SA.length := by rw [HSL.out]; exact hlt4
                                obtain ⟨sg, rfl, hrg⟩ := (S9.out.below LQ.out (Nat.le_refl _)).at h32.out j hjS
                                have BQ := Lib.hid (B9.out.below LQ.out B9.out.lt)
                                have RG := Lib.hid hrg
                                have HLJ : Hid ((SA[j]).length = 32) := Lib.hid (h32.out _ (List.getElem_mem hjS))
                                have HPJ : Hid (∀ t (h : t < SA.length), t < j + 1 → SA[t] = sm → (SA[j] == sm) = true) := Lib.hid (fun t h1 h2 h3 => by
                                  by_cases e : t = j
                                  · subst e; rw [h3]; simp
                                  · exact absurd (HKB.out t h1 (by omega) h3) (by decide))
                                clear hrg HKB
                                generalize SA[j] = sj at *
                                go_upto_region 34 with fail
                                refine wp_region_noPanic ?_
                                refine wp_region_held_drew (S := fun w' => w'.rangeAt sg (j * 32) (byteCells sj) ∧ w'.rangeAt w7.heap.size 0 (byteCells sm)) (by kernel_rfl) ⟨RG.out, fun t u hu => by rw [Nat.zero_add]; exact (BQ.out.cell t).trans hu⟩ (fun hH => ?_)
                                refine wpAnyH_take (i := 0) (oi := { dst := some 174, op := Op.move (Operand.tmp 24), type := 4, pos := "top02.go:40", after := #[], guard := none }) (v := .bool false) rfl (by kernel_rfl) (by kernel_rfl) (by kernel_rfl) (fun _ _ _ h => h) (Or.inl ⟨by rfl, fun wx hS => ?_⟩) hH ?_
                                · go_simp
                                simp only [Act.put, List.setIfInBounds_toArray, List.set_cons_zero, List.set_cons_succ]
                                refine wpAnyH_take (i := 1) (oi := { dst := some 175, op := Op.move (Operand.tmp 174), type := 4, pos := "top02.go:40", after := #[{ on := 0, ground := Ground.data }], guard := none }) (v := .bool false) rfl (by kernel_rfl) (by kernel_rfl) (by kernel_rfl) (fun _ _ _ h => h) (Or.inl ⟨by rfl, fun wx hS => ?_⟩) hH ?_
                                · go_simp
                                simp only [Act.put, List.setIfInBounds_toArray, List.set_cons_zero, List.set_cons_succ]
                                refine wpAnyH_take (i := 2) (oi := { dst := some 176, op := Op.move (Operand.tmp 13), type := 42, pos := "top02.go:40", after := #[{ on := 1, ground := Ground.guard }], guard := some (1, false) }) (v := .slice (some ⟨sg, 0, none⟩) (Ct.ruletop.sizes b).length sc) rfl (by kernel_rfl) (by kernel_rfl) (by kernel_rfl) (fun _ _ _ h => h) (Or.inl ⟨by rfl, fun wx hS => ?_⟩) hH ?_
                                · go_simp
                                simp only [Act.put, List.setIfInBounds_toArray, List.set_cons_zero, List.set_cons_succ]
                                refine wpAnyH_take (i := 3) (oi := { dst := some 177, op := Op.move (Operand.tmp 25), type := 3, pos := "top02.go:40", after := #[{ on := 1, ground := Ground.guard }], guard := some (1, false) }) (v := .int .i64 (j : Int)) rfl (by kernel_rfl) (by kernel_rfl) (by kernel_rfl) (fun _ _ _ h => h) (Or.inl ⟨by rfl, fun wx hS => ?_⟩) hH ?_
                                · go_simp
                                simp only [Act.put, List.setIfInBounds_toArray, List.set_cons_zero, List.set_cons_succ]
                                refine wpAnyH_take (i := 4) (oi := { dst := some 178, op := Op.indexAddr 42 (Operand.tmp 176) (Operand.tmp 177), type := 0, pos := "top02.go:40", after := #[{ on := 2, ground := Ground.data }, { on := 3, ground := Ground.data }, { on := 1, ground := Ground.guard }], guard := some (1, false) }) (v := .pointer (some ⟨sg, j * 32, none⟩)) rfl (by kernel_rfl) (by kernel_rfl) (by kernel_rfl) (fun _ _ _ h => h) (Or.inl ⟨by rfl, fun wx hS => ?_⟩) hH ?_
                                · go_simp
                                simp only [Act.put, List.setIfInBounds_toArray, List.set_cons_zero, List.set_cons_succ]
                                refine wpAnyH_take (i := 5) (oi := { dst := some 179, op := Op.load 43 (Operand.tmp 178), type := 43, pos := "top02.go:40", after := #[{ on := 4, ground := Ground.data }, { on := 1, ground := Ground.guard }], guard := some (1, false) }) (v := .agg (byteCells sj).toArray) rfl (by kernel_rfl) (by kernel_rfl) (by kernel_rfl) (fun _ _ _ h => h) (yieldsIf_load_mid (by rfl) 43 _ rfl sg (j * 32) rfl (byteCells sj) _ (fun wx hS => hS.1) Tryd.underlying43 rfl (by rw [info28, byteCells_length, HLJ.out])) hH ?_
                                simp only [Act.put, List.setIfInBounds_toArray, List.set_cons_zero, List.set_cons_succ]
                                refine wpAnyH_take (i := 6) (oi := { dst := some 180, op := Op.load 43 (Operand.tmp 23), type := 43, pos := "top02.go:40", after := #[{ on := 1, ground := Ground.guard }], guard := some (1, false) }) (v := .agg (byteCells sm).toArray) rfl (by kernel_rfl) (by kernel_rfl) (by kernel_rfl) (fun _ _ _ h => h) (yieldsIf_load_mid (by rfl) 43 _ rfl w7.heap.size 0 rfl (byteCells sm) _ (fun wx hS => hS.2) Tryd.underlying43 rfl (by rw [info28, byteCells_length, HSM.out])) hH ?_
                                simp only [Act.put, List.setIfInBounds_toArray, List.set_cons_zero, List.set_cons_succ]
                                refine wpAnyH_take (i := 7) (oi := { dst := some 181, op := Op.binOp BinOp.eql 43 (Operand.tmp 179) (Operand.tmp 180) 43, type := 4, pos := "top02.go:40", after := #[{ on := 5, ground := Ground.data }, { on := 6, ground := Ground.data }, { on := 1, ground := Ground.guard }], guard := some (1, false) }) (v := .bool (sj == sm)) rfl (by kernel_rfl) (by kernel_rfl) (by kernel_rfl) (fun _ _ _ h => h) (Or.inl ⟨by rfl, fun wx hS => ?_⟩) hH ?_
                                · exact eql_op2 _ _ _ _ sj sm rfl rfl rfl HLJ.out HSM.out wx
                                simp only [Act.put, List.setIfInBounds_toArray, List.set_cons_zero, List.set_cons_succ]
                                refine wpAnyH_take (i := 8) (oi := { dst := some 182, op := Op.pick (Operand.tmp 175) (Operand.const (Value.bool true)) (Operand.tmp 181), type := 4, pos := "top02.go:40", after := #[{ on := 1, ground := Ground.data }, { on := 7, ground := Ground.data }], guard := none }) (v := .bool (sj == sm)) rfl (by kernel_rfl) (by kernel_rfl) (by kernel_rfl) (fun _ _ _ h => h) (Or.inl ⟨by rfl, fun wx hS => ?_⟩) hH ?_
                                · go_simp
                                simp only [Act.put, List.setIfInBounds_toArray, List.set_cons_zero, List.set_cons_succ]
                                refine wpAnyH_take (i := 9) (oi := { dst := some 24, op := Op.assign (Operand.tmp 182), type := 4, pos := "top02.go:40", after := #[{ on := 8, ground := Ground.data }, { on := 1, ground := Ground.chain }, { on := 0, ground := Ground.phase }, { on := 1, ground := Ground.phase }, { on := 2, ground := Ground.phase }, { on := 3, ground := Ground.phase }, { on := 4, ground := Ground.phase }, { on := 5, ground := Ground.phase }, { on := 6, ground := Ground.phase }, { on := 7, ground := Ground.phase }, { on := 8, ground := Ground.phase }], guard := none }) (v := .bool (sj == sm)) rfl (by kernel_rfl) (by kernel_rfl) (by kernel_rfl) (fun _ _ _ h => h) (Or.inl ⟨by rfl, fun wx hS => ?_⟩) hH ?_
                                · go_simp
                                simp only [Act.put, List.setIfInBounds_toArray, List.set_cons_zero, List.set_cons_succ]
                                refine wpAnyH_done (by kernel_rfl) ?_ _
                                refine NoPanic.normal ?_
                                clear hH
                                clear RG BQ
                                go_wp2_with fail
                                go_roundw
                                case rel => exact ⟨j + 1, _, by omega, rfl, by go_num, HPJ, Lib.hid (below_drewN' LQ.out 1)⟩
                                case measure => simp [intOf]; omega
                            · have j1 : ¬ (j : Int) < ((Ct.ruletop.sizes b).length : Int) := by omega
                              have hkb : kb = true := by
                                obtain ⟨t, h1, h2⟩ := SJ.out
                                exact HKB.out t (by rw [HSL.out]; exact h1) (by omega) (by rw [HGET.out]; exact h2)
                              subst hkb
                              go_wp2_with fail
                              go_roundw
                              case rel => exact ⟨i + 1, false, by omega, by rw [HTS.out, HAE.out], rfl, by go_num, Lib.hid (fun h => by cases h), Lib.hid (L9.out.trans (LQ.out.mono L9.out.size))⟩
                              case measure => simp [intOf]; omega
                      all_goals
                        as_aux_lemma =>
                          go_wp2_with fail
                          go_roundw
                          case rel => exact ⟨i + 1, false, by omega, by rw [HTS.out, HAE.out], rfl, by go_num, Lib.hid (fun h => by cases h), LW⟩
                          case measure => simp [intOf]; omega
                    · have j1 : (j : Int) < ((Ct.ruletop.sizes b).length : Int) := by omega
                      have f3 : ¬ (f : Int) < (A : Int) - (q.length : Int) := by omega
                      go_upto_region 29 with fail
                      clear j1 f3 f4 heq hgo HJ
                      rcases (show ((E : Int) ≤ (k : Int) ∧ (E : Int) < (c.length : Int)) ∨ ((E : Int) ≤ (k : Int) ∧ ¬ (E : Int) < (c.length : Int)) ∨ ¬ (E : Int) ≤ (k : Int) by omega) with ⟨g3, g4⟩ | ⟨g3, g4⟩ | g3
                      · as_aux_lemma =>
                          have HKN : Hid (∃ j, j < (Ct.ruletop.sizes b).length ∧ Ct.ruletop.piece b j = Ct.ruletop.piece c i) := Lib.hid (HAH.out (by omega) (by omega))
                          obtain ⟨A5, hA5, hr5⟩ := Ct.run_mid ca c.length cc A E (by omega) EL hcc
                          have HPI : Hid (Ct.bytesIn wr A5 (Ct.ruletop.piece c i)) := Lib.hid (by
                            have h := (HC5.out.below LW5.out (Nat.le_refl _)).mid cc A E (by omega) EL hcc
                            rw [← hA5, ← HPC.out] at h
                            exact h)
                          have HPL : Hid ((Ct.ruletop.piece c i).length = E - A) := Lib.hid (by rw [HPC.out, List.length_drop, List.length_take]; omega)
                          have T6 : Hid (tables wr) := Lib.hid (HT.out.below (F5.out.trans (LW5.out.mono F5.out.size)) HT.out.2.2.1 HT.out.2.2.2)
                          have L2 := Lib.hid ((Below.refl wr.heap.size wr).alloc (Nat.le_refl _) (.cells #[.slice A5 (E - A) (cc - A)] 22 (0, 0)))
                          have hp2 : partsIn (wr.alloc (.cells #[.slice A5 (E - A) (cc - A)] 22 (0, 0))) (some ⟨wr.heap.size, 0, none⟩) [Ct.ruletop.piece c i] := by
                            refine Or.inr ⟨_, _, rfl, fun j hj => ?_⟩
                            match j, hj with
                            | 0, _ => exact ⟨A5, cc - A, by rw [World.cell?_alloc_at _ _ _ _ rfl]; show some (Value.slice A5 (E - A) (cc - A)) = some (Value.slice A5 (Ct.ruletop.piece c i).length (cc - A)); rw [HPL.out], by show (Ct.ruletop.piece c i).length ≤ _; rw [HPL.out]; omega, by have := HCM.out; omega, HPI.out.below L2.out (Nat.le_refl _)⟩
                          have PO := of_any 1 (some ⟨wr.heap.size, 0, none⟩) [Ct.ruletop.piece c i] (wr.alloc (.cells #[.slice A5 (E - A) (cc - A)] 22 (0, 0))) (by simp) (by simp) (by simp only [List.flatten_cons, List.flatten_nil, List.append_nil]; rw [HPL.out]; omega) (T6.out.below L2.out T6.out.2.2.1 T6.out.2.2.2) hp2
                          rw [show [Ct.ruletop.piece c i].flatten = Ct.ruletop.piece c i by simp, show [Ct.ruletop.piece c i].length = 1 from rfl] at PO
                          have PO := Lib.hid PO
                          clear hp2 hA5 HPI T6
                          go_wp2_with fail
                          clear hr5
                          with_reducible refine PO.out.mono ?_
                          clear PO
                          rintro e w7 ⟨rfl, hb⟩
                          have hb7 : Below wr.heap.size wr w7 := L2.out.trans (hb.mono (by simp))
                          have L7 := Lib.hid (LW.out.trans (hb7.mono LW.out.size))
                          have SJ : Hid (∃ j, j < (Ct.ruletop.sizes b).length ∧ sha (Ct.ruletop.piece b j) = sha (Ct.ruletop.piece c i)) := Lib.hid (by
                            obtain ⟨j, h1, h2⟩ := HKN.out
                            exact ⟨j, h1, by rw [h2]⟩)
                          have HSM : Hid ((sha (Ct.ruletop.piece c i)).length = 32) := Lib.hid (sha_length _)
                          clear hb hb7 L2 HKN HPL HPC
                          generalize sha (Ct.ruletop.piece c i) = sm at *
                          have hz3 := zero28
                          have HW7 : Hid (wo.heap.size ≤ w7.heap.size) := Lib.hid L7.out.size
                          go_wp2_with (refine wpList_store_block rfl 43 _ _ rfl w7.heap.size 0 (byteCells sm) rfl rfl (zeros 32) 43 (blockIs.new w7 _ _) (by rw [info28, byteCells_length, HSM.out]) (by simp [zeros, byteCells_length, HSM.out]) (byteCells_one _) ?_)
                          intro w9 h1 h2 h3
                          have h1 := h1.out
                          rw [splice_all _ _ (by simp [zeros, byteCells_length, HSM.out])] at h1
                          have B9 := Lib.hid h1
                          have L9 : Hid (Below wo.heap.size wo w9) := Lib.hid ((L7.out.alloc L7.out.size (.cells (zeros 32).toArray 43 (0, 0))).trans (h2.out.below L7.out.size (by simp; have := HW7.out; omega)))
                          clear h1 h2 h3 L7 hz3
                          have S9 : Hid (rowS w9 w5.heap.size (.slice sa (Ct.ruletop.sizes b).length sc) SA) := Lib.hid (by
                            have h := S1.out.below L9.out (Nat.le_refl _)
                            rw [HSL.out] at h
                            exact h)
                          rename World => wq
                          go_wp2_with fail
                          go_loopw [24, 25] (fun kv jv wr => ∃ (j : Nat) (kb : Bool), j ≤ (Ct.ruletop.sizes b).length ∧ kv = .bool kb ∧ jv = .int .i64 (j : Int) ∧ Hid (∀ t (h : t < SA.length), t < j → SA[t] = sm → kb = true) ∧ Hid (Below wq.heap.size wq wr)) (fun _ jv _ => (Ct.ruletop.sizes b).length - (intOf jv).toNat)
                          case atStart => exact ⟨0, false, Nat.zero_le _, rfl, rfl, Lib.hid (fun t _ h => absurd h (Nat.not_lt_zero _)), Lib.hid (Below.refl _ _)⟩
                          case round =>
                            obtain ⟨j, kb, hj, rfl, rfl, HKB, LQ⟩ := hrel
                            have j0 : (0 : Int) ≤ (j : Int) := by omega
                            by_cases hlt4 : j < (Ct.ruletop.sizes b).length
                            · have j1 : (j : Int) < ((Ct.ruletop.sizes b).length : Int) := by omega
                              have j2 : (j : Int) ≤ 2000 := by omega
                              cases kb with
                              | true =>
                                go_upto_region 34 with fail
                                refine wp_region_noPanic ?_
                                refine wp_region_held_drew (S := fun _ => True) (by kernel_rfl) trivial (fun hH => ?_)
                                refine wpAnyH_take (i := 0) (oi := { dst := some 174, op := Op.move (Operand.tmp 24), type := 4, pos := "top02.go:40", after := #[], guard := none }) (v := .bool true) rfl (by kernel_rfl) (by kernel_rfl) (by kernel_rfl) (fun _ _ _ h => h) (Or.inl ⟨by rfl, fun wx hS => ?_⟩) hH ?_
                                · go_simp
                                simp only [Act.put, List.setIfInBounds_toArray, List.set_cons_zero, List.set_cons_succ]
                                refine wpAnyH_take (i := 1) (oi := { dst := some 175, op := Op.move (Operand.tmp 174), type := 4, pos := "top02.go:40", after := #[{ on := 0, ground := Ground.data }], guard := none }) (v := .bool true) rfl (by kernel_rfl) (by kernel_rfl) (by kernel_rfl) (fun _ _ _ h => h) (Or.inl ⟨by rfl, fun wx hS => ?_⟩) hH ?_
                                · go_simp
                                simp only [Act.put, List.setIfInBounds_toArray, List.set_cons_zero, List.set_cons_succ]
                                refine wpAnyH_take (i := 2) (oi := { dst := some 176, op := Op.move (Operand.tmp 13), type := 42, pos := "top02.go:40", after := #[{ on := 1, ground := Ground.guard }], guard := some (1, false) }) (v := undef) rfl (by kernel_rfl) (by kernel_rfl) (by kernel_rfl) (fun _ _ _ h => h) (Or.inr ⟨by rfl, rfl⟩) hH ?_
                                simp only [Act.put, List.setIfInBounds_toArray, List.set_cons_zero, List.set_cons_succ]
                                refine wpAnyH_take (i := 3) (oi := { dst := some 177, op := Op.move (Operand.tmp 25), type := 3, pos := "top02.go:40", after := #[{ on := 1, ground := Ground.guard }], guard := some (1, false) }) (v := undef) rfl (by kernel_rfl) (by kernel_rfl) (by kernel_rfl) (fun _ _ _ h => h) (Or.inr ⟨by rfl, rfl⟩) hH ?_
                                simp only [Act.put, List.setIfInBounds_toArray, List.set_cons_zero, List.set_cons_succ]
                                refine wpAnyH_take (i := 4) (oi := { dst := some 178, op := Op.indexAddr 42 (Operand.tmp 176) (Operand.tmp 177), type := 0, pos := "top02.go:40", after := #[{ on := 2, ground := Ground.data }, { on := 3, ground := Ground.data }, { on := 1, ground := Ground.guard }], guard := some (1, false) }) (v := undef) rfl (by kernel_rfl) (by kernel_rfl) (by kernel_rfl) (fun _ _ _ h => h) (Or.inr ⟨by rfl, rfl⟩) hH ?_
                                simp only [Act.put, List.setIfInBounds_toArray, List.set_cons_zero, List.set_cons_succ]
                                refine wpAnyH_take (i := 5) (oi := { dst := some 179, op := Op.load 43 (Operand.tmp 178), type := 43, pos := "top02.go:40", after := #[{ on := 4, ground := Ground.data }, { on := 1, ground := Ground.guard }], guard := some (1, false) }) (v := undef) rfl (by kernel_rfl) (by kernel_rfl) (by kernel_rfl) (fun _ _ _ h => h) (Or.inr ⟨by rfl, rfl⟩) hH ?_
                                simp only [Act.put, List.setIfInBounds_toArray, List.set_cons_zero, List.set_cons_succ]
                                refine wpAnyH_take (i := 6) (oi := { dst := some 180, op := Op.load 43 (Operand.tmp 23), type := 43, pos := "top02.go:40", after := #[{ on := 1, ground := Ground.guard }], guard := some (1, false) }) (v := undef) rfl (by kernel_rfl) (by kernel_rfl) (by kernel_rfl) (fun _ _ _ h => h) (Or.inr ⟨by rfl, rfl⟩) hH ?_
                                simp only [Act.put, List.setIfInBounds_toArray, List.set_cons_zero, List.set_cons_succ]
                                refine wpAnyH_take (i := 7) (oi := { dst := some 181, op := Op.binOp BinOp.eql 43 (Operand.tmp 179) (Operand.tmp 180) 43, type := 4, pos := "top02.go:40", after := #[{ on := 5, ground := Ground.data }, { on := 6, ground := Ground.data }, { on := 1, ground := Ground.guard }], guard := some (1, false) }) (v := undef) rfl (by kernel_rfl) (by kernel_rfl) (by kernel_rfl) (fun _ _ _ h => h) (Or.inr ⟨by rfl, rfl⟩) hH ?_
                                simp only [Act.put, List.setIfInBounds_toArray, List.set_cons_zero, List.set_cons_succ]
                                refine wpAnyH_take (i := 8) (oi := { dst := some 182, op := Op.pick (Operand.tmp 175) (Operand.const (Value.bool true)) (Operand.tmp 181), type := 4, pos := "top02.go:40", after := #[{ on := 1, ground := Ground.data }, { on := 7, ground := Ground.data }], guard := none }) (v := .bool true) rfl (by kernel_rfl) (by kernel_rfl) (by kernel_rfl) (fun _ _ _ h => h) (Or.inl ⟨by rfl, fun wx hS => ?_⟩) hH ?_
                                · go_simp
                                simp only [Act.put, List.setIfInBounds_toArray, List.set_cons_zero, List.set_cons_succ]
                                refine wpAnyH_take (i := 9) (oi := { dst := some 24, op := Op.assign (Operand.tmp 182), type := 4, pos := "top02.go:40", after := #[{ on := 8, ground := Ground.data }, { on := 1, ground := Ground.chain }, { on := 0, ground := Ground.phase }, { on := 1, ground := Ground.phase }, { on := 2, ground := Ground.phase }, { on := 3, ground := Ground.phase }, { on := 4, ground := Ground.phase }, { on := 5, ground := Ground.phase }, { on := 6, ground := Ground.phase }, { on := 7, ground := Ground.phase }, { on := 8, ground := Ground.phase }], guard := none }) (v := .bool true) rfl (by kernel_rfl) (by kernel_rfl) (by kernel_rfl) (fun _ _ _ h => h) (Or.inl ⟨by rfl, fun wx hS => ?_⟩) hH ?_
                                · go_simp
                                simp only [Act.put, List.setIfInBounds_toArray, List.set_cons_zero, List.set_cons_succ]
                                refine wpAnyH_done (by kernel_rfl) ?_ _
                                refine NoPanic.normal ?_
                                clear hH
                                go_wp2_with fail
                                go_roundw
                                case rel => exact ⟨j + 1, true, by omega, rfl, by go_num, Lib.hid (fun _ _ _ _ => rfl), Lib.hid (below_drewN' LQ.out 1)⟩
                                case measure => simp [intOf]; omega
                              | false =>
                                have hjS : j < SA.length := by rw [HSL.out]; exact hlt4
                                obtain ⟨sg, rfl, hrg⟩ := (S9.out.below LQ.out (Nat.le_refl _)).at h32.out j hjS
                                have BQ := Lib.hid (B9.out.below LQ.out B9.out.lt)
                                have RG := Lib.hid hrg
                                have HLJ : Hid ((SA[j]).length = 32) := Lib.hid (h32.out _ (List.getElem_mem hjS))
                                have HPJ : Hid (∀ t (h : t < SA.length), t < j + 1 → SA[t] = sm → (SA[j] == sm) = true) := Lib.hid (fun t h1 h2 h3 => by
                                  by_cases e : t = j
                                  · subst e; rw [h3]; simp
                                  · exact absurd (HKB.out t h1 (by omega) h3) (by decide))
                                clear hrg HKB
                                generalize SA[j] = sj at *
                                go_upto_region 34 with fail
                                refine wp_region_noPanic ?_
                                refine wp_region_held_drew (S := fun w' => w'.rangeAt sg (j * 32) (byteCells sj) ∧ w'.rangeAt w7.heap.size 0 (byteCells sm)) (by kernel_rfl) ⟨RG.out, fun t u hu => by rw [Nat.zero_add]; exact (BQ.out.cell t).trans hu⟩ (fun hH => ?_)
                                refine wpAnyH_take (i := 0) (oi := { dst := some 174, op := Op.move (Operand.tmp 24), type := 4, pos := "top02.go:40", after := #[], guard := none }) (v := .bool false) rfl (by kernel_rfl) (by kernel_rfl) (by kernel_rfl) (fun _ _ _ h => h) (Or.inl ⟨by rfl, fun wx hS => ?_⟩) hH ?_
                                · go_simp
                                simp only [Act.put, List.setIfInBounds_toArray, List.set_cons_zero, List.set_cons_succ]
                                refine wpAnyH_take (i := 1) (oi := { dst := some 175, op := Op.move (Operand.tmp 174), type := 4, pos := "top02.go:40", after := #[{ on := 0, ground := Ground.data }], guard := none }) (v := .bool false) rfl (by kernel_rfl) (by kernel_rfl) (by kernel_rfl) (fun _ _ _ h => h) (Or.inl ⟨by rfl, fun wx hS => ?_⟩) hH ?_
                                · go_simp
                                simp only [Act.put, List.setIfInBounds_toArray, List.set_cons_zero, List.set_cons_succ]
                                refine wpAnyH_take (i := 2) (oi := { dst := some 176, op := Op.move (Operand.tmp 13), type := 42, pos := "top02.go:40", after := #[{ on := 1, ground := Ground.guard }], guard := some (1, false) }) (v := .slice (some ⟨sg, 0, none⟩) (Ct.ruletop.sizes b).length sc) rfl (by kernel_rfl) (by kernel_rfl) (by kernel_rfl) (fun _ _ _ h => h) (Or.inl ⟨by rfl, fun wx hS => ?_⟩) hH ?_
                                · go_simp
                                simp only [Act.put, List.setIfInBounds_toArray, List.set_cons_zero, List.set_cons_succ]
                                refine wpAnyH_take (i := 3) (oi := { dst := some 177, op := Op.move (Operand.tmp 25), type := 3, pos := "top02.go:40", after := #[{ on := 1, ground := Ground.guard }], guard := some (1, false) }) (v := .int .i64 (j : Int)) rfl (by kernel_rfl) (by kernel_rfl) (by kernel_rfl) (fun _ _ _ h => h) (Or.inl ⟨by rfl, fun wx hS => ?_⟩) hH ?_
                                · go_simp
                                simp only [Act.put, List.setIfInBounds_toArray, List.set_cons_zero, List.set_cons_succ]
                                refine wpAnyH_take (i := 4) (oi := { dst := some 178, op := Op.indexAddr 42 (Operand.tmp 176) (Operand.tmp 177), type := 0, pos := "top02.go:40", after := #[{ on := 2, ground := Ground.data }, { on := 3, ground := Ground.data }, { on := 1, ground := Ground.guard }], guard := some (1, false) }) (v := .pointer (some ⟨sg, j * 32, none⟩)) rfl (by kernel_rfl) (by kernel_rfl) (by kernel_rfl) (fun _ _ _ h => h) (Or.inl ⟨by rfl, fun wx hS => ?_⟩) hH ?_
                                · go_simp
                                simp only [Act.put, List.setIfInBounds_toArray, List.set_cons_zero, List.set_cons_succ]
                                refine wpAnyH_take (i := 5) (oi := { dst := some 179, op := Op.load 43 (Operand.tmp 178), type := 43, pos := "top02.go:40", after := #[{ on := 4, ground := Ground.data }, { on := 1, ground := Ground.guard }], guard := some (1, false) }) (v := .agg (byteCells sj).toArray) rfl (by kernel_rfl) (by kernel_rfl) (by kernel_rfl) (fun _ _ _ h => h) (yieldsIf_load_mid (by rfl) 43 _ rfl sg (j * 32) rfl (byteCells sj) _ (fun wx hS => hS.1) Tryd.underlying43 rfl (by rw [info28, byteCells_length, HLJ.out])) hH ?_
                                simp only [Act.put, List.setIfInBounds_toArray, List.set_cons_zero, List.set_cons_succ]
                                refine wpAnyH_take (i := 6) (oi := { dst := some 180, op := Op.load 43 (Operand.tmp 23), type := 43, pos := "top02.go:40", after := #[{ on := 1, ground := Ground.guard }], guard := some (1, false) }) (v := .agg (byteCells sm).toArray) rfl (by kernel_rfl) (by kernel_rfl) (by kernel_rfl) (fun _ _ _ h => h) (yieldsIf_load_mid (by rfl) 43 _ rfl w7.heap.size 0 rfl (byteCells sm) _ (fun wx hS => hS.2) Tryd.underlying43 rfl (by rw [info28, byteCells_length, HSM.out])) hH ?_
                                simp only [Act.put, List.setIfInBounds_toArray, List.set_cons_zero, List.set_cons_succ]
                                refine wpAnyH_take (i := 7) (oi := { dst := some 181, op := Op.binOp BinOp.eql 43 (Operand.tmp 179) (Operand.tmp 180) 43, type := 4, pos := "top02.go:40", after := #[{ on := 5, ground := Ground.data }, { on := 6, ground := Ground.data }, { on := 1, ground := Ground.guard }], guard := some (1, false) }) (v := .bool (sj == sm)) rfl (by kernel_rfl) (by kernel_rfl) (by kernel_rfl) (fun _ _ _ h => h) (Or.inl ⟨by rfl, fun wx hS => ?_⟩) hH ?_
                                · exact eql_op2 _ _ _ _ sj sm rfl rfl rfl HLJ.out HSM.out wx
                                simp only [Act.put, List.setIfInBounds_toArray, List.set_cons_zero, List.set_cons_succ]
                                refine wpAnyH_take (i := 8) (oi := { dst := some 182, op := Op.pick (Operand.tmp 175) (Operand.const (Value.bool true)) (Operand.tmp 181), type := 4, pos := "top02.go:40", after := #[{ on := 1, ground := Ground.data }, { on := 7, ground := Ground.data }], guard := none }) (v := .bool (sj == sm)) rfl (by kernel_rfl) (by kernel_rfl) (by kernel_rfl) (fun _ _ _ h => h) (Or.inl ⟨by rfl, fun wx hS => ?_⟩) hH ?_
                                · go_simp
                                simp only [Act.put, List.setIfInBounds_toArray, List.set_cons_zero, List.set_cons_succ]
                                refine wpAnyH_take (i := 9) (oi := { dst := some 24, op := Op.assign (Operand.tmp 182), type := 4, pos := "top02.go:40", after := #[{ on := 8, ground := Ground.data }, { on := 1, ground := Ground.chain }, { on := 0, ground := Ground.phase }, { on := 1, ground := Ground.phase }, { on := 2, ground := Ground.phase }, { on := 3, ground := Ground.phase }, { on := 4, ground := Ground.phase }, { on := 5, ground := Ground.phase }, { on := 6, ground := Ground.phase }, { on := 7, ground := Ground.phase }, { on := 8, ground := Ground.phase }], guard := none }) (v := .bool (sj == sm)) rfl (by kernel_rfl) (by kernel_rfl) (by kernel_rfl) (fun _ _ _ h => h) (Or.inl ⟨by rfl, fun wx hS => ?_⟩) hH ?_
                                · go_simp
                                simp only [Act.put, List.setIfInBounds_toArray, List.set_cons_zero, List.set_cons_succ]
                                refine wpAnyH_done (by kernel_rfl) ?_ _
                                refine NoPanic.normal ?_
                                clear hH
                                clear RG BQ
                                go_wp2_with fail
                                go_roundw
                                case rel => exact ⟨j + 1, _, by omega, rfl, by go_num, HPJ, Lib.hid (below_drewN' LQ.out 1)⟩
                                case measure => simp [intOf]; omega
                            · have j1 : ¬ (j : Int) < ((Ct.ruletop.sizes b).length : Int) := by omega
                              have hkb : kb = true := by
                                obtain ⟨t, h1, h2⟩ := SJ.out
                                exact HKB.out t (by rw [HSL.out]; exact h1) (by omega) (by rw [HGET.out]; exact h2)
                              subst hkb
                              go_wp2_with fail
                              go_roundw
                              case rel => exact ⟨i + 1, false, by omega, by rw [HTS.out, HAE.out], rfl, by go_num, Lib.hid (fun h => by cases h), Lib.hid (L9.out.trans (LQ.out.mono L9.out.size))⟩
                              case measure => simp [intOf]; omega
                      all_goals
                        as_aux_lemma =>
                          go_wp2_with fail
                          go_roundw
                          case rel => exact ⟨i + 1, false, by omega, by rw [HTS.out, HAE.out], rfl, by go_num, Lib.hid (fun h => by cases h), LW⟩
                          case measure => simp [intOf]; omega
        · have i1 : ¬ (i : Int) < ((Ct.ruletop.sizes c).length : Int) := by omega
          go_wp2_with fail
          go_ret
          exact ⟨rfl, (F5.out.trans (L1.out.mono F5.out.size)).trans (LW.out.mono (F5.out.trans (L1.out.mono F5.out.size)).size)⟩
end Go.Proofs.YtaohbpmefcdipaaDoor
