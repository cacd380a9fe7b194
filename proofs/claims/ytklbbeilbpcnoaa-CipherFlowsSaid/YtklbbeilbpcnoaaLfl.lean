/- The law CipherFlows: its walk. -/
import Derived.Test.YtklbbeilbpcnoaaLrn
import Derived.Test.YtklbbeilbpcnoaaRhd
namespace Go.Proofs.Ytklbbeilbpcnoaa
open Go.RowKit Sha Aes

theorem seek_bad (fb : Nat) (m : Int) (w : World) (hm : m < 0 ∨ 1099511627776 < m) :
    Calls Try.prog 20 #[.pointer (some ⟨fb, 0, none⟩), .int .i64 m] w fun e w' => e = .returned (.int .i64 1) ∧ w = w' := by
  by_cases h1 : m < 0
  · clear hm
    go_enter Try.func20, Try.ntmps20
    go_wp2_with fail
    go_ret
    exact ⟨rfl, rfl⟩
  · have h2 : 1099511627776 < m := by omega
    clear hm
    go_enter Try.func20, Try.ntmps20
    go_wp2_with fail
    go_ret
    exact ⟨rfl, rfl⟩
/-- What stands behind the flow's Hide: the argument, the flow, the bytes that came, the bytes that were hidden. -/
def finv (w : World) (fb g : Nat) (C : List Value) (N : List UInt8) (n : Nat) (a : Option Addr) (l : List UInt8) (va : Option Addr) (T : List UInt8) (X : World) : Prop :=
  blockIs X w.heap.size C 45 ∧ blockIs X fb (flowCells g N n) 65 ∧ bytesIn X a l ∧ bytesIn X va T ∧ Below w.heap.size w X
theorem finv.below {w X Y : World} {fb g n : Nat} {C : List Value} {N l T : List UInt8} {a va : Option Addr} (h : finv w fb g C N n a l va T X) (k : Below X.heap.size X Y) : finv w fb g C N n a l va T Y :=
  ⟨h.1.below k h.1.lt, h.2.1.below k h.2.1.lt, h.2.2.1.below k, h.2.2.2.1.below k, h.2.2.2.2.trans (k.mono h.2.2.2.2.size)⟩
theorem fin_key {X : World} {b : Nat} {K : List UInt8} {C q : List Value} {t : TypeId} (hc : C = byteCells K ++ q) (h : blockIs X b C t) : bytesIn X (some ⟨b, 0, none⟩) K := Or.inr ⟨_, _, rfl, fun j hj => by
  rw [Nat.zero_add, h.cell, hc, List.getElem?_append_left (by rw [byteCells_length]; exact hj)]
  exact byteCells_get K j hj⟩
theorem fin_num {X : World} {b : Nat} {K N : List UInt8} {C q : List Value} {t : TypeId} (hk : K.length = 32) (hc : C = byteCells K ++ (byteCells N ++ q)) (h : blockIs X b C t) : bytesIn X (some ⟨b, 32, none⟩) N := Or.inr ⟨_, _, rfl, fun j hj => by
  rw [h.cell, hc, List.getElem?_append_right (by rw [byteCells_length, hk]; omega), byteCells_length, hk, Nat.add_sub_cancel_left, List.getElem?_append_left (by rw [byteCells_length]; exact hj)]
  exact byteCells_get N j hj⟩

set_option maxRecDepth 100000 in
set_option maxHeartbeats 8000000 in
theorem law_cipherFlows (K N : List UInt8) (p : Int) (a : Option Addr) (c : Nat) (F : List UInt8) (w : World) (hK : K.length = 32) (hN : N.length = 16) (hF : F.length ≤ c) (hac : a = none → c = 0) (hin : bytesIn w a F) :
    Calls Try.prog 5 #[.agg (pourCells K N p (.slice a F.length c)).toArray] w fun e w' => e = .returned (.bool true) ∧ Below w.heap.size w w' := by
  have HKL := Lib.hid hK
  have HNL := Lib.hid hN
  have HAC := Lib.hid hac
  have HP := Lib.hid (fun X => pour_any K N p a c F X hK hN hF)
  have G1 := Lib.hid (blockIs.new w (pourCells K N p (.slice a F.length c)) 45)
  have B1 := Lib.hid (alloc_below w (.cells (pourCells K N p (.slice a F.length c)).toArray 45 (0, 0)))
  have QK : Hid (bytesIn (w.alloc (.cells (pourCells K N p (.slice a F.length c)).toArray 45 (0, 0))) (some ⟨w.heap.size, 0, none⟩) K) := Lib.hid (Or.inr ⟨_, _, rfl, fun j hj => by
    rw [Nat.zero_add, G1.out.cell]
    unfold pourCells
    rw [List.getElem?_append_left (by rw [byteCells_length]; exact hj)]
    exact byteCells_get K j hj⟩)
  have CN : Hid (pourCells K N p (.slice a F.length c) = byteCells K ++ (byteCells N ++ [.int .i64 p, .slice a F.length c])) := Lib.hid rfl
  have CL : Hid ((pourCells K N p (.slice a F.length c)).length = 50) := Lib.hid (by unfold pourCells; simp [byteCells_length, hK, hN])
  have HI0 := Lib.hid (hin.take 150)
  have hFl : (F.take 150).length ≤ 150 := by rw [List.length_take]; omega
  have HC48' : Hid ((pourCells K N p (.slice a F.length c))[48]? = some (.int .i64 p)) := Lib.hid (by
    unfold pourCells
    rw [List.getElem?_append_right (by rw [byteCells_length]; omega), byteCells_length, hK, List.getElem?_append_right (by rw [byteCells_length]; omega), byteCells_length, hN]; rfl)
  clear hK hN hac hin hF
  generalize pourCells K N p (.slice a F.length c) = C at *
  generalize F.take 150 = l at *
  have infoPour : (Try.prog.info? 45).map (·.size) = some 50 := by kernel_rfl
  go_enter Try.func5, Try.ntmps5
  have HM := Lib.hid (make_any (some ⟨w.heap.size, 0, none⟩) 32 K (w.alloc (.cells C.toArray 45 (0, 0))) HKL.out QK.out)
  rw [HKL.out] at HM
  have HIP := Lib.hid infoPour
  clear infoPour
  go_wp2_with fail
  generalize w.alloc (.cells C.toArray 45 (0, 0)) = w1 at *
  with_reducible refine HM.out.mono ?_
  rintro e w2 ⟨g, rfl, hg1, hkey, kk⟩
  have K2 := Lib.hid hkey
  have G2 := Lib.hid (G1.out.below kk G1.out.lt)
  have B2 := Lib.hid (B1.out.trans (kk.mono B1.out.size))
  have HG1 : Hid (w.heap.size < g) := Lib.hid (Nat.lt_of_lt_of_le G1.out.lt hg1)
  clear hg1 hkey kk HM G1 B1 QK
  have QN2 : Hid (w2.rangeAt w.heap.size 32 (byteCells N)) := Lib.hid (by
    have h := G2.out
    rw [CN.out] at h
    have := rangeAt_block (p := byteCells K) (cs := byteCells N) h
    rwa [byteCells_length, HKL.out] at this)
  obtain ⟨ws, hws⟩ : ∃ ws, ws = Aes.words K 60 := ⟨_, rfl⟩
  have HWS := Lib.hid hws.symm
  rw [← hws] at K2
  clear hws
  have HBG := Lib.hid (begin_ok g N w2 HNL.out)
  have HNB : Hid ((byteCells N).length = 16) := Lib.hid (by rw [byteCells_length]; exact HNL.out)
  go_wp2_with (refine wpList_load_mid rfl 23 _ rfl w.heap.size 32 rfl (byteCells N) _ QN2.out Try.underlying23 rfl (by rw [infoBlk, HNB.out]) ?_)
  with_reducible refine HBG.out.mono ?_
  rintro e w3 ⟨fb, rfl, hfb, hfl, kk⟩
  have I3 : Hid (rinv w fb g ws N 0 a l w3) := Lib.hid ⟨hfl, K2.out.below kk K2.out.lt, HI0.out.below (B2.out.trans (kk.mono B2.out.size)), B2.out.trans (kk.mono B2.out.size)⟩
  have G3 := Lib.hid (G2.out.below kk G2.out.lt)
  have HGF : Hid (g < fb) := Lib.hid (Nat.lt_of_lt_of_le K2.out.lt hfb)
  have HFW : Hid (w.heap.size < fb) := Lib.hid (by have := HGF.out; have := HG1.out; omega)
  have HFB : Hid (w.heap.size ≤ fb ∧ fb ≠ g) := Lib.hid ⟨Nat.le_of_lt HFW.out, Nat.ne_of_gt HGF.out⟩
  clear hfb hfl kk K2 G2 B2 QN2 HBG
  go_wp2_with fail
  refine (hides_any _).mono ?_
  rintro e w4 ⟨rfl, kk⟩
  have I4 := Lib.hid (I3.out.below kk)
  have G4 := Lib.hid (G3.out.below kk G3.out.lt)
  have c48 : w4.cell? ⟨w.heap.size, 48, none⟩ = some (.int .i64 p) := by rw [G4.out.cell]; exact HC48'.out
  clear kk I3 G3
  by_cases hp : p < 0 ∨ 1099511627776 < p
  · have HSB := Lib.hid (fun X => seek_bad fb p X hp)
    have HAT := Lib.hid (at_ok fb g N 0 w4 HNL.out I4.out.1)
    by_cases h1 : p < 0
    · clear hp
      go_wp2_with fail
      with_reducible refine (HSB.out _).mono ?_
      rintro e w5 ⟨rfl, rfl⟩
      go_wp2_with fail
      with_reducible refine HAT.out.mono ?_
      rintro e w5 ⟨rfl, rfl⟩
      go_wp2_with fail
      go_ret
      exact ⟨rfl, I4.out.2.2.2⟩
    · have h2 : 1099511627776 < p := by omega
      clear hp
      go_wp2_with fail
      with_reducible refine (HSB.out _).mono ?_
      rintro e w5 ⟨rfl, rfl⟩
      go_wp2_with fail
      with_reducible refine HAT.out.mono ?_
      rintro e w5 ⟨rfl, rfl⟩
      go_wp2_with fail
      go_ret
      exact ⟨rfl, I4.out.2.2.2⟩
  · have p0 : ¬ p < 0 := by omega
    have p1 : ¬ 1099511627776 < p := by omega
    obtain ⟨n, hn⟩ : ∃ n : Nat, p = (n : Int) := ⟨p.toNat, by omega⟩
    have hn40 : n ≤ 1099511627776 := by omega
    have HNP := Lib.hid hn
    have b1 : decide (p < 0) = false := by simp; omega
    have b2 : decide (1099511627776 < p) = false := by simp; omega
    clear hp p0 p1 hn
    have H40 := Lib.hid hn40
    clear hn40
    go_upto_if 39 with fail
    go_upto_region 7 with fail
    clear c48 b1 b2
    have hn40 := H40.out
    obtain rfl : p = (n : Int) := HNP.out
    clear HNP
    have HC48 : Hid (C[48]? = some (.int .i64 (n : Int))) := Lib.hid HC48'.out
    have RC := Lib.hid (range_of G4.out)
    go_wp2_with (refine wpList_load_mid rfl 45 _ rfl w.heap.size 0 rfl C _ RC.out Try.underlying45 rfl (by rw [HIP.out, CL.out]) ?_)
    with_reducible refine (HP.out w4).mono ?_
    rintro e w5 ⟨rfl, kk⟩
    have I5 := Lib.hid (I4.out.below kk)
    have G5 := Lib.hid (G4.out.below kk G4.out.lt)
    clear kk I4 G4 RC HP
    go_upto_region 8 with fail
    refine wp_region_noPanic ?_
    refine wp_region_held_drew (S := fun X => blockIs X w.heap.size C 45) (by kernel_rfl) G5.out (fun hH => ?_)
    refine wpAnyH_take (i := 0) (oi := { dst := some 52, op := Op.move (Operand.tmp 5), type := 29, pos := "law.go:69", after := #[], guard := none }) (v := .pointer (some ⟨fb, 0, none⟩)) rfl (by kernel_rfl) (by kernel_rfl) (by kernel_rfl) (fun _ _ _ h => h) (Or.inl ⟨by rfl, fun wx hS => ?_⟩) hH ?_
    · go_simp
    simp only [Act.put, List.setIfInBounds_toArray, List.set_cons_zero, List.set_cons_succ]
    refine wpAnyH_take (i := 1) (oi := { dst := some 53, op := Op.fieldAddr 45 (Operand.tmp 1) 2, type := 0, pos := "law.go:69", after := #[], guard := none }) (v := .pointer (some ⟨w.heap.size, 48, none⟩)) rfl (by kernel_rfl) (by kernel_rfl) (by kernel_rfl) (fun _ _ _ h => h) (Or.inl ⟨by rfl, fun wx hS => ?_⟩) hH ?_
    · go_simp
    simp only [Act.put, List.setIfInBounds_toArray, List.set_cons_zero, List.set_cons_succ]
    refine wpAnyH_take (i := 2) (oi := { dst := some 54, op := Op.load 3 (Operand.tmp 53), type := 3, pos := "law.go:69", after := #[{ on := 1, ground := Ground.data }], guard := none }) (v := .int .i64 (n : Int)) rfl (by kernel_rfl) (by kernel_rfl) (by kernel_rfl) (fun _ _ _ h => h) (Or.inl ⟨by rfl, fun wx hS => ?_⟩) hH ?_
    · have e1 : wx.cell? ⟨w.heap.size, 48, none⟩ = some (.int .i64 (n : Int)) := (by rw [blockIs.cell hS]; exact HC48.out); go_simp
    simp only [Act.put, List.setIfInBounds_toArray, List.set_cons_zero, List.set_cons_succ]
    refine wpAnyH_ready (rs := [3]) (by kernel_rfl) (by simp) ?_
    refine AllReadyH.cons (o := { dst := some 55, op := Op.call { callee := Callee.value (Operand.func 20), args := #[Operand.tmp 52, Operand.tmp 54], argTypes := #[29, 3] }, type := 25, pos := "law.go:69", after := #[{ on := 0, ground := Ground.data }, { on := 2, ground := Ground.data }], guard := none }) rfl (fun KK hKK => ?_) AllReadyH.nil
    go_simp
    have HSK := seek_ok fb g N 0 n w5.drew HNL.out hn40 I5.out.1
    with_reducible refine HSK.mono ?_
    clear HSK
    rintro e w6 ⟨rfl, hfl, hbut⟩
    have I6 : Hid (rinv w fb g ws N n a l w6) := Lib.hid ⟨hfl, hbut.is I5.out.2.1 (Ne.symm HFB.out.2), old_bytes HI0.out (show bytesIn w5.drew a l from I5.out.2.2.1) hbut HFB.out.1, (show Below w.heap.size w w5.drew from I5.out.2.2.2.drew).trans (hbut.below HFB.out.1 I5.out.2.2.2.size)⟩
    have hN := hbut.is hH (Nat.ne_of_lt HFW.out)
    have G6 := Lib.hid hN
    clear hfl hbut hH I5
    refine hKK.out _ _ hN (fun hH => ?_)
    clear hKK KK hN
    try simp only [Act.put, List.setIfInBounds_toArray, List.set_cons_zero, List.set_cons_succ]
    refine wpAnyH_take (i := 4) (oi := { dst := some 56, op := Op.binOp BinOp.neq 25 (Operand.tmp 55) (Operand.const (Value.int IntKind.i64 0)) 25, type := 4, pos := "law.go:69", after := #[{ on := 3, ground := Ground.data }], guard := none }) (v := .bool false) rfl (by kernel_rfl) (by kernel_rfl) (by kernel_rfl) (fun _ _ _ h => h) (Or.inl ⟨by rfl, fun wx hS => ?_⟩) hH ?_
    · go_simp
    simp only [Act.put, List.setIfInBounds_toArray, List.set_cons_zero, List.set_cons_succ]
    refine wpAnyH_take (i := 5) (oi := { dst := some 57, op := Op.move (Operand.tmp 56), type := 4, pos := "law.go:69", after := #[{ on := 4, ground := Ground.data }, { on := 3, ground := Ground.chain }], guard := none }) (v := .bool false) rfl (by kernel_rfl) (by kernel_rfl) (by kernel_rfl) (fun _ _ _ h => h) (Or.inl ⟨by rfl, fun wx hS => ?_⟩) hH ?_
    · go_simp
    simp only [Act.put, List.setIfInBounds_toArray, List.set_cons_zero, List.set_cons_succ]
    refine wpAnyH_take (i := 6) (oi := { dst := some 58, op := Op.move (Operand.tmp 5), type := 29, pos := "law.go:69", after := #[{ on := 5, ground := Ground.guard }], guard := some (5, false) }) (v := .pointer (some ⟨fb, 0, none⟩)) rfl (by kernel_rfl) (by kernel_rfl) (by kernel_rfl) (fun _ _ _ h => h) (Or.inl ⟨by rfl, fun wx hS => ?_⟩) hH ?_
    · go_simp
    simp only [Act.put, List.setIfInBounds_toArray, List.set_cons_zero, List.set_cons_succ]
    refine wpAnyH_take (i := 8) (oi := { dst := some 60, op := Op.fieldAddr 45 (Operand.tmp 1) 2, type := 0, pos := "law.go:69", after := #[{ on := 5, ground := Ground.guard }], guard := some (5, false) }) (v := .pointer (some ⟨w.heap.size, 48, none⟩)) rfl (by kernel_rfl) (by kernel_rfl) (by kernel_rfl) (fun _ _ _ h => h) (Or.inl ⟨by rfl, fun wx hS => ?_⟩) hH ?_
    · go_simp
    simp only [Act.put, List.setIfInBounds_toArray, List.set_cons_zero, List.set_cons_succ]
    refine wpAnyH_take (i := 9) (oi := { dst := some 61, op := Op.load 3 (Operand.tmp 60), type := 3, pos := "law.go:69", after := #[{ on := 8, ground := Ground.data }, { on := 5, ground := Ground.guard }], guard := some (5, false) }) (v := .int .i64 (n : Int)) rfl (by kernel_rfl) (by kernel_rfl) (by kernel_rfl) (fun _ _ _ h => h) (Or.inl ⟨by rfl, fun wx hS => ?_⟩) hH ?_
    · have e1 : wx.cell? ⟨w.heap.size, 48, none⟩ = some (.int .i64 (n : Int)) := (by rw [blockIs.cell hS]; exact HC48.out); go_simp
    simp only [Act.put, List.setIfInBounds_toArray, List.set_cons_zero, List.set_cons_succ]
    refine wpAnyH_ready (rs := [7]) (by kernel_rfl) (by simp) ?_
    refine AllReadyH.cons (o := { dst := some 59, op := Op.call { callee := Callee.value (Operand.func 19), args := #[Operand.tmp 58], argTypes := #[29] }, type := 3, pos := "law.go:69", after := #[{ on := 6, ground := Ground.data }, { on := 5, ground := Ground.chain }, { on := 5, ground := Ground.guard }], guard := some (5, false) }) rfl (fun KK hKK => ?_) AllReadyH.nil
    go_simp
    have HAT := at_ok fb g N n w6 HNL.out I6.out.1
    with_reducible refine HAT.mono ?_
    clear HAT
    rintro e w7 ⟨rfl, rfl⟩
    refine hKK.out _ _ hH (fun hH => ?_)
    clear hKK KK hH
    try simp only [Act.put, List.setIfInBounds_toArray, List.set_cons_zero, List.set_cons_succ]
    have hH := G6.out
    refine wpAnyH_take (i := 10) (oi := { dst := some 62, op := Op.binOp BinOp.neq 3 (Operand.tmp 59) (Operand.tmp 61) 3, type := 4, pos := "law.go:69", after := #[{ on := 7, ground := Ground.data }, { on := 9, ground := Ground.data }, { on := 5, ground := Ground.guard }], guard := some (5, false) }) (v := .bool false) rfl (by kernel_rfl) (by kernel_rfl) (by kernel_rfl) (fun _ _ _ h => h) (Or.inl ⟨by rfl, fun wx hS => ?_⟩) hH ?_
    · go_simp
    simp only [Act.put, List.setIfInBounds_toArray, List.set_cons_zero, List.set_cons_succ]
    refine wpAnyH_take (i := 11) (oi := { dst := some 63, op := Op.pick (Operand.tmp 57) (Operand.const (Value.bool true)) (Operand.tmp 62), type := 4, pos := "law.go:69", after := #[{ on := 5, ground := Ground.data }, { on := 10, ground := Ground.data }], guard := none }) (v := .bool false) rfl (by kernel_rfl) (by kernel_rfl) (by kernel_rfl) (fun _ _ _ h => h) (Or.inl ⟨by rfl, fun wx hS => ?_⟩) hH ?_
    · go_simp
    simp only [Act.put, List.setIfInBounds_toArray, List.set_cons_zero, List.set_cons_succ]
    refine wpAnyH_done (by kernel_rfl) ?_ _
    refine NoPanic.normal ?_
    have q6 : IntKind.i64.wrap ((n : Int) + (l.length : Int)) = ((n + l.length : Nat) : Int) := by rw [IntWalk.i64_in _ (by omega)]; rfl
    have LB := Lib.hid (blockIs.new w6 [Value.slice a l.length c] 28)
    have k7 := alloc_below w6 (.cells [Value.slice a l.length c].toArray 28 (0, 0))
    have I7 := Lib.hid (I6.out.below k7)
    have G7 := Lib.hid (G6.out.below k7 G6.out.lt)
    clear k7
    have HH := Lib.hid (hide_any fb g ws N n (some ⟨w6.heap.size, 0, none⟩) 1 [l] _ HNL.out hn40 (by simp) (by simp; omega) I7.out.1 I7.out.2.1 HFB.out.2 (lit_parts LB.out HAC.out I7.out.2.2.1))
    rw [show [l].flatten = l by simp, show [l].length = 1 from rfl] at HH
    clear I6 G6 LB
    go_wp2_with fail
    with_reducible refine HH.out.mono ?_
    clear HH
    rintro e w9 ⟨v, rfl, own, hfl, hbut⟩
    obtain ⟨T, hT⟩ : ∃ T, T = hideL ws N n l := ⟨_, rfl⟩
    rw [← hT] at own
    have HTE := Lib.hid hT.symm
    clear hT
    obtain ⟨va, vc, rfl, _, _, vin, _⟩ := own.form
    have J9 : Hid (finv w fb g C N (n + l.length) a l va T w9) := Lib.hid ⟨hbut.is G7.out (Nat.ne_of_lt HFW.out), hfl, old_bytes HI0.out I7.out.2.2.1 hbut HFB.out.1, vin, I7.out.2.2.2.trans (hbut.below HFB.out.1 I7.out.2.2.2.size)⟩
    have HCN := Lib.hid (show C = byteCells K ++ (byteCells N ++ [.int .i64 (n : Int), .slice a F.length c]) from CN.out)
    clear own hfl hbut vin I7 G7
    go_upto_region 11 with fail
    refine wp_region_noPanic ?_
    refine wp_region_held_drew (S := fun X => finv w fb g C N (n + l.length) a l va T X) (by kernel_rfl) (J9.out.below (below_drew' (Below.refl _ _))) (fun hH => ?_)
    refine wpAnyH_take (i := 0) (oi := { dst := some 68, op := Op.move (Operand.tmp 5), type := 29, pos := "law.go:73", after := #[], guard := none }) (v := .pointer (some ⟨fb, 0, none⟩)) rfl (by kernel_rfl) (by kernel_rfl) (by kernel_rfl) (fun _ _ _ h => h) (Or.inl ⟨by rfl, fun wx hS => ?_⟩) hH ?_
    · go_simp
    simp only [Act.put, List.setIfInBounds_toArray, List.set_cons_zero, List.set_cons_succ]
    refine wpAnyH_take (i := 2) (oi := { dst := some 70, op := Op.fieldAddr 45 (Operand.tmp 1) 2, type := 0, pos := "law.go:73", after := #[], guard := none }) (v := .pointer (some ⟨w.heap.size, 48, none⟩)) rfl (by kernel_rfl) (by kernel_rfl) (by kernel_rfl) (fun _ _ _ h => h) (Or.inl ⟨by rfl, fun wx hS => ?_⟩) hH ?_
    · go_simp
    simp only [Act.put, List.setIfInBounds_toArray, List.set_cons_zero, List.set_cons_succ]
    refine wpAnyH_take (i := 3) (oi := { dst := some 71, op := Op.load 3 (Operand.tmp 70), type := 3, pos := "law.go:73", after := #[{ on := 2, ground := Ground.data }], guard := none }) (v := .int .i64 (n : Int)) rfl (by kernel_rfl) (by kernel_rfl) (by kernel_rfl) (fun _ _ _ h => h) (Or.inl ⟨by rfl, fun wx hS => ?_⟩) hH ?_
    · have e1 : wx.cell? ⟨w.heap.size, 48, none⟩ = some (.int .i64 (n : Int)) := (by rw [blockIs.cell hS.1]; exact HC48.out); go_simp
    simp only [Act.put, List.setIfInBounds_toArray, List.set_cons_zero, List.set_cons_succ]
    refine wpAnyH_take (i := 4) (oi := { dst := some 72, op := Op.move (Operand.tmp 7), type := 28, pos := "law.go:73", after := #[], guard := none }) (v := .slice a l.length c) rfl (by kernel_rfl) (by kernel_rfl) (by kernel_rfl) (fun _ _ _ h => h) (Or.inl ⟨by rfl, fun wx hS => ?_⟩) hH ?_
    · go_simp
    simp only [Act.put, List.setIfInBounds_toArray, List.set_cons_zero, List.set_cons_succ]
    refine wpAnyH_take (i := 5) (oi := { dst := some 73, op := Op.call { callee := Callee.builtin Builtin.len, args := #[Operand.tmp 72], argTypes := #[28] }, type := 3, pos := "law.go:73", after := #[{ on := 4, ground := Ground.data }], guard := none }) (v := .int .i64 (l.length : Int)) rfl (by kernel_rfl) (by kernel_rfl) (by kernel_rfl) (fun _ _ _ h => h) (Or.inl ⟨by rfl, fun wx hS => ?_⟩) hH ?_
    · go_simp
    simp only [Act.put, List.setIfInBounds_toArray, List.set_cons_zero, List.set_cons_succ]
    refine wpAnyH_take (i := 6) (oi := { dst := some 74, op := Op.binOp BinOp.add 3 (Operand.tmp 71) (Operand.tmp 73) 3, type := 3, pos := "law.go:73", after := #[{ on := 3, ground := Ground.data }, { on := 5, ground := Ground.data }], guard := none }) (v := .int .i64 ((n + l.length : Nat) : Int)) rfl (by kernel_rfl) (by kernel_rfl) (by kernel_rfl) (fun _ _ _ h => h) (Or.inl ⟨by rfl, fun wx hS => ?_⟩) hH ?_
    · have e1 := q6; go_simp
    simp only [Act.put, List.setIfInBounds_toArray, List.set_cons_zero, List.set_cons_succ]
    refine wpAnyH_ready (rs := [1]) (by kernel_rfl) (by simp) ?_
    refine AllReadyH.cons (o := { dst := some 69, op := Op.call { callee := Callee.value (Operand.func 19), args := #[Operand.tmp 68], argTypes := #[29] }, type := 3, pos := "law.go:73", after := #[{ on := 0, ground := Ground.data }], guard := none }) rfl (fun KK hKK => ?_) AllReadyH.nil
    go_simp
    have HAT := at_ok fb g N (n + l.length) w9.drew HNL.out hH.2.1
    with_reducible refine HAT.mono ?_
    clear HAT
    rintro e w10 ⟨rfl, rfl⟩
    refine hKK.out _ _ hH (fun hH => ?_)
    clear hKK KK
    try simp only [Act.put, List.setIfInBounds_toArray, List.set_cons_zero, List.set_cons_succ]
    refine wpAnyH_take (i := 7) (oi := { dst := some 75, op := Op.binOp BinOp.eql 3 (Operand.tmp 69) (Operand.tmp 74) 3, type := 4, pos := "law.go:73", after := #[{ on := 1, ground := Ground.data }, { on := 6, ground := Ground.data }], guard := none }) (v := .bool true) rfl (by kernel_rfl) (by kernel_rfl) (by kernel_rfl) (fun _ _ _ h => h) (Or.inl ⟨by rfl, fun wx hS => ?_⟩) hH ?_
    · go_simp
    simp only [Act.put, List.setIfInBounds_toArray, List.set_cons_zero, List.set_cons_succ]
    refine wpAnyH_take (i := 8) (oi := { dst := some 76, op := Op.move (Operand.tmp 75), type := 4, pos := "law.go:73", after := #[{ on := 7, ground := Ground.data }, { on := 1, ground := Ground.chain }], guard := none }) (v := .bool true) rfl (by kernel_rfl) (by kernel_rfl) (by kernel_rfl) (fun _ _ _ h => h) (Or.inl ⟨by rfl, fun wx hS => ?_⟩) hH ?_
    · go_simp
    simp only [Act.put, List.setIfInBounds_toArray, List.set_cons_zero, List.set_cons_succ]
    refine wpAnyH_take (i := 9) (oi := { dst := some 77, op := Op.move (Operand.tmp 8), type := 28, pos := "law.go:73", after := #[{ on := 8, ground := Ground.guard }], guard := some (8, true) }) (v := .slice va T.length vc) rfl (by kernel_rfl) (by kernel_rfl) (by kernel_rfl) (fun _ _ _ h => h) (Or.inl ⟨by rfl, fun wx hS => ?_⟩) hH ?_
    · go_simp
    simp only [Act.put, List.setIfInBounds_toArray, List.set_cons_zero, List.set_cons_succ]
    refine wpAnyH_take (i := 10) (oi := { dst := some 78, op := Op.convert 28 9 (Operand.tmp 77), type := 9, pos := "law.go:73", after := #[{ on := 9, ground := Ground.data }, { on := 8, ground := Ground.guard }], guard := some (8, true) }) (v := .string (str T)) rfl (by kernel_rfl) (by kernel_rfl) (by kernel_rfl) (fun _ _ _ h => h) (Or.inl ⟨by rfl, fun wx hS => ?_⟩) hH ?_
    · have e1 := conv_string wx va T vc hS.2.2.2.1; go_simp
    simp only [Act.put, List.setIfInBounds_toArray, List.set_cons_zero, List.set_cons_succ]
    refine wpAnyH_take (i := 11) (oi := { dst := some 79, op := Op.fieldAddr 45 (Operand.tmp 1) 0, type := 0, pos := "law.go:73", after := #[{ on := 8, ground := Ground.guard }], guard := some (8, true) }) (v := .pointer (some ⟨w.heap.size, 0, none⟩)) rfl (by kernel_rfl) (by kernel_rfl) (by kernel_rfl) (fun _ _ _ h => h) (Or.inl ⟨by rfl, fun wx hS => ?_⟩) hH ?_
    · go_simp
    simp only [Act.put, List.setIfInBounds_toArray, List.set_cons_zero, List.set_cons_succ]
    refine wpAnyH_take (i := 12) (oi := { dst := some 80, op := Op.slice 22 (Operand.tmp 79) none none none, type := 28, pos := "law.go:73", after := #[{ on := 11, ground := Ground.data }, { on := 8, ground := Ground.guard }], guard := some (8, true) }) (v := .slice (some ⟨w.heap.size, 0, none⟩) 32 32) rfl (by kernel_rfl) (by kernel_rfl) (by kernel_rfl) (fun _ _ _ h => h) (Or.inl ⟨by rfl, fun wx hS => ?_⟩) hH ?_
    · go_simp
    simp only [Act.put, List.setIfInBounds_toArray, List.set_cons_zero, List.set_cons_succ]
    refine wpAnyH_take (i := 13) (oi := { dst := some 81, op := Op.convert 28 9 (Operand.tmp 80), type := 9, pos := "law.go:73", after := #[{ on := 12, ground := Ground.data }, { on := 8, ground := Ground.guard }], guard := some (8, true) }) (v := .string (str K)) rfl (by kernel_rfl) (by kernel_rfl) (by kernel_rfl) (fun _ _ _ h => h) (Or.inl ⟨by rfl, fun wx hS => ?_⟩) hH ?_
    · have e1 := conv_string wx (some ⟨w.heap.size, 0, none⟩) K 32 (fin_key HCN.out hS.1); rw [HKL.out] at e1; go_simp
    simp only [Act.put, List.setIfInBounds_toArray, List.set_cons_zero, List.set_cons_succ]
    refine wpAnyH_take (i := 15) (oi := { dst := some 83, op := Op.fieldAddr 45 (Operand.tmp 1) 1, type := 0, pos := "law.go:73", after := #[{ on := 8, ground := Ground.guard }], guard := some (8, true) }) (v := .pointer (some ⟨w.heap.size, 32, none⟩)) rfl (by kernel_rfl) (by kernel_rfl) (by kernel_rfl) (fun _ _ _ h => h) (Or.inl ⟨by rfl, fun wx hS => ?_⟩) hH ?_
    · go_simp
    simp only [Act.put, List.setIfInBounds_toArray, List.set_cons_zero, List.set_cons_succ]
    refine wpAnyH_take (i := 16) (oi := { dst := some 84, op := Op.slice 23 (Operand.tmp 83) none none none, type := 28, pos := "law.go:73", after := #[{ on := 15, ground := Ground.data }, { on := 8, ground := Ground.guard }], guard := some (8, true) }) (v := .slice (some ⟨w.heap.size, 32, none⟩) 16 16) rfl (by kernel_rfl) (by kernel_rfl) (by kernel_rfl) (fun _ _ _ h => h) (Or.inl ⟨by rfl, fun wx hS => ?_⟩) hH ?_
    · go_simp
    simp only [Act.put, List.setIfInBounds_toArray, List.set_cons_zero, List.set_cons_succ]
    refine wpAnyH_take (i := 17) (oi := { dst := some 85, op := Op.convert 28 9 (Operand.tmp 84), type := 9, pos := "law.go:73", after := #[{ on := 16, ground := Ground.data }, { on := 8, ground := Ground.guard }], guard := some (8, true) }) (v := .string (str N)) rfl (by kernel_rfl) (by kernel_rfl) (by kernel_rfl) (fun _ _ _ h => h) (Or.inl ⟨by rfl, fun wx hS => ?_⟩) hH ?_
    · have e1 := conv_string wx (some ⟨w.heap.size, 32, none⟩) N 16 (fin_num HKL.out HCN.out hS.1); rw [HNL.out] at e1; go_simp
    simp only [Act.put, List.setIfInBounds_toArray, List.set_cons_zero, List.set_cons_succ]
    refine wpAnyH_take (i := 18) (oi := { dst := some 86, op := Op.fieldAddr 45 (Operand.tmp 1) 2, type := 0, pos := "law.go:73", after := #[{ on := 8, ground := Ground.guard }], guard := some (8, true) }) (v := .pointer (some ⟨w.heap.size, 48, none⟩)) rfl (by kernel_rfl) (by kernel_rfl) (by kernel_rfl) (fun _ _ _ h => h) (Or.inl ⟨by rfl, fun wx hS => ?_⟩) hH ?_
    · go_simp
    simp only [Act.put, List.setIfInBounds_toArray, List.set_cons_zero, List.set_cons_succ]
    refine wpAnyH_take (i := 19) (oi := { dst := some 87, op := Op.load 3 (Operand.tmp 86), type := 3, pos := "law.go:73", after := #[{ on := 18, ground := Ground.data }, { on := 8, ground := Ground.guard }], guard := some (8, true) }) (v := .int .i64 (n : Int)) rfl (by kernel_rfl) (by kernel_rfl) (by kernel_rfl) (fun _ _ _ h => h) (Or.inl ⟨by rfl, fun wx hS => ?_⟩) hH ?_
    · have e1 : wx.cell? ⟨w.heap.size, 48, none⟩ = some (.int .i64 (n : Int)) := (by rw [blockIs.cell hS.1]; exact HC48.out); go_simp
    simp only [Act.put, List.setIfInBounds_toArray, List.set_cons_zero, List.set_cons_succ]
    refine wpAnyH_take (i := 20) (oi := { dst := some 88, op := Op.move (Operand.tmp 7), type := 28, pos := "law.go:73", after := #[{ on := 8, ground := Ground.guard }], guard := some (8, true) }) (v := .slice a l.length c) rfl (by kernel_rfl) (by kernel_rfl) (by kernel_rfl) (fun _ _ _ h => h) (Or.inl ⟨by rfl, fun wx hS => ?_⟩) hH ?_
    · go_simp
    simp only [Act.put, List.setIfInBounds_toArray, List.set_cons_zero, List.set_cons_succ]
    refine wpAnyH_take (i := 21) (oi := { dst := some 89, op := Op.convert 28 9 (Operand.tmp 88), type := 9, pos := "law.go:73", after := #[{ on := 20, ground := Ground.data }, { on := 8, ground := Ground.guard }], guard := some (8, true) }) (v := .string (str l)) rfl (by kernel_rfl) (by kernel_rfl) (by kernel_rfl) (fun _ _ _ h => h) (Or.inl ⟨by rfl, fun wx hS => ?_⟩) hH ?_
    · have e1 := conv_string wx a l c hS.2.2.1; go_simp
    simp only [Act.put, List.setIfInBounds_toArray, List.set_cons_zero, List.set_cons_succ]
    refine wpAnyH_ready (rs := [14]) (by kernel_rfl) (by simp) ?_
    refine AllReadyH.cons (o := { dst := some 82, op := Op.call { callee := Callee.value (Operand.func 14), args := #[Operand.tmp 81], argTypes := #[9] }, type := 35, pos := "law.go:73", after := #[{ on := 13, ground := Ground.data }, { on := 8, ground := Ground.chain }, { on := 8, ground := Ground.guard }], guard := some (8, true) }) rfl (fun KK hKK => ?_) AllReadyH.nil
    go_simp
    have HDM := docMake_any K w9.drew HKL.out
    with_reducible refine HDM.mono ?_
    clear HDM
    rintro e w11 ⟨db, dg, rfl, _, _, _, hd1, hd2, kk⟩
    have KD := Lib.hid (show keyIs w11 db dg K from ⟨hd1, hd2⟩)
    have hN := finv.below hH kk
    clear hH kk hd1 hd2
    refine hKK.out _ _ hN (fun hH => ?_)
    clear hKK KK hN
    try simp only [Act.put, List.setIfInBounds_toArray, List.set_cons_zero, List.set_cons_succ]
    refine wpAnyH_ready (rs := [22]) (by kernel_rfl) (by simp) ?_
    refine AllReadyH.cons (o := { dst := some 90, op := Op.call { callee := Callee.value (Operand.func 22), args := #[Operand.tmp 82, Operand.tmp 85, Operand.tmp 87, Operand.tmp 89], argTypes := #[35, 9, 3, 9] }, type := 9, pos := "law.go:73", after := #[{ on := 14, ground := Ground.data }, { on := 17, ground := Ground.data }, { on := 19, ground := Ground.data }, { on := 21, ground := Ground.data }, { on := 14, ground := Ground.chain }, { on := 8, ground := Ground.guard }], guard := some (8, true) }) rfl (fun KK hKK => ?_) AllReadyH.nil
    go_simp
    have HDH := docHide_any db dg K N l n w11 HNL.out hn40 (Nat.le_trans hFl (by decide)) KD.out
    rw [HWS.out, HTE.out] at HDH
    with_reducible refine HDH.mono ?_
    clear HDH
    rintro e w12 ⟨rfl, kk⟩
    have hN := finv.below hH kk
    have I8 := Lib.hid hN
    clear hH kk KD
    refine hKK.out _ _ hN (fun hH => ?_)
    clear hKK KK hN
    try simp only [Act.put, List.setIfInBounds_toArray, List.set_cons_zero, List.set_cons_succ]
    refine wpAnyH_take (i := 23) (oi := { dst := some 91, op := Op.binOp BinOp.eql 9 (Operand.tmp 78) (Operand.tmp 90) 9, type := 4, pos := "law.go:73", after := #[{ on := 10, ground := Ground.data }, { on := 22, ground := Ground.data }, { on := 8, ground := Ground.guard }], guard := some (8, true) }) (v := .bool true) rfl (by kernel_rfl) (by kernel_rfl) (by kernel_rfl) (fun _ _ _ h => h) (Or.inl ⟨by rfl, fun wx hS => ?_⟩) hH ?_
    · go_simp
    simp only [Act.put, List.setIfInBounds_toArray, List.set_cons_zero, List.set_cons_succ]
    refine wpAnyH_take (i := 24) (oi := { dst := some 92, op := Op.pick (Operand.tmp 76) (Operand.tmp 91) (Operand.const (Value.bool false)), type := 4, pos := "law.go:73", after := #[{ on := 8, ground := Ground.data }, { on := 23, ground := Ground.data }], guard := none }) (v := .bool true) rfl (by kernel_rfl) (by kernel_rfl) (by kernel_rfl) (fun _ _ _ h => h) (Or.inl ⟨by rfl, fun wx hS => ?_⟩) hH ?_
    · go_simp
    simp only [Act.put, List.setIfInBounds_toArray, List.set_cons_zero, List.set_cons_succ]
    refine wpAnyH_take (i := 25) (oi := { dst := some 2, op := Op.assign (Operand.tmp 92), type := 4, pos := "law.go:73", after := #[{ on := 24, ground := Ground.data }, { on := 22, ground := Ground.chain }, { on := 0, ground := Ground.phase }, { on := 1, ground := Ground.phase }, { on := 2, ground := Ground.phase }, { on := 3, ground := Ground.phase }, { on := 4, ground := Ground.phase }, { on := 5, ground := Ground.phase }, { on := 6, ground := Ground.phase }, { on := 7, ground := Ground.phase }, { on := 8, ground := Ground.phase }, { on := 9, ground := Ground.phase }, { on := 10, ground := Ground.phase }, { on := 11, ground := Ground.phase }, { on := 12, ground := Ground.phase }, { on := 13, ground := Ground.phase }, { on := 14, ground := Ground.phase }, { on := 15, ground := Ground.phase }, { on := 16, ground := Ground.phase }, { on := 17, ground := Ground.phase }, { on := 18, ground := Ground.phase }, { on := 19, ground := Ground.phase }, { on := 20, ground := Ground.phase }, { on := 21, ground := Ground.phase }, { on := 22, ground := Ground.phase }, { on := 23, ground := Ground.phase }, { on := 24, ground := Ground.phase }], guard := none }) (v := .bool true) rfl (by kernel_rfl) (by kernel_rfl) (by kernel_rfl) (fun _ _ _ h => h) (Or.inl ⟨by rfl, fun wx hS => ?_⟩) hH ?_
    · go_simp
    simp only [Act.put, List.setIfInBounds_toArray, List.set_cons_zero, List.set_cons_succ]
    refine wpAnyH_done (by kernel_rfl) ?_ _
    refine NoPanic.normal ?_
    go_wp2_with fail
    go_ret
    exact ⟨rfl, I8.out.2.2.2.2⟩
end Go.Proofs.Ytklbbeilbpcnoaa
