/- The law CipherTurns: its walk. -/
import Derived.Test.YtklbbeilbpcnoaaFtn
namespace Go.Proofs.Ytklbbeilbpcnoaa
open Go.RowKit Sha Aes

def nul16 : List UInt8 := List.replicate 16 0
theorem build16 (w : World) : (Instr.build 23 #[]).run Try.prog w = .ok (.agg (byteCells (nul16)).toArray) w := by kernel_rfl
theorem neq_zero (w : World) : (Op.equalIn 10000 23 (.agg (byteCells (nul16)).toArray) (.agg (byteCells (nul16)).toArray)).run Try.prog w = .ok true w := by
  rw [eq_blk _ _ rfl rfl]
  simp
theorem eq_same (l : List UInt8) (hl : l.length = 16) (w : World) : (Op.equalIn 10000 23 (.agg (byteCells l).toArray) (.agg (byteCells l).toArray)).run Try.prog w = .ok true w := by
  rw [eq_blk l l hl hl]
  simp
theorem nobody_any2 (w : World) : Calls Try.prog 12 #[] w fun e w' => e = .returned (.pointer none) ∧ w = w' := by
  go_enter Try.func12, Try.ntmps12
  go_wp2_with fail
  go_ret
  exact ⟨rfl, rfl⟩
theorem tin_bytes {w : World} {b : Nat} {l : List UInt8} {t : TypeId} (h : blockIs w b (byteCells l) t) : bytesIn w (some ⟨b, 0, none⟩) l := Or.inr ⟨_, _, rfl, fun j hj => by rw [Nat.zero_add, h.cell]; exact byteCells_get l j hj⟩
/-- What stands while the law runs: the key's bytes, the block, the flow, its key. -/
def trninv (w : World) (g fb : Nat) (ws : List W) (K b : List UInt8) (X : World) : Prop :=
  blockIs X w.heap.size (byteCells K) 22 ∧ blockIs X (w.heap.size + 1) (byteCells b) 23 ∧ blockIs X fb (flowCells g b 0) 65 ∧ blockIs X g (keyRow ws) 59 ∧ Below w.heap.size w X
theorem trninv.below {w X Y : World} {g fb : Nat} {ws : List W} {K b : List UInt8} (h : trninv w g fb ws K b X) (k : Below X.heap.size X Y) : trninv w g fb ws K b Y :=
  ⟨h.1.below k h.1.lt, h.2.1.below k h.2.1.lt, h.2.2.1.below k h.2.2.1.lt, h.2.2.2.1.below k h.2.2.2.1.lt, h.2.2.2.2.trans (k.mono h.2.2.2.2.size)⟩

set_option maxRecDepth 100000 in
set_option maxHeartbeats 8000000 in
theorem law_cipherTurns (K b : List UInt8) (w : World) (hK : K.length = 32) (hb : b.length = 16) :
    Calls Try.prog 3 #[.agg (byteCells K).toArray, .agg (byteCells b).toArray] w fun e w' => e = .returned (.bool true) ∧ Below w.heap.size w w' := by
  have HKL := Lib.hid hK
  have HBL := Lib.hid hb
  have HBB : Hid ((byteCells b).length = 16) := Lib.hid (by rw [byteCells_length]; exact hb)
  have D0 := Lib.hid (blockIs.new w (byteCells K) 22)
  have A0 := Lib.hid (alloc_below w (.cells (byteCells K).toArray 22 (0, 0)))
  have S0 : Hid ((w.alloc (.cells (byteCells K).toArray 22 (0, 0))).heap.size = w.heap.size + 1) := Lib.hid (by simp)
  have E2 := Lib.hid (blockIs.new (w.alloc (.cells (byteCells K).toArray 22 (0, 0))) (byteCells b) 23)
  have B1 := Lib.hid (alloc_below (w.alloc (.cells (byteCells K).toArray 22 (0, 0))) (.cells (byteCells b).toArray 23 (0, 0)))
  rw [S0.out] at E2 B1
  have D2 := Lib.hid (D0.out.below B1.out (Nat.lt_succ_self _))
  have B2 := Lib.hid (A0.out.trans (B1.out.mono (Nat.le_succ _)))
  clear D0 A0 S0 B1 hK hb
  have HM := Lib.hid (make_any (some ⟨w.heap.size, 0, none⟩) 32 K _ HKL.out (tin_bytes D2.out))
  rw [HKL.out] at HM
  go_enter Try.func3, Try.ntmps3
  go_wp2_with fail
  generalize (w.alloc (.cells (byteCells K).toArray 22 (0, 0))).alloc (.cells (byteCells b).toArray 23 (0, 0)) = w2 at *
  with_reducible refine HM.out.mono ?_
  rintro e w3 ⟨g, rfl, _, hkey, kk⟩
  have K3 := Lib.hid hkey
  have D3 := Lib.hid (D2.out.below kk D2.out.lt)
  have E3 := Lib.hid (E2.out.below kk E2.out.lt)
  have B3 := Lib.hid (B2.out.trans (kk.mono B2.out.size))
  clear hkey kk HM D2 E2 B2
  have HBG := Lib.hid (begin_ok g b w3 HBL.out)
  have RB := Lib.hid (range_of E3.out)
  obtain ⟨ws, hws⟩ : ∃ ws, ws = Aes.words K 60 := ⟨_, rfl⟩
  have HWS := Lib.hid hws.symm
  rw [← hws] at K3
  clear hws
  go_wp2_with (refine wpList_load_mid rfl 23 _ rfl (w.heap.size + 1) 0 rfl (byteCells b) _ RB.out Try.underlying23 rfl (by rw [infoBlk, HBB.out]) ?_)
  with_reducible refine HBG.out.mono ?_
  rintro e w4 ⟨fb, rfl, _, hfl, kk⟩
  have I4 : Hid (trninv w g fb ws K b w4) := Lib.hid ⟨D3.out.below kk D3.out.lt, E3.out.below kk E3.out.lt, hfl, K3.out.below kk K3.out.lt, B3.out.trans (kk.mono B3.out.size)⟩
  clear hfl kk HBG RB K3 D3 E3 B3
  go_upto_region 3 with fail
  refine wp_region_noPanic ?_
  refine wp_region_held_drew (S := fun X => trninv w g fb ws K b X) (by kernel_rfl) (I4.out.below (below_drew' (Below.refl _ _))) (fun hH => ?_)
  refine wpAnyH_ready (rs := [0]) (by kernel_rfl) (by simp) ?_
  refine AllReadyH.cons (o := { dst := some 21, op := Op.call { callee := Callee.value (Operand.func 11), args := #[], argTypes := #[] }, type := 4, pos := "law.go:30", after := #[], guard := none }) rfl (fun KK hKK => ?_) AllReadyH.nil
  go_simp
  refine (hides_any _).mono ?_
  rintro e x0 ⟨rfl, kk⟩
  have hN := trninv.below hH kk
  clear hH kk
  refine hKK.out _ _ hN (fun hH => ?_)
  clear hKK KK hN
  try simp only [Act.put, List.setIfInBounds_toArray, List.set_cons_zero, List.set_cons_succ]
  refine wpAnyH_take (i := 1) (oi := { dst := some 22, op := Op.unOp UnOp.not 4 (Operand.tmp 21), type := 4, pos := "law.go:30", after := #[{ on := 0, ground := Ground.data }], guard := none }) (v := .bool false) rfl (by kernel_rfl) (by kernel_rfl) (by kernel_rfl) (fun _ _ _ h => h) (Or.inl ⟨by rfl, fun wx hS => ?_⟩) hH ?_
  · go_simp
  simp only [Act.put, List.setIfInBounds_toArray, List.set_cons_zero, List.set_cons_succ]
  refine wpAnyH_take (i := 2) (oi := { dst := some 23, op := Op.move (Operand.tmp 22), type := 4, pos := "law.go:30", after := #[{ on := 1, ground := Ground.data }, { on := 0, ground := Ground.chain }], guard := none }) (v := .bool false) rfl (by kernel_rfl) (by kernel_rfl) (by kernel_rfl) (fun _ _ _ h => h) (Or.inl ⟨by rfl, fun wx hS => ?_⟩) hH ?_
  · go_simp
  simp only [Act.put, List.setIfInBounds_toArray, List.set_cons_zero, List.set_cons_succ]
  refine wpAnyH_take (i := 3) (oi := { dst := some 24, op := Op.move (Operand.tmp 6), type := 25, pos := "law.go:30", after := #[{ on := 2, ground := Ground.guard }], guard := some (2, false) }) (v := .int .i64 0) rfl (by kernel_rfl) (by kernel_rfl) (by kernel_rfl) (fun _ _ _ h => h) (Or.inl ⟨by rfl, fun wx hS => ?_⟩) hH ?_
  · go_simp
  simp only [Act.put, List.setIfInBounds_toArray, List.set_cons_zero, List.set_cons_succ]
  refine wpAnyH_take (i := 4) (oi := { dst := some 25, op := Op.binOp BinOp.neq 25 (Operand.tmp 24) (Operand.const (Value.int IntKind.i64 0)) 25, type := 4, pos := "law.go:30", after := #[{ on := 3, ground := Ground.data }, { on := 2, ground := Ground.guard }], guard := some (2, false) }) (v := .bool false) rfl (by kernel_rfl) (by kernel_rfl) (by kernel_rfl) (fun _ _ _ h => h) (Or.inl ⟨by rfl, fun wx hS => ?_⟩) hH ?_
  · go_simp
  simp only [Act.put, List.setIfInBounds_toArray, List.set_cons_zero, List.set_cons_succ]
  refine wpAnyH_take (i := 5) (oi := { dst := some 26, op := Op.pick (Operand.tmp 23) (Operand.const (Value.bool true)) (Operand.tmp 25), type := 4, pos := "law.go:30", after := #[{ on := 2, ground := Ground.data }, { on := 4, ground := Ground.data }], guard := none }) (v := .bool false) rfl (by kernel_rfl) (by kernel_rfl) (by kernel_rfl) (fun _ _ _ h => h) (Or.inl ⟨by rfl, fun wx hS => ?_⟩) hH ?_
  · go_simp
  simp only [Act.put, List.setIfInBounds_toArray, List.set_cons_zero, List.set_cons_succ]
  refine wpAnyH_take (i := 6) (oi := { dst := some 27, op := Op.move (Operand.tmp 26), type := 4, pos := "law.go:30", after := #[{ on := 5, ground := Ground.data }, { on := 2, ground := Ground.chain }], guard := none }) (v := .bool false) rfl (by kernel_rfl) (by kernel_rfl) (by kernel_rfl) (fun _ _ _ h => h) (Or.inl ⟨by rfl, fun wx hS => ?_⟩) hH ?_
  · go_simp
  simp only [Act.put, List.setIfInBounds_toArray, List.set_cons_zero, List.set_cons_succ]
  refine wpAnyH_take (i := 7) (oi := { dst := some 28, op := Op.move (Operand.tmp 8), type := 25, pos := "law.go:30", after := #[{ on := 6, ground := Ground.guard }], guard := some (6, false) }) (v := .int .i64 0) rfl (by kernel_rfl) (by kernel_rfl) (by kernel_rfl) (fun _ _ _ h => h) (Or.inl ⟨by rfl, fun wx hS => ?_⟩) hH ?_
  · go_simp
  simp only [Act.put, List.setIfInBounds_toArray, List.set_cons_zero, List.set_cons_succ]
  refine wpAnyH_take (i := 8) (oi := { dst := some 29, op := Op.binOp BinOp.neq 25 (Operand.tmp 28) (Operand.const (Value.int IntKind.i64 0)) 25, type := 4, pos := "law.go:30", after := #[{ on := 7, ground := Ground.data }, { on := 6, ground := Ground.guard }], guard := some (6, false) }) (v := .bool false) rfl (by kernel_rfl) (by kernel_rfl) (by kernel_rfl) (fun _ _ _ h => h) (Or.inl ⟨by rfl, fun wx hS => ?_⟩) hH ?_
  · go_simp
  simp only [Act.put, List.setIfInBounds_toArray, List.set_cons_zero, List.set_cons_succ]
  refine wpAnyH_take (i := 9) (oi := { dst := some 30, op := Op.pick (Operand.tmp 27) (Operand.const (Value.bool true)) (Operand.tmp 29), type := 4, pos := "law.go:30", after := #[{ on := 6, ground := Ground.data }, { on := 8, ground := Ground.data }], guard := none }) (v := .bool false) rfl (by kernel_rfl) (by kernel_rfl) (by kernel_rfl) (fun _ _ _ h => h) (Or.inl ⟨by rfl, fun wx hS => ?_⟩) hH ?_
  · go_simp
  simp only [Act.put, List.setIfInBounds_toArray, List.set_cons_zero, List.set_cons_succ]
  refine wpAnyH_take (i := 10) (oi := { dst := some 31, op := Op.move (Operand.tmp 30), type := 4, pos := "law.go:30", after := #[{ on := 9, ground := Ground.data }, { on := 6, ground := Ground.chain }], guard := none }) (v := .bool false) rfl (by kernel_rfl) (by kernel_rfl) (by kernel_rfl) (fun _ _ _ h => h) (Or.inl ⟨by rfl, fun wx hS => ?_⟩) hH ?_
  · go_simp
  simp only [Act.put, List.setIfInBounds_toArray, List.set_cons_zero, List.set_cons_succ]
  refine wpAnyH_take (i := 12) (oi := { dst := some 33, op := Op.load 23 (Operand.tmp 3), type := 23, pos := "law.go:30", after := #[{ on := 10, ground := Ground.guard }], guard := some (10, false) }) (v := .agg (byteCells b).toArray) rfl (by kernel_rfl) (by kernel_rfl) (by kernel_rfl) (fun _ _ _ h => h) (yieldsIf_load_mid (by rfl) 23 _ rfl (w.heap.size + 1) 0 rfl (byteCells b) _ (fun wx hS => range_of hS.2.1) Try.underlying23 rfl (by rw [infoBlk, HBB.out])) hH ?_
  simp only [Act.put, List.setIfInBounds_toArray, List.set_cons_zero, List.set_cons_succ]
  refine wpAnyH_take (i := 14) (oi := { dst := some 35, op := Op.build 23 #[], type := 23, pos := "law.go:30", after := #[{ on := 10, ground := Ground.guard }], guard := some (10, false) }) (v := .agg (byteCells (nul16)).toArray) rfl (by kernel_rfl) (by kernel_rfl) (by kernel_rfl) (fun _ _ _ h => h) (Or.inl ⟨by rfl, fun wx hS => ?_⟩) hH ?_
  · have e1 := build16 wx; (go_simp <;> rfl)
  simp only [Act.put, List.setIfInBounds_toArray, List.set_cons_zero, List.set_cons_succ]
  refine wpAnyH_ready (rs := [11]) (by kernel_rfl) (by simp) ?_
  refine AllReadyH.cons (o := { dst := some 32, op := Op.call { callee := Callee.value (Operand.func 12), args := #[], argTypes := #[] }, type := 24, pos := "law.go:30", after := #[{ on := 10, ground := Ground.chain }, { on := 10, ground := Ground.guard }], guard := some (10, false) }) rfl (fun KK hKK => ?_) AllReadyH.nil
  go_simp
  refine (nobody_any2 _).mono ?_
  rintro e x1 ⟨rfl, rfl⟩
  refine hKK.out _ _ hH (fun hH => ?_)
  clear hKK KK
  try simp only [Act.put, List.setIfInBounds_toArray, List.set_cons_zero, List.set_cons_succ]
  refine wpAnyH_ready (rs := [13]) (by kernel_rfl) (by simp) ?_
  refine AllReadyH.cons (o := { dst := some 34, op := Op.call { callee := Callee.value (Operand.func 13), args := #[Operand.tmp 32, Operand.tmp 33], argTypes := #[24, 23] }, type := 23, pos := "law.go:30", after := #[{ on := 11, ground := Ground.data }, { on := 12, ground := Ground.data }, { on := 11, ground := Ground.chain }, { on := 10, ground := Ground.guard }], guard := some (10, false) }) rfl (fun KK hKK => ?_) AllReadyH.nil
  go_simp
  refine (show Calls Try.prog 13 #[.pointer none, .agg (byteCells b).toArray] _ (fun e w' => e = .returned (.agg (byteCells nul16).toArray) ∧ Below _ _ w') from turn_nil b _ HBL.out).mono ?_
  rintro e x2 ⟨rfl, kk⟩
  have hN := trninv.below hH kk
  have I5 := Lib.hid hN
  clear hH kk
  refine hKK.out _ _ hN (fun hH => ?_)
  clear hKK KK hN
  try simp only [Act.put, List.setIfInBounds_toArray, List.set_cons_zero, List.set_cons_succ]
  refine wpAnyH_take (i := 15) (oi := { dst := some 36, op := Op.binOp BinOp.neq 23 (Operand.tmp 34) (Operand.tmp 35) 23, type := 4, pos := "law.go:30", after := #[{ on := 13, ground := Ground.data }, { on := 14, ground := Ground.data }, { on := 10, ground := Ground.guard }], guard := some (10, false) }) (v := .bool false) rfl (by kernel_rfl) (by kernel_rfl) (by kernel_rfl) (fun _ _ _ h => h) (Or.inl ⟨by rfl, fun wx hS => ?_⟩) hH ?_
  · have e1 := neq_zero wx; have e2 := egt16; go_simp
  simp only [Act.put, List.setIfInBounds_toArray, List.set_cons_zero, List.set_cons_succ]
  refine wpAnyH_take (i := 16) (oi := { dst := some 37, op := Op.pick (Operand.tmp 31) (Operand.const (Value.bool true)) (Operand.tmp 36), type := 4, pos := "law.go:30", after := #[{ on := 10, ground := Ground.data }, { on := 15, ground := Ground.data }], guard := none }) (v := .bool false) rfl (by kernel_rfl) (by kernel_rfl) (by kernel_rfl) (fun _ _ _ h => h) (Or.inl ⟨by rfl, fun wx hS => ?_⟩) hH ?_
  · go_simp
  simp only [Act.put, List.setIfInBounds_toArray, List.set_cons_zero, List.set_cons_succ]
  refine wpAnyH_done (by kernel_rfl) ?_ _
  refine NoPanic.normal ?_
  clear I4
  have RB := Lib.hid (range_of I5.out.2.1)
  go_wp2_with (refine wpList_load_mid rfl 23 _ rfl (w.heap.size + 1) 0 rfl (byteCells b) _ RB.out Try.underlying23 rfl (by rw [infoBlk, HBB.out]) ?_)
  have K5 := turn_any g ws b x2 HBL.out I5.out.2.2.2.1
  with_reducible refine K5.mono ?_
  clear K5
  rintro e w6 ⟨rfl, kk⟩
  have I6 := Lib.hid (I5.out.below kk)
  clear kk I5 RB
  obtain ⟨T, hT⟩ : ∃ T, T = Aes.turn ws b := ⟨_, rfl⟩
  rw [← hT]
  have HTE := Lib.hid hT.symm
  have HTL : Hid (T.length = 16) := Lib.hid (by rw [hT]; rfl)
  have HTB : Hid ((byteCells T).length = 16) := Lib.hid (by rw [byteCells_length]; exact HTL.out)
  clear hT
  have hz := zeroBlk
  have N6 := Lib.hid (blockIs.new w6 (zeros 16) 23)
  have J6 := Lib.hid (I6.out.below (alloc_below w6 (.cells (zeros 16).toArray 23 (0, 0))))
  have HTS : Hid (w.heap.size ≤ w6.heap.size ∧ w.heap.size ≠ w6.heap.size ∧ w.heap.size + 1 ≠ w6.heap.size ∧ fb ≠ w6.heap.size ∧ g ≠ w6.heap.size) := Lib.hid ⟨I6.out.2.2.2.2.size, Nat.ne_of_lt I6.out.1.lt, Nat.ne_of_lt I6.out.2.1.lt, Nat.ne_of_lt I6.out.2.2.1.lt, Nat.ne_of_lt I6.out.2.2.2.1.lt⟩
  go_wp2_with (refine wpList_store_block rfl 23 _ _ rfl w6.heap.size 0 (byteCells T) rfl rfl (zeros 16) 23 N6.out (by rw [infoBlk, HTB.out]) (by rw [HTB.out]; decide) (byteCells_one _) ?_)
  intro w7 h1 h2 h3
  have h1 := h1.out
  rw [splice_all _ _ (by rw [HTB.out]; decide)] at h1
  have T7 := Lib.hid h1
  have I7 : Hid (trninv w g fb ws K b w7) := Lib.hid ⟨h2.out.is J6.out.1 HTS.out.2.1, h2.out.is J6.out.2.1 HTS.out.2.2.1, h2.out.is J6.out.2.2.1 HTS.out.2.2.2.1, h2.out.is J6.out.2.2.2.1 HTS.out.2.2.2.2, J6.out.2.2.2.2.trans (h2.out.below HTS.out.1 J6.out.2.2.2.2.size)⟩
  clear h1 h2 h3 J6 I6 N6 hz HTS
  generalize w6.heap.size = tb at *
  go_upto_region 6 with fail
  refine wp_region_noPanic ?_
  refine wp_region_held_drew (S := fun X => trninv w g fb ws K b X ∧ blockIs X tb (byteCells T) 23) (by kernel_rfl) ⟨I7.out.below (below_drew' (Below.refl _ _)), T7.out⟩ (fun hH => ?_)
  refine wpAnyH_take (i := 0) (oi := { dst := some 41, op := Op.slice 23 (Operand.tmp 9) none none none, type := 28, pos := "law.go:34", after := #[], guard := none }) (v := .slice (some ⟨tb, 0, none⟩) 16 16) rfl (by kernel_rfl) (by kernel_rfl) (by kernel_rfl) (fun _ _ _ h => h) (Or.inl ⟨by rfl, fun wx hS => ?_⟩) hH ?_
  · go_simp
  simp only [Act.put, List.setIfInBounds_toArray, List.set_cons_zero, List.set_cons_succ]
  refine wpAnyH_take (i := 1) (oi := { dst := some 42, op := Op.convert 28 9 (Operand.tmp 41), type := 9, pos := "law.go:34", after := #[{ on := 0, ground := Ground.data }], guard := none }) (v := .string (str T)) rfl (by kernel_rfl) (by kernel_rfl) (by kernel_rfl) (fun _ _ _ h => h) (Or.inl ⟨by rfl, fun wx hS => ?_⟩) hH ?_
  · have e1 := conv_string wx (some ⟨tb, 0, none⟩) T 16 (tin_bytes hS.2); rw [HTL.out] at e1; go_simp
  simp only [Act.put, List.setIfInBounds_toArray, List.set_cons_zero, List.set_cons_succ]
  refine wpAnyH_take (i := 2) (oi := { dst := some 43, op := Op.slice 22 (Operand.tmp 2) none none none, type := 28, pos := "law.go:34", after := #[], guard := none }) (v := .slice (some ⟨w.heap.size, 0, none⟩) 32 32) rfl (by kernel_rfl) (by kernel_rfl) (by kernel_rfl) (fun _ _ _ h => h) (Or.inl ⟨by rfl, fun wx hS => ?_⟩) hH ?_
  · go_simp
  simp only [Act.put, List.setIfInBounds_toArray, List.set_cons_zero, List.set_cons_succ]
  refine wpAnyH_take (i := 3) (oi := { dst := some 44, op := Op.convert 28 9 (Operand.tmp 43), type := 9, pos := "law.go:34", after := #[{ on := 2, ground := Ground.data }], guard := none }) (v := .string (str K)) rfl (by kernel_rfl) (by kernel_rfl) (by kernel_rfl) (fun _ _ _ h => h) (Or.inl ⟨by rfl, fun wx hS => ?_⟩) hH ?_
  · have e1 := conv_string wx (some ⟨w.heap.size, 0, none⟩) K 32 (tin_bytes hS.1.1); rw [HKL.out] at e1; go_simp
  simp only [Act.put, List.setIfInBounds_toArray, List.set_cons_zero, List.set_cons_succ]
  refine wpAnyH_take (i := 5) (oi := { dst := some 46, op := Op.slice 23 (Operand.tmp 3) none none none, type := 28, pos := "law.go:34", after := #[], guard := none }) (v := .slice (some ⟨w.heap.size + 1, 0, none⟩) 16 16) rfl (by kernel_rfl) (by kernel_rfl) (by kernel_rfl) (fun _ _ _ h => h) (Or.inl ⟨by rfl, fun wx hS => ?_⟩) hH ?_
  · go_simp
  simp only [Act.put, List.setIfInBounds_toArray, List.set_cons_zero, List.set_cons_succ]
  refine wpAnyH_take (i := 6) (oi := { dst := some 47, op := Op.convert 28 9 (Operand.tmp 46), type := 9, pos := "law.go:34", after := #[{ on := 5, ground := Ground.data }], guard := none }) (v := .string (str b)) rfl (by kernel_rfl) (by kernel_rfl) (by kernel_rfl) (fun _ _ _ h => h) (Or.inl ⟨by rfl, fun wx hS => ?_⟩) hH ?_
  · have e1 := conv_string wx (some ⟨w.heap.size + 1, 0, none⟩) b 16 (tin_bytes hS.1.2.1); rw [HBL.out] at e1; go_simp
  simp only [Act.put, List.setIfInBounds_toArray, List.set_cons_zero, List.set_cons_succ]
  refine wpAnyH_ready (rs := [4]) (by kernel_rfl) (by simp) ?_
  refine AllReadyH.cons (o := { dst := some 45, op := Op.call { callee := Callee.value (Operand.func 14), args := #[Operand.tmp 44], argTypes := #[9] }, type := 35, pos := "law.go:34", after := #[{ on := 3, ground := Ground.data }], guard := none }) rfl (fun KK hKK => ?_) AllReadyH.nil
  go_simp
  refine (docMake_any K _ HKL.out).mono ?_
  rintro e x1 ⟨db, dg, rfl, _, _, _, hd1, hd2, kk⟩
  have KD := Lib.hid (show keyIs x1 db dg K from ⟨hd1, hd2⟩)
  have hN := (⟨hH.1.below kk, hH.2.below kk hH.2.lt⟩ : trninv w g fb ws K b x1 ∧ blockIs x1 tb (byteCells T) 23)
  clear hH kk hd1 hd2
  refine hKK.out _ _ hN (fun hH => ?_)
  clear hKK KK hN
  try simp only [Act.put, List.setIfInBounds_toArray, List.set_cons_zero, List.set_cons_succ]
  refine wpAnyH_ready (rs := [7]) (by kernel_rfl) (by simp) ?_
  refine AllReadyH.cons (o := { dst := some 48, op := Op.call { callee := Callee.value (Operand.func 15), args := #[Operand.tmp 45, Operand.tmp 47], argTypes := #[35, 9] }, type := 9, pos := "law.go:34", after := #[{ on := 4, ground := Ground.data }, { on := 6, ground := Ground.data }, { on := 4, ground := Ground.chain }], guard := none }) rfl (fun KK hKK => ?_) AllReadyH.nil
  go_simp
  refine (docTurn_any db dg K b _ HBL.out KD.out).mono ?_
  rw [HWS.out, HTE.out]
  rintro e x2 ⟨rfl, kk⟩
  have hN := (⟨hH.1.below kk, hH.2.below kk hH.2.lt⟩ : trninv w g fb ws K b x2 ∧ blockIs x2 tb (byteCells T) 23)
  clear hH kk KD
  refine hKK.out _ _ hN (fun hH => ?_)
  clear hKK KK hN
  try simp only [Act.put, List.setIfInBounds_toArray, List.set_cons_zero, List.set_cons_succ]
  refine wpAnyH_take (i := 8) (oi := { dst := some 49, op := Op.binOp BinOp.eql 9 (Operand.tmp 42) (Operand.tmp 48) 9, type := 4, pos := "law.go:34", after := #[{ on := 1, ground := Ground.data }, { on := 7, ground := Ground.data }], guard := none }) (v := .bool true) rfl (by kernel_rfl) (by kernel_rfl) (by kernel_rfl) (fun _ _ _ h => h) (Or.inl ⟨by rfl, fun wx hS => ?_⟩) hH ?_
  · go_simp
  simp only [Act.put, List.setIfInBounds_toArray, List.set_cons_zero, List.set_cons_succ]
  refine wpAnyH_take (i := 9) (oi := { dst := some 50, op := Op.move (Operand.tmp 49), type := 4, pos := "law.go:34", after := #[{ on := 8, ground := Ground.data }, { on := 7, ground := Ground.chain }], guard := none }) (v := .bool true) rfl (by kernel_rfl) (by kernel_rfl) (by kernel_rfl) (fun _ _ _ h => h) (Or.inl ⟨by rfl, fun wx hS => ?_⟩) hH ?_
  · go_simp
  simp only [Act.put, List.setIfInBounds_toArray, List.set_cons_zero, List.set_cons_succ]
  refine wpAnyH_take (i := 10) (oi := { dst := some 51, op := Op.move (Operand.tmp 7), type := 29, pos := "law.go:34", after := #[{ on := 9, ground := Ground.guard }], guard := some (9, true) }) (v := .pointer (some ⟨fb, 0, none⟩)) rfl (by kernel_rfl) (by kernel_rfl) (by kernel_rfl) (fun _ _ _ h => h) (Or.inl ⟨by rfl, fun wx hS => ?_⟩) hH ?_
  · go_simp
  simp only [Act.put, List.setIfInBounds_toArray, List.set_cons_zero, List.set_cons_succ]
  refine wpAnyH_take (i := 11) (oi := { dst := some 52, op := Op.load 23 (Operand.tmp 3), type := 23, pos := "law.go:34", after := #[{ on := 9, ground := Ground.guard }], guard := some (9, true) }) (v := .agg (byteCells b).toArray) rfl (by kernel_rfl) (by kernel_rfl) (by kernel_rfl) (fun _ _ _ h => h) (yieldsIf_load_mid (by rfl) 23 _ rfl (w.heap.size + 1) 0 rfl (byteCells b) _ (fun wx hS => range_of hS.1.2.1) Try.underlying23 rfl (by rw [infoBlk, HBB.out])) hH ?_
  simp only [Act.put, List.setIfInBounds_toArray, List.set_cons_zero, List.set_cons_succ]
  refine wpAnyH_take (i := 13) (oi := { dst := some 54, op := Op.load 23 (Operand.tmp 9), type := 23, pos := "law.go:34", after := #[{ on := 9, ground := Ground.guard }], guard := some (9, true) }) (v := .agg (byteCells T).toArray) rfl (by kernel_rfl) (by kernel_rfl) (by kernel_rfl) (fun _ _ _ h => h) (yieldsIf_load_mid (by rfl) 23 _ rfl tb 0 rfl (byteCells T) _ (fun wx hS => range_of hS.2) Try.underlying23 rfl (by rw [infoBlk, HTB.out])) hH ?_
  simp only [Act.put, List.setIfInBounds_toArray, List.set_cons_zero, List.set_cons_succ]
  refine wpAnyH_ready (rs := [12]) (by kernel_rfl) (by simp) ?_
  refine AllReadyH.cons (o := { dst := some 53, op := Op.call { callee := Callee.value (Operand.func 16), args := #[Operand.tmp 51, Operand.tmp 52], argTypes := #[29, 23] }, type := 23, pos := "law.go:34", after := #[{ on := 10, ground := Ground.data }, { on := 11, ground := Ground.data }, { on := 9, ground := Ground.chain }, { on := 9, ground := Ground.guard }], guard := some (9, true) }) rfl (fun KK hKK => ?_) AllReadyH.nil
  go_simp
  refine (flowTurn_any fb g ws b b 0 _ HBL.out hH.1.2.2.1 hH.1.2.2.2.1).mono ?_
  rw [HTE.out]
  rintro e x3 ⟨rfl, kk⟩
  have hN := (⟨hH.1.below kk, hH.2.below kk hH.2.lt⟩ : trninv w g fb ws K b x3 ∧ blockIs x3 tb (byteCells T) 23)
  have I8 := Lib.hid hN.1
  clear hH kk
  refine hKK.out _ _ hN (fun hH => ?_)
  clear hKK KK hN
  try simp only [Act.put, List.setIfInBounds_toArray, List.set_cons_zero, List.set_cons_succ]
  refine wpAnyH_take (i := 14) (oi := { dst := some 55, op := Op.binOp BinOp.eql 23 (Operand.tmp 53) (Operand.tmp 54) 23, type := 4, pos := "law.go:34", after := #[{ on := 12, ground := Ground.data }, { on := 13, ground := Ground.data }, { on := 9, ground := Ground.guard }], guard := some (9, true) }) (v := .bool true) rfl (by kernel_rfl) (by kernel_rfl) (by kernel_rfl) (fun _ _ _ h => h) (Or.inl ⟨by rfl, fun wx hS => ?_⟩) hH ?_
  · have e1 := eq_same T HTL.out wx; have e2 := egt16; go_simp
  simp only [Act.put, List.setIfInBounds_toArray, List.set_cons_zero, List.set_cons_succ]
  refine wpAnyH_take (i := 15) (oi := { dst := some 56, op := Op.pick (Operand.tmp 50) (Operand.tmp 55) (Operand.const (Value.bool false)), type := 4, pos := "law.go:34", after := #[{ on := 9, ground := Ground.data }, { on := 14, ground := Ground.data }], guard := none }) (v := .bool true) rfl (by kernel_rfl) (by kernel_rfl) (by kernel_rfl) (fun _ _ _ h => h) (Or.inl ⟨by rfl, fun wx hS => ?_⟩) hH ?_
  · go_simp
  simp only [Act.put, List.setIfInBounds_toArray, List.set_cons_zero, List.set_cons_succ]
  refine wpAnyH_take (i := 16) (oi := { dst := some 4, op := Op.assign (Operand.tmp 56), type := 4, pos := "law.go:34", after := #[{ on := 15, ground := Ground.data }, { on := 12, ground := Ground.chain }, { on := 0, ground := Ground.phase }, { on := 1, ground := Ground.phase }, { on := 2, ground := Ground.phase }, { on := 3, ground := Ground.phase }, { on := 4, ground := Ground.phase }, { on := 5, ground := Ground.phase }, { on := 6, ground := Ground.phase }, { on := 7, ground := Ground.phase }, { on := 8, ground := Ground.phase }, { on := 9, ground := Ground.phase }, { on := 10, ground := Ground.phase }, { on := 11, ground := Ground.phase }, { on := 12, ground := Ground.phase }, { on := 13, ground := Ground.phase }, { on := 14, ground := Ground.phase }, { on := 15, ground := Ground.phase }], guard := none }) (v := .bool true) rfl (by kernel_rfl) (by kernel_rfl) (by kernel_rfl) (fun _ _ _ h => h) (Or.inl ⟨by rfl, fun wx hS => ?_⟩) hH ?_
  · go_simp
  simp only [Act.put, List.setIfInBounds_toArray, List.set_cons_zero, List.set_cons_succ]
  refine wpAnyH_done (by kernel_rfl) ?_ _
  refine NoPanic.normal ?_
  go_wp2_with fail
  go_ret
  exact ⟨rfl, I8.out.2.2.2.2⟩
end Go.Proofs.Ytklbbeilbpcnoaa
