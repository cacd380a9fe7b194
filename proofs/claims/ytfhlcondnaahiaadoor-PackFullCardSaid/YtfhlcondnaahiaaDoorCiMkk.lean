/- cipher.Make: a key is made ready. -/
import Derived.Test.YtfhlcondnaahiaaDoorTk
import Derived.Test.YtfhlcondnaahiaaDoorGh
namespace Go.Proofs.YtfhlcondnaahiaaDoor.Ci
open Go.RowKit Sha Aes
attribute [local go_sem] U_xor U_shlw1 U_shl1

theorem sbox_length : sbox.length = 256 := by decide +kernel
/-- A key's cells: the table, and the words that there are. -/
def keyRow (s : List W) : List Value := byteCells sbox ++ cells32 (fill32 s) 60
theorem keyRow_length (s : List W) : (keyRow s).length = 316 := by
  unfold keyRow
  rw [List.length_append, byteCells_length, cells32_length, sbox_length]
theorem keyRow_set (s : List W) (k : Nat) (hs : s.length = k) (hk : k < 60) (x : W) : (keyRow s).set (256 + k) (.int .u32 (U x)) = keyRow (s ++ [x]) := by
  subst hs
  unfold keyRow
  have hl : (byteCells sbox).length = 256 := by rw [byteCells_length, sbox_length]
  rw [List.set_append_right _ _ (by omega), hl, Nat.add_sub_cancel_left, cells32_fill_set _ _ hk]
theorem keyRow_get (s : List W) (j : Nat) (hj : j < 60) : (keyRow s)[256 + j]? = some (.int .u32 (U (s.getD j 0))) := by
  unfold keyRow
  have hl : (byteCells sbox).length = 256 := by rw [byteCells_length, sbox_length]
  rw [List.getElem?_append_right (by omega), hl, Nat.add_sub_cancel_left, cells32_get _ _ _ hj]
  rfl
theorem keyRow_box {w : World} {g : Nat} {s : List W} {t : TypeId} (h : blockIs w g (keyRow s) t) : boxAt w g := fun b => by
  have hb := b.toNat_lt
  have hl : sbox.length = 256 := sbox_length
  rw [h.cell]
  unfold keyRow
  rw [List.getElem?_append_left (by rw [byteCells_length]; omega), byteCells_get _ _ (by omega)]
  rfl
theorem buildKey (w : World) : (Instr.build 182 #[(0, .agg (byteCells sbox).toArray)]).run Tryd.prog w = .ok (.agg (keyRow []).toArray) w := by kernel_rfl
theorem words_lo8 (K : List UInt8) (k : Nat) (h : k < 8) : Aes.words K (k + 1) = Aes.words K k ++ [wordAt K k] := by rw [Aes.words, if_pos h]
theorem words_hi8 (K : List UInt8) (k : Nat) (h : ¬ k < 8) : Aes.words K (k + 1) = Aes.words K k ++ [(Aes.words K k).getD (k - 8) 0 ^^^ nextWord (Aes.words K k) k] := by rw [Aes.words, if_neg h]
def onceAt (k : Nat) : W := (1 : W) <<< ((k + 7) / 8 + 23)
theorem once_same (k : Nat) (h : ¬ k % 8 = 0) : onceAt (k + 1) = onceAt k := by
  unfold onceAt
  congr 2
  omega
theorem once_next (k : Nat) (h : k % 8 = 0) : onceAt (k + 1) = onceAt k <<< 1 := by
  unfold onceAt
  rw [← BitVec.shiftLeft_add]
  congr 1
  omega
theorem once_at (k : Nat) (h : k % 8 = 0) : onceAt k = (1 : W) <<< (k / 8 + 23) := by
  unfold onceAt
  congr 2
  omega
theorem cell_past {w : World} {g o : Nat} {v : Value} (h : w.cell? ⟨g, o, none⟩ = some v) (o' : Nat) (x : Value) (hne : o ≠ o') : (w.setCell ⟨g, o', none⟩ x).cell? ⟨g, o, none⟩ = some v := by
  rw [← h]
  exact World.cell?_setCell_other (h := by intro e; cases e; exact hne rfl) ..

set_option maxRecDepth 100000 in
set_option maxHeartbeats 2000000 in
theorem make_any (a : Option Addr) (c : Nat) (K : List UInt8) (w : World) (hK : K.length = 32) (hin : bytesIn w a K) :
    Calls Tryd.prog 81 #[.slice a K.length c] w fun e w' => ∃ g, e = .returned (.tuple #[.pointer (some ⟨g, 0, none⟩), .int .i64 0]) ∧ w.heap.size ≤ g ∧ blockIs w' g (keyRow (Aes.words K 60)) 182 ∧ Below w.heap.size w w' := by
  have e1 : (K.length : Int) = 32 := by omega
  rcases hin with h0 | ⟨ab, ao, rfl, hin⟩
  · rw [h0] at hK; cases hK
  have HIN := Lib.hid hin
  clear hin
  go_enter Tryd.func81, Tryd.ntmps81
  go_wp2_with fail
  refine (swaps_any w).mono ?_
  rintro e w1 ⟨rfl, k1⟩
  have K1 := Lib.hid k1
  clear k1
  have hbk := buildKey
  have G1 := Lib.hid (blockIs.new w1 (keyRow []) 182)
  have K2 := Lib.hid (K1.out.trans ((alloc_below w1 (.cells (keyRow []).toArray 182 (0, 0))).mono K1.out.size))
  have HG : Hid (w.heap.size ≤ w1.heap.size) := Lib.hid K1.out.size
  generalize byteCells sbox = SB at hbk ⊢
  go_wp2_with (refine wpList_build rfl 182 _ rfl _ _ (hbk _) rfl ?_)
  generalize hw2 : w1.alloc (.cells (keyRow []).toArray 182 (0, 0)) = w2 at *
  generalize w1.heap.size = g at *
  clear K1 hbk
  go_loopw [15] (fun i wr => ∃ k : Nat, k ≤ 8 ∧ i = .int .i64 k ∧ blockIs wr g (keyRow (Aes.words K k)) 182 ∧ Below w.heap.size w wr) (fun i _ => 8 - (intOf i).toNat)
  case atStart => exact ⟨0, by omega, rfl, G1.out, K2.out⟩
  case round =>
    obtain ⟨k, hk, rfl, h1, h2⟩ := hrel
    have H1 := Lib.hid h1
    have H2 := Lib.hid h2
    clear h1 h2
    by_cases hlt : k < 8
    · have q : (k : Int) < 8 := by omega
      go_upto_region 7 with fail
      have HB : Hid (∀ X : World, Below w.heap.size w X → ∀ j, j < 32 → X.cell? ⟨ab, ao + j, none⟩ = some (.int .u8 (V (K.getD j 0)))) := Lib.hid (fun X hX j hj => (hX.cell (p := ⟨ab, ao + j, none⟩) (block_lt_of_cell (HIN.out j (by omega)))).trans (HIN.out j (by omega)))
      have m4 : IntKind.i64.wrap (4 * (k : Int)) = 4 * (k : Int) := IntWalk.i64_in _ (by omega)
      have m41 : IntKind.i64.wrap (4 * (k : Int) + 1) = 4 * (k : Int) + 1 := IntWalk.i64_in _ (by omega)
      have m42 : IntKind.i64.wrap (4 * (k : Int) + 2) = 4 * (k : Int) + 2 := IntWalk.i64_in _ (by omega)
      have m43 : IntKind.i64.wrap (4 * (k : Int) + 3) = 4 * (k : Int) + 3 := IntWalk.i64_in _ (by omega)
      have p40 : 0 ≤ 4 * (k : Int) := by omega
      have q40 : 4 * (k : Int) < 32 := by omega
      have t40 : (4 * (k : Int)).toNat = 4 * k := by omega
      have p41 : 0 ≤ 4 * (k : Int) + 1 := by omega
      have q41 : 4 * (k : Int) + 1 < 32 := by omega
      have t41 : (4 * (k : Int) + 1).toNat = 4 * k + 1 := by omega
      have p42 : 0 ≤ 4 * (k : Int) + 2 := by omega
      have q42 : 4 * (k : Int) + 2 < 32 := by omega
      have t42 : (4 * (k : Int) + 2).toNat = 4 * k + 2 := by omega
      have p43 : 0 ≤ 4 * (k : Int) + 3 := by omega
      have q43 : 4 * (k : Int) + 3 < 32 := by omega
      have t43 : (4 * (k : Int) + 3).toNat = 4 * k + 3 := by omega
      have pk : 0 ≤ (k : Int) := by omega
      have qk : (k : Int) < 60 := by omega
      refine wp_region_noPanic ?_
      refine wp_region_held_drew (S := fun w' => Below w.heap.size w w') (by kernel_rfl) (below_drewN' H2.out 1) (fun hH => ?_)
      refine tk (i := 0) (oi := { dst := some 18, op := Op.move (Operand.tmp 4), type := 153, pos := "key.go:27", after := #[], guard := none }) (v := .pointer (some ⟨g, 0, none⟩)) rfl (fun wx hS => ?_) hH ?_
      · go_simp
      refine tk (i := 1) (oi := { dst := some 19, op := Op.move (Operand.tmp 5), type := 3, pos := "key.go:27", after := #[], guard := none }) (v := .int .i64 (k : Int)) rfl (fun wx hS => ?_) hH ?_
      · go_simp
      refine tk (i := 2) (oi := { dst := some 20, op := Op.move (Operand.tmp 0), type := 30, pos := "key.go:27", after := #[], guard := none }) (v := .slice (some ⟨ab, ao, none⟩) 32 c) rfl (fun wx hS => ?_) hH ?_
      · go_simp
      refine tk (i := 3) (oi := { dst := some 21, op := Op.move (Operand.tmp 5), type := 3, pos := "key.go:27", after := #[], guard := none }) (v := .int .i64 (k : Int)) rfl (fun wx hS => ?_) hH ?_
      · go_simp
      refine tk (i := 4) (oi := { dst := some 22, op := Op.binOp BinOp.mul 3 (Operand.const (Value.int IntKind.i64 4)) (Operand.tmp 21) 3, type := 3, pos := "key.go:27", after := #[⟨3, .data⟩], guard := none }) (v := .int .i64 (4 * (k : Int))) rfl (fun wx hS => ?_) hH ?_
      · have e1 := m4; go_simp
      refine tk (i := 5) (oi := { dst := some 23, op := Op.indexAddr 30 (Operand.tmp 20) (Operand.tmp 22), type := 0, pos := "key.go:27", after := #[⟨2, .data⟩, ⟨4, .data⟩], guard := none }) (v := .pointer (some ⟨ab, ao + (4 * k), none⟩)) rfl (fun wx hS => ?_) hH ?_
      · have e1 := p40; have e2 := q40; have e3 := t40; go_simp
      refine tk (i := 6) (oi := { dst := some 24, op := Op.load 5 (Operand.tmp 23), type := 5, pos := "key.go:27", after := #[⟨5, .data⟩], guard := none }) (v := .int .u8 (V (K.getD (4 * k) 0))) rfl (fun wx hS => ?_) hH ?_
      · have e1 := HB.out wx hS (4 * k) (by omega); go_simp
      refine tk (i := 7) (oi := { dst := some 25, op := Op.move (Operand.tmp 0), type := 30, pos := "key.go:27", after := #[], guard := none }) (v := .slice (some ⟨ab, ao, none⟩) 32 c) rfl (fun wx hS => ?_) hH ?_
      · go_simp
      refine tk (i := 8) (oi := { dst := some 26, op := Op.move (Operand.tmp 5), type := 3, pos := "key.go:27", after := #[], guard := none }) (v := .int .i64 (k : Int)) rfl (fun wx hS => ?_) hH ?_
      · go_simp
      refine tk (i := 9) (oi := { dst := some 27, op := Op.binOp BinOp.mul 3 (Operand.const (Value.int IntKind.i64 4)) (Operand.tmp 26) 3, type := 3, pos := "key.go:27", after := #[⟨8, .data⟩], guard := none }) (v := .int .i64 (4 * (k : Int))) rfl (fun wx hS => ?_) hH ?_
      · have e1 := m4; go_simp
      refine tk (i := 10) (oi := { dst := some 28, op := Op.binOp BinOp.add 3 (Operand.tmp 27) (Operand.const (Value.int IntKind.i64 1)) 3, type := 3, pos := "key.go:27", after := #[⟨9, .data⟩], guard := none }) (v := .int .i64 (4 * (k : Int) + 1)) rfl (fun wx hS => ?_) hH ?_
      · have e1 := m41; go_simp
      refine tk (i := 11) (oi := { dst := some 29, op := Op.indexAddr 30 (Operand.tmp 25) (Operand.tmp 28), type := 0, pos := "key.go:27", after := #[⟨7, .data⟩, ⟨10, .data⟩], guard := none }) (v := .pointer (some ⟨ab, ao + (4 * k + 1), none⟩)) rfl (fun wx hS => ?_) hH ?_
      · have e1 := p41; have e2 := q41; have e3 := t41; go_simp
      refine tk (i := 12) (oi := { dst := some 30, op := Op.load 5 (Operand.tmp 29), type := 5, pos := "key.go:27", after := #[⟨11, .data⟩], guard := none }) (v := .int .u8 (V (K.getD (4 * k + 1) 0))) rfl (fun wx hS => ?_) hH ?_
      · have e1 := HB.out wx hS (4 * k + 1) (by omega); go_simp
      refine tk (i := 13) (oi := { dst := some 31, op := Op.move (Operand.tmp 0), type := 30, pos := "key.go:27", after := #[], guard := none }) (v := .slice (some ⟨ab, ao, none⟩) 32 c) rfl (fun wx hS => ?_) hH ?_
      · go_simp
      refine tk (i := 14) (oi := { dst := some 32, op := Op.move (Operand.tmp 5), type := 3, pos := "key.go:27", after := #[], guard := none }) (v := .int .i64 (k : Int)) rfl (fun wx hS => ?_) hH ?_
      · go_simp
      refine tk (i := 15) (oi := { dst := some 33, op := Op.binOp BinOp.mul 3 (Operand.const (Value.int IntKind.i64 4)) (Operand.tmp 32) 3, type := 3, pos := "key.go:27", after := #[⟨14, .data⟩], guard := none }) (v := .int .i64 (4 * (k : Int))) rfl (fun wx hS => ?_) hH ?_
      · have e1 := m4; go_simp
      refine tk (i := 16) (oi := { dst := some 34, op := Op.binOp BinOp.add 3 (Operand.tmp 33) (Operand.const (Value.int IntKind.i64 2)) 3, type := 3, pos := "key.go:27", after := #[⟨15, .data⟩], guard := none }) (v := .int .i64 (4 * (k : Int) + 2)) rfl (fun wx hS => ?_) hH ?_
      · have e1 := m42; go_simp
      refine tk (i := 17) (oi := { dst := some 35, op := Op.indexAddr 30 (Operand.tmp 31) (Operand.tmp 34), type := 0, pos := "key.go:27", after := #[⟨13, .data⟩, ⟨16, .data⟩], guard := none }) (v := .pointer (some ⟨ab, ao + (4 * k + 2), none⟩)) rfl (fun wx hS => ?_) hH ?_
      · have e1 := p42; have e2 := q42; have e3 := t42; go_simp
      refine tk (i := 18) (oi := { dst := some 36, op := Op.load 5 (Operand.tmp 35), type := 5, pos := "key.go:27", after := #[⟨17, .data⟩], guard := none }) (v := .int .u8 (V (K.getD (4 * k + 2) 0))) rfl (fun wx hS => ?_) hH ?_
      · have e1 := HB.out wx hS (4 * k + 2) (by omega); go_simp
      refine tk (i := 19) (oi := { dst := some 37, op := Op.move (Operand.tmp 0), type := 30, pos := "key.go:27", after := #[], guard := none }) (v := .slice (some ⟨ab, ao, none⟩) 32 c) rfl (fun wx hS => ?_) hH ?_
      · go_simp
      refine tk (i := 20) (oi := { dst := some 38, op := Op.move (Operand.tmp 5), type := 3, pos := "key.go:27", after := #[], guard := none }) (v := .int .i64 (k : Int)) rfl (fun wx hS => ?_) hH ?_
      · go_simp
      refine tk (i := 21) (oi := { dst := some 39, op := Op.binOp BinOp.mul 3 (Operand.const (Value.int IntKind.i64 4)) (Operand.tmp 38) 3, type := 3, pos := "key.go:27", after := #[⟨20, .data⟩], guard := none }) (v := .int .i64 (4 * (k : Int))) rfl (fun wx hS => ?_) hH ?_
      · have e1 := m4; go_simp
      refine tk (i := 22) (oi := { dst := some 40, op := Op.binOp BinOp.add 3 (Operand.tmp 39) (Operand.const (Value.int IntKind.i64 3)) 3, type := 3, pos := "key.go:27", after := #[⟨21, .data⟩], guard := none }) (v := .int .i64 (4 * (k : Int) + 3)) rfl (fun wx hS => ?_) hH ?_
      · have e1 := m43; go_simp
      refine tk (i := 23) (oi := { dst := some 41, op := Op.indexAddr 30 (Operand.tmp 37) (Operand.tmp 40), type := 0, pos := "key.go:27", after := #[⟨19, .data⟩, ⟨22, .data⟩], guard := none }) (v := .pointer (some ⟨ab, ao + (4 * k + 3), none⟩)) rfl (fun wx hS => ?_) hH ?_
      · have e1 := p43; have e2 := q43; have e3 := t43; go_simp
      refine tk (i := 24) (oi := { dst := some 42, op := Op.load 5 (Operand.tmp 41), type := 5, pos := "key.go:27", after := #[⟨23, .data⟩], guard := none }) (v := .int .u8 (V (K.getD (4 * k + 3) 0))) rfl (fun wx hS => ?_) hH ?_
      · have e1 := HB.out wx hS (4 * k + 3) (by omega); go_simp
      refine tk (i := 26) (oi := { dst := some 44, op := Op.nilCheck (Operand.tmp 18), type := 0, pos := "key.go:27", after := #[⟨0, .data⟩], guard := none }) (v := .pointer (some ⟨g, 0, none⟩)) rfl (fun wx hS => ?_) hH ?_
      · go_simp
      refine tk (i := 27) (oi := { dst := some 45, op := Op.fieldAddr 182 (Operand.tmp 44) 1, type := 0, pos := "key.go:27", after := #[⟨26, .data⟩], guard := none }) (v := .pointer (some ⟨g, 256, none⟩)) rfl (fun wx hS => ?_) hH ?_
      · go_simp
      refine wpAnyH_ready (rs := [25]) (by kernel_rfl) (by simp) ?_
      refine AllReadyH.cons (o := { dst := some 43, op := Op.call { callee := Callee.value (Operand.func 98), args := #[Operand.tmp 24, Operand.tmp 30, Operand.tmp 36, Operand.tmp 42], argTypes := #[5, 5, 5, 5] }, type := 131, pos := "key.go:27", after := #[⟨6, .data⟩, ⟨12, .data⟩, ⟨18, .data⟩, ⟨24, .data⟩], guard := none }) rfl (fun KK hKK => ?_) AllReadyH.nil
      go_simp
      refine (word_any _ _ _ _ _).mono ?_
      rintro e x1 ⟨rfl, rfl⟩
      refine hKK.out _ _ hH (fun hH => ?_)
      clear hKK KK
      try simp only [Act.put, List.setIfInBounds_toArray, List.set_cons_zero, List.set_cons_succ]
      refine tk (i := 28) (oi := { dst := some 46, op := Op.indexAddr 180 (Operand.tmp 45) (Operand.tmp 19), type := 0, pos := "key.go:27", after := #[⟨27, .data⟩, ⟨1, .data⟩, ⟨0, .phase⟩, ⟨1, .phase⟩, ⟨2, .phase⟩, ⟨3, .phase⟩, ⟨4, .phase⟩, ⟨5, .phase⟩, ⟨6, .phase⟩, ⟨7, .phase⟩, ⟨8, .phase⟩, ⟨9, .phase⟩, ⟨10, .phase⟩, ⟨11, .phase⟩, ⟨12, .phase⟩, ⟨13, .phase⟩, ⟨14, .phase⟩, ⟨15, .phase⟩, ⟨16, .phase⟩, ⟨17, .phase⟩, ⟨18, .phase⟩, ⟨19, .phase⟩, ⟨20, .phase⟩, ⟨21, .phase⟩, ⟨22, .phase⟩, ⟨23, .phase⟩, ⟨24, .phase⟩, ⟨25, .phase⟩], guard := none }) (v := .pointer (some ⟨g, 256 + k, none⟩)) rfl (fun wx hS => ?_) hH ?_
      · have e1 := pk; have e2 := qk; go_simp
      have c1 : wr.drew.cell? ⟨g, 256 + k, none⟩ = some _ := H1.out.at (256 + k) (by rw [keyRow_length]; omega)
      have c2 : wr.drew.frozen? ⟨g, 256 + k, none⟩ = false := H1.out.free (256 + k)
      have hN : Below w.heap.size w (wr.drew.setCell ⟨g, 256 + k, none⟩ (.int .u32 (U (word (K.getD (4 * k) 0) (K.getD (4 * k + 1) 0) (K.getD (4 * k + 2) 0) (K.getD (4 * k + 3) 0))))) := hH.setCell HG.out _
      clear hH
      refine wpAnyH_ready (rs := [29]) (by kernel_rfl) (by simp) ?_
      refine AllReadyH.cons (o := { dst := none, op := Op.store 131 (Operand.tmp 46) (Operand.tmp 43), type := 0, pos := "key.go:27", after := #[⟨28, .data⟩, ⟨25, .data⟩, ⟨25, .chain⟩, ⟨0, .phase⟩, ⟨1, .phase⟩, ⟨2, .phase⟩, ⟨3, .phase⟩, ⟨4, .phase⟩, ⟨5, .phase⟩, ⟨6, .phase⟩, ⟨7, .phase⟩, ⟨8, .phase⟩, ⟨9, .phase⟩, ⟨10, .phase⟩, ⟨11, .phase⟩, ⟨12, .phase⟩, ⟨13, .phase⟩, ⟨14, .phase⟩, ⟨15, .phase⟩, ⟨16, .phase⟩, ⟨17, .phase⟩, ⟨18, .phase⟩, ⟨19, .phase⟩, ⟨20, .phase⟩, ⟨21, .phase⟩, ⟨22, .phase⟩, ⟨23, .phase⟩, ⟨24, .phase⟩, ⟨25, .phase⟩], guard := none }) rfl (fun KK hKK => ?_) AllReadyH.nil
      go_simp
      refine hKK.out _ _ hN (fun hH => ?_)
      clear hKK KK
      try simp only [Act.put, List.setIfInBounds_toArray, List.set_cons_zero, List.set_cons_succ]
      refine wpAnyH_done (by kernel_rfl) ?_ _
      refine NoPanic.normal ?_
      go_wp2_with fail
      go_roundw
      case rel =>
        refine ⟨k + 1, by omega, by go_num, ?_, hN⟩
        have := H1.out.set (256 + k) (.int .u32 (U (wordAt K k)))
        rw [keyRow_set _ _ (Aes.words_length K k) (by omega), ← words_lo8 K k hlt] at this
        exact this
      case measure => simp [intOf]; omega
    · obtain rfl : k = 8 := by omega
      go_wp2_with fail
      have HW : Hid (U (onceAt 8) = 16777216) := Lib.hid rfl
      rw [← HW.out]
      clear HW
      go_loopw [7, 6] (fun i o wx => ∃ k : Nat, 8 ≤ k ∧ k ≤ 60 ∧ i = .int .i64 k ∧ o = .int .u32 (U (onceAt k)) ∧ blockIs wx g (keyRow (Aes.words K k)) 182 ∧ Below w.heap.size w wx) (fun i _ _ => 60 - (intOf i).toNat)
      case atStart => exact ⟨8, by omega, by omega, rfl, rfl, H1.out, H2.out⟩
      case round =>
        obtain ⟨k, hk8, hk, rfl, rfl, h1, h2⟩ := hrel
        have H1 := Lib.hid h1
        have H2' := Lib.hid h2
        clear h1 h2
        by_cases hlt : k < 60
        · have q : (k : Int) < 60 := by omega
          have HSL : Hid ((Aes.words K k).length = k) := Lib.hid (Aes.words_length K k)
          have HV0 : Hid (∀ v, v = nextWord (Aes.words K k) k → Aes.words K k ++ [(Aes.words K k).getD (k - 8) 0 ^^^ v] = Aes.words K (k + 1)) := Lib.hid (fun v hv => by rw [words_hi8 K k (by omega), hv])
          generalize Aes.words K k = s at *
          have m1 : IntKind.i64.wrap ((k : Int) - 1) = (k : Int) - 1 := IntWalk.i64_in _ (by omega)
          have p1 : 0 ≤ (k : Int) - 1 := by omega
          have q1 : (k : Int) - 1 < 60 := by omega
          have t1 : ((k : Int) - 1).toNat = k - 1 := by omega
          have m8 : IntKind.i64.wrap ((k : Int) - 8) = (k : Int) - 8 := IntWalk.i64_in _ (by omega)
          have p8 : 0 ≤ (k : Int) - 8 := by omega
          have q8 : (k : Int) - 8 < 60 := by omega
          have t8 : ((k : Int) - 8).toNat = k - 8 := by omega
          have pk : 0 ≤ (k : Int) := by omega
          have nk : ¬ (k : Int) < 8 := by omega
          have qk : (k : Int) < 60 := by omega
          obtain ⟨pw, hpw⟩ : ∃ pw : W, pw = s.getD (k - 1) 0 := ⟨_, rfl⟩
          obtain ⟨ew, hew⟩ : ∃ ew : W, ew = s.getD (k - 8) 0 := ⟨_, rfl⟩
          rw [← hew] at HV0
          have HEW := Lib.hid hew
          clear hew
          have c0 : wr.cell? ⟨g, 256 + (k - 1), none⟩ = some (.int .u32 (U pw)) := by rw [H1.out.cell, hpw]; exact keyRow_get s (k - 1) (by omega)
          have HPW := Lib.hid hpw
          clear hpw
          have HP := Lib.hid (fun (a b c d : W) => pick_any g a b c d wr (keyRow_box H1.out))
          by_cases z0 : k % 8 = 0
          · have z1 : (k : Int) % 8 = 0 := by omega
            have z2 : (k : Int).tmod 8 = 0 := by rw [Int.tmod_eq_emod_of_nonneg pk]; exact z1
            have HO : Hid (onceAt (k + 1) = onceAt k <<< 1) := Lib.hid (once_next k z0)
            have HV : Hid (∀ v, v = pick (rol pw 8) (rol pw 8) (rol pw 8) (rol pw 8) ^^^ onceAt k → s ++ [ew ^^^ v] = Aes.words K (k + 1)) := Lib.hid (fun v hv => HV0.out v (by rw [hv, once_at k z0, HPW.out]; unfold nextWord; rw [if_pos z0]))
            clear HV0
            generalize onceAt k = oc at *
            go_wp2_with fail
            refine (rotl8 _ _).mono ?_
            rintro e x0 ⟨rfl, rfl⟩
            go_wp2_with fail
            with_reducible refine (HP.out _ _ _ _).mono ?_
            rintro e x1 ⟨rfl, kk⟩
            have H2 := Lib.hid (H1.out.below kk H1.out.lt)
            have H3 := Lib.hid (H2'.out.trans (kk.mono H2'.out.size))
            go_upto_region 21 with fail
            generalize hv : pick (rol pw 8) (rol pw 8) (rol pw 8) (rol pw 8) ^^^ oc = v at *
            have HV := Lib.hid (HV.out v rfl)
            clear hv kk HP c0 HPW
            have c8 : x1.cell? ⟨g, 256 + (k - 8), none⟩ = some (.int .u32 (U ew)) := by rw [H2.out.cell, HEW.out]; exact keyRow_get s (k - 8) (by omega)
            refine wp_region_noPanic ?_
            refine wp_region_held_drew (S := fun w' => Below w.heap.size w w' ∧ w'.cell? ⟨g, 256 + (k - 8), none⟩ = some (.int .u32 (U ew))) (by kernel_rfl) ⟨below_drewN' H3.out 1, c8⟩ (fun hH => ?_)
            refine tk (i := 0) (oi := { dst := some 83, op := Op.move (Operand.tmp 4), type := 153, pos := "key.go:40", after := #[], guard := none }) (v := .pointer (some ⟨g, 0, none⟩)) rfl (fun wx hS => ?_) hH ?_
            · go_simp
            refine tk (i := 1) (oi := { dst := some 84, op := Op.move (Operand.tmp 7), type := 3, pos := "key.go:40", after := #[], guard := none }) (v := .int .i64 (k : Int)) rfl (fun wx hS => ?_) hH ?_
            · go_simp
            refine tk (i := 2) (oi := { dst := some 85, op := Op.move (Operand.tmp 4), type := 153, pos := "key.go:40", after := #[], guard := none }) (v := .pointer (some ⟨g, 0, none⟩)) rfl (fun wx hS => ?_) hH ?_
            · go_simp
            refine tk (i := 3) (oi := { dst := some 86, op := Op.move (Operand.tmp 7), type := 3, pos := "key.go:40", after := #[], guard := none }) (v := .int .i64 (k : Int)) rfl (fun wx hS => ?_) hH ?_
            · go_simp
            refine tk (i := 4) (oi := { dst := some 87, op := Op.binOp BinOp.sub 3 (Operand.tmp 86) (Operand.const (Value.int IntKind.i64 8)) 3, type := 3, pos := "key.go:40", after := #[⟨3, .data⟩], guard := none }) (v := .int .i64 ((k : Int) - 8)) rfl (fun wx hS => ?_) hH ?_
            · have e1 := m8; go_simp
            refine tk (i := 5) (oi := { dst := some 88, op := Op.nilCheck (Operand.tmp 85), type := 0, pos := "key.go:40", after := #[⟨2, .data⟩], guard := none }) (v := .pointer (some ⟨g, 0, none⟩)) rfl (fun wx hS => ?_) hH ?_
            · go_simp
            refine tk (i := 6) (oi := { dst := some 89, op := Op.fieldAddr 182 (Operand.tmp 88) 1, type := 0, pos := "key.go:40", after := #[⟨5, .data⟩], guard := none }) (v := .pointer (some ⟨g, 256, none⟩)) rfl (fun wx hS => ?_) hH ?_
            · go_simp
            refine tk (i := 7) (oi := { dst := some 90, op := Op.indexAddr 180 (Operand.tmp 89) (Operand.tmp 87), type := 0, pos := "key.go:40", after := #[⟨6, .data⟩, ⟨4, .data⟩], guard := none }) (v := .pointer (some ⟨g, 256 + (k - 8), none⟩)) rfl (fun wx hS => ?_) hH ?_
            · have e1 := p8; have e2 := q8; have e3 := t8; go_simp
            refine tk (i := 8) (oi := { dst := some 91, op := Op.load 131 (Operand.tmp 90), type := 131, pos := "key.go:40", after := #[⟨7, .data⟩], guard := none }) (v := .int .u32 (U ew)) rfl (fun wx hS => ?_) hH ?_
            · have e1 := hS.2; go_simp
            refine tk (i := 9) (oi := { dst := some 92, op := Op.move (Operand.tmp 8), type := 131, pos := "key.go:40", after := #[], guard := none }) (v := .int .u32 (U v)) rfl (fun wx hS => ?_) hH ?_
            · go_simp
            refine tk (i := 10) (oi := { dst := some 93, op := Op.binOp BinOp.xor 131 (Operand.tmp 91) (Operand.tmp 92) 131, type := 131, pos := "key.go:40", after := #[⟨8, .data⟩, ⟨9, .data⟩], guard := none }) (v := .int .u32 (U (ew ^^^ v))) rfl (fun wx hS => ?_) hH ?_
            · go_simp
            refine tk (i := 11) (oi := { dst := some 94, op := Op.nilCheck (Operand.tmp 83), type := 0, pos := "key.go:40", after := #[⟨0, .data⟩], guard := none }) (v := .pointer (some ⟨g, 0, none⟩)) rfl (fun wx hS => ?_) hH ?_
            · go_simp
            refine tk (i := 12) (oi := { dst := some 95, op := Op.fieldAddr 182 (Operand.tmp 94) 1, type := 0, pos := "key.go:40", after := #[⟨11, .data⟩], guard := none }) (v := .pointer (some ⟨g, 256, none⟩)) rfl (fun wx hS => ?_) hH ?_
            · go_simp
            refine tk (i := 13) (oi := { dst := some 96, op := Op.indexAddr 180 (Operand.tmp 95) (Operand.tmp 84), type := 0, pos := "key.go:40", after := #[⟨12, .data⟩, ⟨1, .data⟩, ⟨0, .phase⟩, ⟨1, .phase⟩, ⟨2, .phase⟩, ⟨3, .phase⟩, ⟨4, .phase⟩, ⟨5, .phase⟩, ⟨6, .phase⟩, ⟨7, .phase⟩, ⟨8, .phase⟩, ⟨9, .phase⟩, ⟨10, .phase⟩], guard := none }) (v := .pointer (some ⟨g, 256 + k, none⟩)) rfl (fun wx hS => ?_) hH ?_
            · have e1 := pk; have e2 := qk; go_simp
            have hN : Below w.heap.size w (x1.drew.setCell ⟨g, 256 + k, none⟩ (.int .u32 (U (ew ^^^ v)))) ∧ (x1.drew.setCell ⟨g, 256 + k, none⟩ (.int .u32 (U (ew ^^^ v)))).cell? ⟨g, 256 + (k - 8), none⟩ = some (.int .u32 (U ew)) := ⟨hH.1.setCell HG.out _, cell_past hH.2 (256 + k) _ (by omega)⟩
            have c1 : x1.drew.cell? ⟨g, 256 + k, none⟩ = some _ := H2.out.at (256 + k) (by rw [keyRow_length]; omega)
            have c2 : x1.drew.frozen? ⟨g, 256 + k, none⟩ = false := H2.out.free (256 + k)
            clear hH
            refine wpAnyH_ready (rs := [14]) (by kernel_rfl) (by simp) ?_
            refine AllReadyH.cons (o := { dst := none, op := Op.store 131 (Operand.tmp 96) (Operand.tmp 93), type := 0, pos := "key.go:40", after := #[⟨13, .data⟩, ⟨10, .data⟩, ⟨0, .phase⟩, ⟨1, .phase⟩, ⟨2, .phase⟩, ⟨3, .phase⟩, ⟨4, .phase⟩, ⟨5, .phase⟩, ⟨6, .phase⟩, ⟨7, .phase⟩, ⟨8, .phase⟩, ⟨9, .phase⟩, ⟨10, .phase⟩], guard := none }) rfl (fun KK hKK => ?_) AllReadyH.nil
            go_simp
            refine hKK.out _ _ hN (fun hH => ?_)
            clear hKK KK
            try simp only [Act.put, List.setIfInBounds_toArray, List.set_cons_zero, List.set_cons_succ]
            refine wpAnyH_done (by kernel_rfl) ?_ _
            refine NoPanic.normal ?_
            go_wp2_with fail
            go_roundw
            case rel =>
              have := H2.out.set (256 + k) (.int .u32 (U (ew ^^^ v)))
              rw [keyRow_set _ _ HSL.out (by omega), HV.out] at this
              repeat apply Exists.intro
              refine And.intro ?rr ?ee
              case ee => repeat (first | exact rfl | refine And.intro rfl ?_)
              case rr => exact ⟨k + 1, by omega, by omega, by go_num, by rw [HO.out], this, hN.1⟩
            case measure => simp [intOf]; omega
          · have z1 : ¬ (k : Int) % 8 = 0 := by omega
            have z2 : ¬ (k : Int).tmod 8 = 0 := by rw [Int.tmod_eq_emod_of_nonneg pk]; exact z1
            have HO : Hid (onceAt (k + 1) = onceAt k) := Lib.hid (once_same k z0)
            by_cases z4 : k % 8 = 4
            · have z5 : (k : Int) % 8 = 4 := by omega
              have z6 : (k : Int).tmod 8 = 4 := by rw [Int.tmod_eq_emod_of_nonneg pk]; exact z5
              have HV : Hid (∀ v, v = pick pw pw pw pw → s ++ [ew ^^^ v] = Aes.words K (k + 1)) := Lib.hid (fun v hv => HV0.out v (by rw [hv, HPW.out]; unfold nextWord; rw [if_neg z0, if_pos z4]))
              clear HV0
              generalize onceAt k = oc at *
              go_wp2_with fail
              with_reducible refine (HP.out _ _ _ _).mono ?_
              rintro e x1 ⟨rfl, kk⟩
              have H2 := Lib.hid (H1.out.below kk H1.out.lt)
              have H3 := Lib.hid (H2'.out.trans (kk.mono H2'.out.size))
              go_upto_region 21 with fail
              generalize hv : pick pw pw pw pw = v at *
              have HV := Lib.hid (HV.out v rfl)
              clear hv kk HP c0 HPW
              have c8 : x1.cell? ⟨g, 256 + (k - 8), none⟩ = some (.int .u32 (U ew)) := by rw [H2.out.cell, HEW.out]; exact keyRow_get s (k - 8) (by omega)
              refine wp_region_noPanic ?_
              refine wp_region_held_drew (S := fun w' => Below w.heap.size w w' ∧ w'.cell? ⟨g, 256 + (k - 8), none⟩ = some (.int .u32 (U ew))) (by kernel_rfl) ⟨below_drewN' H3.out 1, c8⟩ (fun hH => ?_)
              refine tk (i := 0) (oi := { dst := some 83, op := Op.move (Operand.tmp 4), type := 153, pos := "key.go:40", after := #[], guard := none }) (v := .pointer (some ⟨g, 0, none⟩)) rfl (fun wx hS => ?_) hH ?_
              · go_simp
              refine tk (i := 1) (oi := { dst := some 84, op := Op.move (Operand.tmp 7), type := 3, pos := "key.go:40", after := #[], guard := none }) (v := .int .i64 (k : Int)) rfl (fun wx hS => ?_) hH ?_
              · go_simp
              refine tk (i := 2) (oi := { dst := some 85, op := Op.move (Operand.tmp 4), type := 153, pos := "key.go:40", after := #[], guard := none }) (v := .pointer (some ⟨g, 0, none⟩)) rfl (fun wx hS => ?_) hH ?_
              · go_simp
              refine tk (i := 3) (oi := { dst := some 86, op := Op.move (Operand.tmp 7), type := 3, pos := "key.go:40", after := #[], guard := none }) (v := .int .i64 (k : Int)) rfl (fun wx hS => ?_) hH ?_
              · go_simp
              refine tk (i := 4) (oi := { dst := some 87, op := Op.binOp BinOp.sub 3 (Operand.tmp 86) (Operand.const (Value.int IntKind.i64 8)) 3, type := 3, pos := "key.go:40", after := #[⟨3, .data⟩], guard := none }) (v := .int .i64 ((k : Int) - 8)) rfl (fun wx hS => ?_) hH ?_
              · have e1 := m8; go_simp
              refine tk (i := 5) (oi := { dst := some 88, op := Op.nilCheck (Operand.tmp 85), type := 0, pos := "key.go:40", after := #[⟨2, .data⟩], guard := none }) (v := .pointer (some ⟨g, 0, none⟩)) rfl (fun wx hS => ?_) hH ?_
              · go_simp
              refine tk (i := 6) (oi := { dst := some 89, op := Op.fieldAddr 182 (Operand.tmp 88) 1, type := 0, pos := "key.go:40", after := #[⟨5, .data⟩], guard := none }) (v := .pointer (some ⟨g, 256, none⟩)) rfl (fun wx hS => ?_) hH ?_
              · go_simp
              refine tk (i := 7) (oi := { dst := some 90, op := Op.indexAddr 180 (Operand.tmp 89) (Operand.tmp 87), type := 0, pos := "key.go:40", after := #[⟨6, .data⟩, ⟨4, .data⟩], guard := none }) (v := .pointer (some ⟨g, 256 + (k - 8), none⟩)) rfl (fun wx hS => ?_) hH ?_
              · have e1 := p8; have e2 := q8; have e3 := t8; go_simp
              refine tk (i := 8) (oi := { dst := some 91, op := Op.load 131 (Operand.tmp 90), type := 131, pos := "key.go:40", after := #[⟨7, .data⟩], guard := none }) (v := .int .u32 (U ew)) rfl (fun wx hS => ?_) hH ?_
              · have e1 := hS.2; go_simp
              refine tk (i := 9) (oi := { dst := some 92, op := Op.move (Operand.tmp 8), type := 131, pos := "key.go:40", after := #[], guard := none }) (v := .int .u32 (U v)) rfl (fun wx hS => ?_) hH ?_
              · go_simp
              refine tk (i := 10) (oi := { dst := some 93, op := Op.binOp BinOp.xor 131 (Operand.tmp 91) (Operand.tmp 92) 131, type := 131, pos := "key.go:40", after := #[⟨8, .data⟩, ⟨9, .data⟩], guard := none }) (v := .int .u32 (U (ew ^^^ v))) rfl (fun wx hS => ?_) hH ?_
              · go_simp
              refine tk (i := 11) (oi := { dst := some 94, op := Op.nilCheck (Operand.tmp 83), type := 0, pos := "key.go:40", after := #[⟨0, .data⟩], guard := none }) (v := .pointer (some ⟨g, 0, none⟩)) rfl (fun wx hS => ?_) hH ?_
              · go_simp
              refine tk (i := 12) (oi := { dst := some 95, op := Op.fieldAddr 182 (Operand.tmp 94) 1, type := 0, pos := "key.go:40", after := #[⟨11, .data⟩], guard := none }) (v := .pointer (some ⟨g, 256, none⟩)) rfl (fun wx hS => ?_) hH ?_
              · go_simp
              refine tk (i := 13) (oi := { dst := some 96, op := Op.indexAddr 180 (Operand.tmp 95) (Operand.tmp 84), type := 0, pos := "key.go:40", after := #[⟨12, .data⟩, ⟨1, .data⟩, ⟨0, .phase⟩, ⟨1, .phase⟩, ⟨2, .phase⟩, ⟨3, .phase⟩, ⟨4, .phase⟩, ⟨5, .phase⟩, ⟨6, .phase⟩, ⟨7, .phase⟩, ⟨8, .phase⟩, ⟨9, .phase⟩, ⟨10, .phase⟩], guard := none }) (v := .pointer (some ⟨g, 256 + k, none⟩)) rfl (fun wx hS => ?_) hH ?_
              · have e1 := pk; have e2 := qk; go_simp
              have hN : Below w.heap.size w (x1.drew.setCell ⟨g, 256 + k, none⟩ (.int .u32 (U (ew ^^^ v)))) ∧ (x1.drew.setCell ⟨g, 256 + k, none⟩ (.int .u32 (U (ew ^^^ v)))).cell? ⟨g, 256 + (k - 8), none⟩ = some (.int .u32 (U ew)) := ⟨hH.1.setCell HG.out _, cell_past hH.2 (256 + k) _ (by omega)⟩
              have c1 : x1.drew.cell? ⟨g, 256 + k, none⟩ = some _ := H2.out.at (256 + k) (by rw [keyRow_length]; omega)
              have c2 : x1.drew.frozen? ⟨g, 256 + k, none⟩ = false := H2.out.free (256 + k)
              clear hH
              refine wpAnyH_ready (rs := [14]) (by kernel_rfl) (by simp) ?_
              refine AllReadyH.cons (o := { dst := none, op := Op.store 131 (Operand.tmp 96) (Operand.tmp 93), type := 0, pos := "key.go:40", after := #[⟨13, .data⟩, ⟨10, .data⟩, ⟨0, .phase⟩, ⟨1, .phase⟩, ⟨2, .phase⟩, ⟨3, .phase⟩, ⟨4, .phase⟩, ⟨5, .phase⟩, ⟨6, .phase⟩, ⟨7, .phase⟩, ⟨8, .phase⟩, ⟨9, .phase⟩, ⟨10, .phase⟩], guard := none }) rfl (fun KK hKK => ?_) AllReadyH.nil
              go_simp
              refine hKK.out _ _ hN (fun hH => ?_)
              clear hKK KK
              try simp only [Act.put, List.setIfInBounds_toArray, List.set_cons_zero, List.set_cons_succ]
              refine wpAnyH_done (by kernel_rfl) ?_ _
              refine NoPanic.normal ?_
              go_wp2_with fail
              go_roundw
              case rel =>
                have := H2.out.set (256 + k) (.int .u32 (U (ew ^^^ v)))
                rw [keyRow_set _ _ HSL.out (by omega), HV.out] at this
                repeat apply Exists.intro
                refine And.intro ?rr ?ee
                case ee => repeat (first | exact rfl | refine And.intro rfl ?_)
                case rr => exact ⟨k + 1, by omega, by omega, by go_num, by rw [HO.out], this, hN.1⟩
              case measure => simp [intOf]; omega
            · have z5 : ¬ (k : Int) % 8 = 4 := by omega
              have z6 : ¬ (k : Int).tmod 8 = 4 := by rw [Int.tmod_eq_emod_of_nonneg pk]; exact z5
              have HV := Lib.hid (HV0.out pw (by rw [HPW.out]; unfold nextWord; rw [if_neg z0, if_neg z4]))
              clear HV0
              generalize onceAt k = oc at *
              obtain ⟨x1, hx1⟩ : ∃ x1, x1 = wr := ⟨_, rfl⟩
              have H2 := H1
              have H3 := H2'
              go_upto_region 21 with fail
              rw [← hx1] at H2 H3 ⊢
              clear hx1 HP c0 HPW
              obtain ⟨v, hv⟩ : ∃ v, v = pw := ⟨_, rfl⟩
              rw [← hv] at HV ⊢
              clear hv
              have c8 : x1.cell? ⟨g, 256 + (k - 8), none⟩ = some (.int .u32 (U ew)) := by rw [H2.out.cell, HEW.out]; exact keyRow_get s (k - 8) (by omega)
              refine wp_region_noPanic ?_
              refine wp_region_held_drew (S := fun w' => Below w.heap.size w w' ∧ w'.cell? ⟨g, 256 + (k - 8), none⟩ = some (.int .u32 (U ew))) (by kernel_rfl) ⟨below_drewN' H3.out 1, c8⟩ (fun hH => ?_)
              refine tk (i := 0) (oi := { dst := some 83, op := Op.move (Operand.tmp 4), type := 153, pos := "key.go:40", after := #[], guard := none }) (v := .pointer (some ⟨g, 0, none⟩)) rfl (fun wx hS => ?_) hH ?_
              · go_simp
              refine tk (i := 1) (oi := { dst := some 84, op := Op.move (Operand.tmp 7), type := 3, pos := "key.go:40", after := #[], guard := none }) (v := .int .i64 (k : Int)) rfl (fun wx hS => ?_) hH ?_
              · go_simp
              refine tk (i := 2) (oi := { dst := some 85, op := Op.move (Operand.tmp 4), type := 153, pos := "key.go:40", after := #[], guard := none }) (v := .pointer (some ⟨g, 0, none⟩)) rfl (fun wx hS => ?_) hH ?_
              · go_simp
              refine tk (i := 3) (oi := { dst := some 86, op := Op.move (Operand.tmp 7), type := 3, pos := "key.go:40", after := #[], guard := none }) (v := .int .i64 (k : Int)) rfl (fun wx hS => ?_) hH ?_
              · go_simp
              refine tk (i := 4) (oi := { dst := some 87, op := Op.binOp BinOp.sub 3 (Operand.tmp 86) (Operand.const (Value.int IntKind.i64 8)) 3, type := 3, pos := "key.go:40", after := #[⟨3, .data⟩], guard := none }) (v := .int .i64 ((k : Int) - 8)) rfl (fun wx hS => ?_) hH ?_
              · have e1 := m8; go_simp
              refine tk (i := 5) (oi := { dst := some 88, op := Op.nilCheck (Operand.tmp 85), type := 0, pos := "key.go:40", after := #[⟨2, .data⟩], guard := none }) (v := .pointer (some ⟨g, 0, none⟩)) rfl (fun wx hS => ?_) hH ?_
              · go_simp
              refine tk (i := 6) (oi := { dst := some 89, op := Op.fieldAddr 182 (Operand.tmp 88) 1, type := 0, pos := "key.go:40", after := #[⟨5, .data⟩], guard := none }) (v := .pointer (some ⟨g, 256, none⟩)) rfl (fun wx hS => ?_) hH ?_
              · go_simp
              refine tk (i := 7) (oi := { dst := some 90, op := Op.indexAddr 180 (Operand.tmp 89) (Operand.tmp 87), type := 0, pos := "key.go:40", after := #[⟨6, .data⟩, ⟨4, .data⟩], guard := none }) (v := .pointer (some ⟨g, 256 + (k - 8), none⟩)) rfl (fun wx hS => ?_) hH ?_
              · have e1 := p8; have e2 := q8; have e3 := t8; go_simp
              refine tk (i := 8) (oi := { dst := some 91, op := Op.load 131 (Operand.tmp 90), type := 131, pos := "key.go:40", after := #[⟨7, .data⟩], guard := none }) (v := .int .u32 (U ew)) rfl (fun wx hS => ?_) hH ?_
              · have e1 := hS.2; go_simp
              refine tk (i := 9) (oi := { dst := some 92, op := Op.move (Operand.tmp 8), type := 131, pos := "key.go:40", after := #[], guard := none }) (v := .int .u32 (U v)) rfl (fun wx hS => ?_) hH ?_
              · go_simp
              refine tk (i := 10) (oi := { dst := some 93, op := Op.binOp BinOp.xor 131 (Operand.tmp 91) (Operand.tmp 92) 131, type := 131, pos := "key.go:40", after := #[⟨8, .data⟩, ⟨9, .data⟩], guard := none }) (v := .int .u32 (U (ew ^^^ v))) rfl (fun wx hS => ?_) hH ?_
              · go_simp
              refine tk (i := 11) (oi := { dst := some 94, op := Op.nilCheck (Operand.tmp 83), type := 0, pos := "key.go:40", after := #[⟨0, .data⟩], guard := none }) (v := .pointer (some ⟨g, 0, none⟩)) rfl (fun wx hS => ?_) hH ?_
              · go_simp
              refine tk (i := 12) (oi := { dst := some 95, op := Op.fieldAddr 182 (Operand.tmp 94) 1, type := 0, pos := "key.go:40", after := #[⟨11, .data⟩], guard := none }) (v := .pointer (some ⟨g, 256, none⟩)) rfl (fun wx hS => ?_) hH ?_
              · go_simp
              refine tk (i := 13) (oi := { dst := some 96, op := Op.indexAddr 180 (Operand.tmp 95) (Operand.tmp 84), type := 0, pos := "key.go:40", after := #[⟨12, .data⟩, ⟨1, .data⟩, ⟨0, .phase⟩, ⟨1, .phase⟩, ⟨2, .phase⟩, ⟨3, .phase⟩, ⟨4, .phase⟩, ⟨5, .phase⟩, ⟨6, .phase⟩, ⟨7, .phase⟩, ⟨8, .phase⟩, ⟨9, .phase⟩, ⟨10, .phase⟩], guard := none }) (v := .pointer (some ⟨g, 256 + k, none⟩)) rfl (fun wx hS => ?_) hH ?_
              · have e1 := pk; have e2 := qk; go_simp
              have hN : Below w.heap.size w (x1.drew.setCell ⟨g, 256 + k, none⟩ (.int .u32 (U (ew ^^^ v)))) ∧ (x1.drew.setCell ⟨g, 256 + k, none⟩ (.int .u32 (U (ew ^^^ v)))).cell? ⟨g, 256 + (k - 8), none⟩ = some (.int .u32 (U ew)) := ⟨hH.1.setCell HG.out _, cell_past hH.2 (256 + k) _ (by omega)⟩
              have c1 : x1.drew.cell? ⟨g, 256 + k, none⟩ = some _ := H2.out.at (256 + k) (by rw [keyRow_length]; omega)
              have c2 : x1.drew.frozen? ⟨g, 256 + k, none⟩ = false := H2.out.free (256 + k)
              clear hH
              refine wpAnyH_ready (rs := [14]) (by kernel_rfl) (by simp) ?_
              refine AllReadyH.cons (o := { dst := none, op := Op.store 131 (Operand.tmp 96) (Operand.tmp 93), type := 0, pos := "key.go:40", after := #[⟨13, .data⟩, ⟨10, .data⟩, ⟨0, .phase⟩, ⟨1, .phase⟩, ⟨2, .phase⟩, ⟨3, .phase⟩, ⟨4, .phase⟩, ⟨5, .phase⟩, ⟨6, .phase⟩, ⟨7, .phase⟩, ⟨8, .phase⟩, ⟨9, .phase⟩, ⟨10, .phase⟩], guard := none }) rfl (fun KK hKK => ?_) AllReadyH.nil
              go_simp
              refine hKK.out _ _ hN (fun hH => ?_)
              clear hKK KK
              try simp only [Act.put, List.setIfInBounds_toArray, List.set_cons_zero, List.set_cons_succ]
              refine wpAnyH_done (by kernel_rfl) ?_ _
              refine NoPanic.normal ?_
              go_wp2_with fail
              go_roundw
              case rel =>
                have := H2.out.set (256 + k) (.int .u32 (U (ew ^^^ v)))
                rw [keyRow_set _ _ HSL.out (by omega), HV.out] at this
                exact ⟨k + 1, by omega, by omega, by omega, by rw [HO.out], this⟩
              case measure => simp [intOf]; omega
        · obtain rfl : k = 60 := by omega
          go_wp2_with fail
          refine bodyPost_ret (v := .tuple #[.pointer (some ⟨g, 0, none⟩), .int .i64 0]) (results_tmp2 (t := 2) (u := 3) rfl _ _ _) rfl ?_
          exact ⟨g, rfl, HG.out, H1.out, H2'.out⟩
end Go.Proofs.YtfhlcondnaahiaaDoor.Ci
