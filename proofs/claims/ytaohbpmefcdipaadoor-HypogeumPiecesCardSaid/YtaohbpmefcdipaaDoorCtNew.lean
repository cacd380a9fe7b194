/- The contract of New. -/
import Derived.Test.YtaohbpmefcdipaaDoorCtRoll
namespace Go.Proofs.YtaohbpmefcdipaaDoor.Ct
open Go.RowKit

/-- n cells of nought. -/
def zeroB (n : Nat) : Array Value := (bvals (List.replicate n 0)).toArray
theorem made_bytes (n : Nat) : madeCells (Value.int .u8 0).cells (n * 1) = zeroB n := by
  unfold zeroB
  apply Array.ext
  · simp [madeCells, bvals]
  · intro j h1 h2
    simp [madeCells, bvals, Value.cells, Nat.mod_one]
    rfl
theorem make_bytes (n : Nat) (w : World) (hn : n ≤ 1000000) :
    (Instr.makeSlice 22 (.int .i64 (n : Int)) (.int .i64 (n : Int))).run Tryd.prog w = .ok (.slice (some ⟨w.heap.size, 0, none⟩) n n) (w.alloc (.cells (zeroB n) 5)) := by
  obtain ⟨i0, hi, hz0, hz1, hz2⟩ := info_parts info_u8
  have := run_make (P := Tryd.prog) w 22 5 i0 (.int .u8 0) Tryd.underlying22 hi hz0 .i64 .i64 (n : Int) (n : Int) (by omega) (by omega) (by rw [hz2]; omega) (by omega)
  rw [hz1, Int.toNat_natCast, made_bytes] at this
  exact this

/-- What a build lays into a value's first cells. -/
def layIn (l : List Value) (k : Nat) (arr : Array Value) : Array Value := (l.zipIdx k).foldl (fun cs x => cs.setIfInBounds x.2 x.1) arr
theorem layIn_list (l : List Value) (k : Nat) (arr : Array Value) (h : k + l.length ≤ arr.size) : (layIn l k arr).toList = arr.toList.take k ++ l ++ arr.toList.drop (k + l.length) := by
  induction l generalizing k arr with
  | nil => simp [layIn]
  | cons x l ih =>
    have hk : k < arr.size := by simp at h; omega
    have e : layIn (x :: l) k arr = layIn l (k + 1) (arr.setIfInBounds k x) := rfl
    rw [e, ih (k + 1) _ (by simp at h ⊢; omega), Array.toList_setIfInBounds, List.take_succ_eq_append_getElem (by simpa using hk), List.take_set_of_le (Nat.le_refl _), List.drop_set_of_lt (by omega), List.length_cons, show k + 1 + l.length = k + (l.length + 1) by omega]
    simp
/-- A roll's cells when New laid it; D: those of its modulus. -/
def newRow (D : List Value) (b n : Nat) : List Value := D ++ (noughts 256 ++ rollTail b n 0 0)
theorem newRow_length (D : List Value) (b n : Nat) (h : D.length = 257) : (newRow D b n).length = 516 := by
  rw [newRow, List.length_append, List.length_append, h, noughts, List.length_replicate]; rfl
theorem noRoll_length : noRoll.length = 516 := by rw [noRoll, List.length_append, noMod_length, List.length_append, noughts, List.length_replicate]; rfl
theorem layIn_size (D : List Value) (h : D.length = 257) : (layIn D 0 noRoll.toArray).size = 516 := by
  rw [← Array.length_toList, layIn_list _ _ _ (by simp [h, noRoll_length])]
  simp [h, noRoll_length]
theorem layIn_set (D : List Value) (h : D.length = 257) (b n : Nat) : (layIn D 0 noRoll.toArray).setIfInBounds 513 (.slice (some ⟨b, 0, none⟩) n n) = (newRow D b n).toArray := by
  apply Array.toList_inj.1
  rw [Array.toList_setIfInBounds, layIn_list _ _ _ (by simp [h, noRoll_length])]
  show ((noRoll.take 0 ++ D) ++ noRoll.drop (0 + D.length)).set 513 _ = newRow D b n
  rw [h, List.take_zero, List.nil_append, noRoll, List.drop_append_of_le_length (by rw [noMod_length]; decide), List.drop_of_length_le (by rw [noMod_length]; decide), List.nil_append, List.set_append_right _ _ (by rw [h]; decide), h, List.set_append_right _ _ (by rw [noughts, List.length_replicate]; decide)]
  unfold newRow noughts
  rw [List.length_replicate]
  rfl

set_option maxRecDepth 100000 in
theorem new_bad (m : W) (n : Int) (w : World) (h : ¬ (8 ≤ dgw m ∧ 1 ≤ n ∧ n ≤ 1024)) :
    Calls Tryd.prog 32 #[.int .u64 (U m), .int .i64 n] w fun e w' => e = .returned (.tuple #[.pointer none, .int .i64 1]) ∧ w = w' := by
  by_cases h1 : 8 ≤ dgw m
  · have t1 : decide (8 ≤ dgw m) = true := by simpa using h1
    by_cases h2 : n < 1
    · have t2 : decide (n < 1) = true := by simpa using h2
      clear h h1 h2
      go_enter Tryd.func32, Tryd.ntmps32
      go_wp2_with ((with_reducible refine (fits_any _ _).mono ?_); rintro e w' ⟨rfl, rfl⟩)
      go_ret2
      exact ⟨rfl, rfl⟩
    · have t2 : decide (n < 1) = false := by simpa using h2
      have t3 : decide (1024 < n) = true := by simp; omega
      clear h h1 h2
      go_enter Tryd.func32, Tryd.ntmps32
      go_wp2_with ((with_reducible refine (fits_any _ _).mono ?_); rintro e w' ⟨rfl, rfl⟩)
      go_ret2
      exact ⟨rfl, rfl⟩
  · have t1 : decide (8 ≤ dgw m) = false := by simpa using h1
    clear h h1
    go_enter Tryd.func32, Tryd.ntmps32
    go_wp2_with ((with_reducible refine (fits_any _ _).mono ?_); rintro e w' ⟨rfl, rfl⟩)
    go_ret2
    exact ⟨rfl, rfl⟩
theorem of_one (m : W) (hm : 8 ≤ dgw m) : ofW m [1] = 1#64 := by
  have hm0 := ne_of_deg hm
  have hm' := ne_toNat hm0
  have hd := dgw_log hm0
  have h8 : 2 ^ 8 ≤ 2 ^ m.toNat.log2 := Nat.pow_le_pow_right (by decide) (by omega)
  apply BitVec.eq_of_toNat_eq
  rw [of_val m hm, show bv [1] = 1 from rfl, Pm.pr_less _ _ hm' (Pm.less_of_lt (by omega))]
  rfl
theorem of_noughts (m : W) (hm : 8 ≤ dgw m) (n : Nat) : ofW m (List.replicate n 0) = 0 := by
  have := of_zeros m hm n []
  rw [List.append_nil] at this
  rw [this]
  rfl
theorem splice_new (D C : List Value) (b n : Nat) (h : D.length = 257) (hC : C.length = 256) : splice (newRow D b n) 257 C = D ++ (C ++ rollTail b n 0 0) := by
  have hz : (noughts 256).length = 256 := by rw [noughts, List.length_replicate]
  unfold splice newRow
  rw [hC, List.take_append_of_le_length (by omega), List.take_of_length_le (by omega), show 257 + 256 = D.length + 256 by omega, List.drop_append, List.drop_of_length_le (by omega), List.nil_append, show D.length + 256 - D.length = (noughts 256).length by omega, List.drop_left]
theorem blockIs.but {g b : Nat} {w w' : World} (hb : But g w w') {cs : List Value} {t : TypeId} (h : blockIs w b cs t) (e : b ≠ g) : blockIs w' b cs t := by
  unfold blockIs at *
  rw [← h]
  exact hb.block b (by
    have := (Array.getElem?_eq_some_iff.1 h).1
    exact this) e
/-- What the eldest byte stands for. -/
def leadW (m : W) (k : Nat) : W := ofW m (1 :: List.replicate k 0)
theorem leadW_zero (m : W) (hm : 8 ≤ dgw m) : leadW m 0 = 1#64 := of_one m hm
theorem leadW_succ (m : W) (k : Nat) : onW m (leadW m k) 0 = leadW m (k + 1) := by
  unfold leadW ofW
  rw [List.replicate_succ', ← List.cons_append, List.foldl_append]
  rfl
theorem leadW_val (m : W) (hm : 8 ≤ dgw m) (k : Nat) : (leadW m k).toNat = Pm.pr (2 ^ (8 * k)) m.toNat := by
  unfold leadW
  rw [of_val m hm, bv_cons, bv_zeros, List.length_replicate, Nat.xor_zero]
  show Pm.pr (1 * _) _ = _
  rw [Nat.one_mul]
set_option maxRecDepth 100000 in
set_option maxHeartbeats 4000000 in
theorem new_any (m : W) (n : Nat) (w : World) (hm : 8 ≤ dgw m) (hn1 : 1 ≤ n) (hn2 : n ≤ 1024) :
    Calls Tryd.prog 32 #[.int .u64 (U m), .int .i64 (n : Int)] w fun e w' => ∃ g wb, e = .returned (.tuple #[.pointer (some ⟨g, 0, none⟩), .int .i64 0]) ∧ w.heap.size ≤ g ∧ w.heap.size ≤ wb ∧ rollIs w' g wb m (List.replicate n 0) ∧ Below w.heap.size w w' := by
  have t1 : decide (8 ≤ dgw m) = true := by simpa using hm
  have t2 : decide ((n : Int) < 1) = false := by simp; omega
  have t3 : decide (1024 < (n : Int)) = false := by simp; omega
  have HM := Lib.hid hm
  have hmk : ∀ w, (Instr.makeSlice 22 (.int .i64 (n : Int)) (.int .i64 (n : Int))).run Tryd.prog w = .ok (.slice (some ⟨w.heap.size, 0, none⟩) n n) (w.alloc (.cells (zeroB n) 5)) := fun w => make_bytes n w (by omega)
  have hz := zero_roll
  clear hm
  go_enter Tryd.func32, Tryd.ntmps32
  go_wp2_with ((with_reducible refine (fits_any _ _).mono ?_); rintro e w' ⟨rfl, rfl⟩)
  have hl1 := modCells_length m
  have HD : Hid (∀ (w0 : World), Calls Tryd.prog 45 #[.int .u64 (U m)] w0 fun e w' => e = .returned (.agg (modCells m).toArray) ∧ Below w0.heap.size w0 w') := Lib.hid fun w0 => ready_any m w0 HM.out
  generalize hDm : modCells m = D at *
  have HD2 := Lib.hid hl1
  have hsz : (List.foldl (fun (cs : Array Value) (x : Value × Nat) => cs.setIfInBounds x.snd x.fst) noRoll.toArray D.zipIdx).size = 516 := layIn_size D hl1
  have hset : ∀ b, (List.foldl (fun (cs : Array Value) (x : Value × Nat) => cs.setIfInBounds x.snd x.fst) noRoll.toArray D.zipIdx).setIfInBounds 513 (.slice (some ⟨b, 0, none⟩) n n) = (newRow D b n).toArray := fun b => layIn_set D hl1 b n
  have hrl : ∀ b, (newRow D b n).length = 516 := fun b => newRow_length D b n hl1
  have hnl := noRoll_length
  go_region_law (first | (go_simp; go_at_call 45; refine (HD.out _).mono ?_; rintro e w1 ⟨rfl, hb⟩))
  have hb : Below w.heap.size w w1 := (Below.refl w.heap.size w).drew.trans hb
  have A1 : Hid (blockIs ((w1.alloc (Obj.cells (zeroB n) 5)).alloc (Obj.cells (newRow D w1.heap.size n).toArray 111)) (w1.heap.size + 1) (newRow D w1.heap.size n) 111) := Lib.hid (blockIs.last _ _ _ _ (by simp))
  have A2 : Hid (blockIs ((w1.alloc (Obj.cells (zeroB n) 5)).alloc (Obj.cells (newRow D w1.heap.size n).toArray 111)) w1.heap.size (bvals (List.replicate n 0)) 5) := Lib.hid ((blockIs.new w1 _ _).alloc _)
  have A3 : Hid (Below w.heap.size w ((w1.alloc (Obj.cells (zeroB n) 5)).alloc (Obj.cells (newRow D w1.heap.size n).toArray 111))) := Lib.hid ((hb.alloc hb.size _).alloc (by have := hb.size; simp; omega) _)
  have A4 : Hid (w.heap.size ≤ w1.heap.size ∧ w.heap.size ≤ w1.heap.size + 1 ∧ w1.heap.size ≠ w1.heap.size + 1) := Lib.hid ⟨hb.size, by have := hb.size; omega, by omega⟩
  clear hb
  generalize (w1.alloc (Obj.cells (zeroB n) 5)).alloc (Obj.cells (newRow D w1.heap.size n).toArray 111) = w3 at *
  generalize w1.heap.size + 1 = g at *
  generalize w1.heap.size = wb at *
  rotate_left
  have hsz2 : w.heap.size + 1 ≤ w1.heap.size := by have := hb.size; simpa [World.drew] using this
  have hb2 : Below w.heap.size w w1 := ((Below.refl w.heap.size w).alloc (Nat.le_refl _) _).drew.trans (hb.mono (by show w.heap.size ≤ (w.alloc _).heap.size; simp))
  have b0 : blockIs (w.alloc (Obj.cells (zeroB n) 5)).drew w.heap.size (bvals (List.replicate n 0)) 5 := blockIs.new w _ _
  have A1 : Hid (blockIs (w1.alloc (Obj.cells (newRow D w.heap.size n).toArray 111)) w1.heap.size (newRow D w.heap.size n) 111) := Lib.hid (blockIs.new w1 _ _)
  have A2 : Hid (blockIs (w1.alloc (Obj.cells (newRow D w.heap.size n).toArray 111)) w.heap.size (bvals (List.replicate n 0)) 5) := Lib.hid ((b0.below hb (by show w.heap.size < (w.alloc _).heap.size; simp)).alloc _)
  have A3 : Hid (Below w.heap.size w (w1.alloc (Obj.cells (newRow D w.heap.size n).toArray 111))) := Lib.hid (hb2.alloc hb2.size _)
  have hge : w.heap.size ≤ w1.heap.size ∧ w.heap.size ≠ w1.heap.size := ⟨by omega, by omega⟩
  clear hb hb2 hsz2 b0
  generalize w1.alloc (Obj.cells (newRow D w.heap.size n).toArray 111) = w3 at *
  generalize w1.heap.size = g at *
  generalize hwb : w.heap.size = wb at A1 A2 ⊢
  have A4 : Hid (w.heap.size ≤ wb ∧ w.heap.size ≤ g ∧ wb ≠ g) := Lib.hid ⟨Nat.le_of_eq hwb, hge.1, by rw [← hwb]; exact hge.2⟩
  clear hwb hge
  rotate_left
  all_goals
    have HDm := Lib.hid hDm
    have HN := Lib.hid (newRow_length D wb n hl1)
    have HM0 := Lib.hid (ne_of_deg HM.out)
    clear hl1 hsz hset hrl hnl hz hmk hDm HD
    go_wp2_with fail
    go_loopw [7, 27] (fun s i wr => ∃ k : Nat, k ≤ n - 1 ∧ i = .int .i64 k ∧ s = .int .u64 (U (leadW m k)) ∧ Hid (blockIs wr g (newRow D wb n) 111) ∧ Hid (blockIs wr wb (bvals (List.replicate n 0)) 5) ∧ Hid (Below w.heap.size w wr)) (fun _ i _ => n - (intOf i).toNat)
    case atStart => exact ⟨0, by omega, rfl, by rw [leadW_zero m HM.out]; rfl, A1, A2, A3⟩
    case round =>
      obtain ⟨k, hk, rfl, rfl, K1, K2, K3⟩ := hrel
      clear A1 A2 A3
      have p0 : 0 ≤ (k : Int) := by omega
      by_cases hlt : k < n - 1
      · have q0 : (k : Int) < (n : Int) - 1 := by omega
        have HT := Lib.hid (leadW_succ m k)
        have R0 : Hid (wr.rangeAt g 0 (modCells m)) := Lib.hid (by
          rw [HDm.out]
          exact rangeAt_block (p := []) (q := noughts 256 ++ rollTail wb n 0 0) K1.out)
        generalize leadW m k = s at *
        go_wp2_with fail
        refine (on_any m s 0 g 0 _ HM.out R0.out).mono ?_
        rintro e w4 ⟨rfl, hb⟩
        have L1 := Lib.hid (K1.out.below hb K1.out.lt)
        have L2 := Lib.hid (K2.out.below hb K2.out.lt)
        have L3 := Lib.hid (K3.out.trans (hb.mono K3.out.size))
        clear hb R0
        go_wp2_with fail
        go_roundw
        case rel => exact ⟨k + 1, by omega, by go_num, by rw [HT.out], L1, L2, L3⟩
        case measure => simp [intOf]; omega
      · obtain rfl : k = n - 1 := by omega
        have q0 : decide (((n - 1 : Nat) : Int) < (n : Int) - 1) = false := by simp; omega
        generalize ((n - 1 : Nat) : Int) = nn at *
        have HV := Lib.hid (leadW_val m HM.out (n - 1))
        generalize leadW m (n - 1) = s at *
        go_wp2_with fail
        refine (products_any s m _ HM0.out).mono ?_
        rintro e w4 ⟨rfl, hb⟩
        have L1 := Lib.hid (K1.out.below hb K1.out.lt)
        have L2 := Lib.hid (K2.out.below hb K2.out.lt)
        have L3 := Lib.hid (K3.out.trans (hb.mono K3.out.size))
        clear hb K1 K2 K3
        have HL : Hid ((cellsW (tab s m) 256).length = 256) := Lib.hid (cellsW_length _ _)
        have HO := Lib.hid (cellsW_one (tab s m) 256)
        generalize hC : cellsW (tab s m) 256 = C at *
        have HC := Lib.hid hC
        clear hC
        go_wp2_with (refine wpList_store_block rfl 106 _ _ rfl g 257 C rfl rfl (newRow D wb n) 111 L1.out (by rw [info_products, HL.out]) (by rw [HL.out, HN.out]; decide) HO.out ?_)
        intro w5 h1 h2 h3
        have h1 := h1.out
        rw [splice_new D C wb n HD2.out HL.out] at h1
        have H1 := Lib.hid h1
        have H2 := Lib.hid (L3.out.trans (h2.out.below A4.out.2.1 L3.out.size))
        have H3 := Lib.hid (blockIs.but h2.out L2.out A4.out.2.2)
        clear h1 h2 h3
        go_wp2_with fail
        go_ret2
        refine ⟨g, wb, rfl, A4.out.2.1, A4.out.1, ⟨s, 0, List.replicate n 0, ?_⟩, H2.out⟩
        refine ⟨HM.out, A4.out.2.2, ?_, H3.out, rfl, by rw [List.length_replicate]; omega, by simp, by rw [List.length_replicate]; exact HV.out, by rw [List.length_replicate]; exact hn2⟩
        rw [List.length_replicate, of_noughts m HM.out]
        unfold rollCells
        rw [HDm.out, HC.out]
        exact H1.out
end Go.Proofs.YtaohbpmefcdipaaDoor.Ct
