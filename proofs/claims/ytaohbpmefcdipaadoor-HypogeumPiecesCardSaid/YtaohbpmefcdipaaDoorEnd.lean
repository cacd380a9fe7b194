/- (run).end: the sum of what was taken. -/
import Derived.Test.YtaohbpmefcdipaaDoorTake
namespace Go.Proofs.YtaohbpmefcdipaaDoor
open Go.RowKit Sha

attribute [local go_sem] U_wrap8 V_toB U_shr8 U_shr16 U_shr24

def zeros (n : Nat) : List Value := List.replicate n (.int .u8 0)
theorem zero60 (w : World) : (zeroValue 102).run Tryd.prog w = .ok (.agg (zeros 72).toArray) w := by kernel_rfl
theorem zero28 (w : World) : (zeroValue 43).run Tryd.prog w = .ok (.agg (zeros 32).toArray) w := by kernel_rfl
theorem zeros_set_one : ∀ v ∈ (zeros 72).set 0 (.int .u8 128), v.oneCell' = true := by
  intro v hv
  rcases List.mem_or_eq_of_mem_set hv with h | rfl
  · obtain ⟨_, rfl⟩ := List.mem_replicate.1 h
    rfl
  · rfl
/-- The sum's bytes of the first k words, and noughts. -/
def outF (R : Reg) (k j : Nat) : UInt8 := if j < 4 * k then (out R).getD j 0 else 0
theorem out_length (R : Reg) : (out R).length = 32 := rfl
theorem out_get (R : Reg) (k : Nat) (h : k < 8) : (out R).getD (4 * k) 0 = toB (R.list.getD k 0 >>> 24) ∧ (out R).getD (4 * k + 1) 0 = toB (R.list.getD k 0 >>> 16) ∧ (out R).getD (4 * k + 2) 0 = toB (R.list.getD k 0 >>> 8) ∧ (out R).getD (4 * k + 3) 0 = toB (R.list.getD k 0) := by
  match k, h with
  | 0, _ => exact ⟨rfl, rfl, rfl, rfl⟩
  | 1, _ => exact ⟨rfl, rfl, rfl, rfl⟩
  | 2, _ => exact ⟨rfl, rfl, rfl, rfl⟩
  | 3, _ => exact ⟨rfl, rfl, rfl, rfl⟩
  | 4, _ => exact ⟨rfl, rfl, rfl, rfl⟩
  | 5, _ => exact ⟨rfl, rfl, rfl, rfl⟩
  | 6, _ => exact ⟨rfl, rfl, rfl, rfl⟩
  | 7, _ => exact ⟨rfl, rfl, rfl, rfl⟩
theorem outF_succ (R : Reg) (k : Nat) (h : k < 8) :
    ((((cells8 (outF R k) 32).set (4 * k) (.int .u8 (V (toB (R.list.getD k 0 >>> 24))))).set (4 * k + 1) (.int .u8 (V (toB (R.list.getD k 0 >>> 16))))).set (4 * k + 2) (.int .u8 (V (toB (R.list.getD k 0 >>> 8))))).set (4 * k + 3) (.int .u8 (V (toB (R.list.getD k 0)))) = cells8 (outF R (k + 1)) 32 := by
  obtain ⟨e0, e1, e2, e3⟩ := out_get R k h
  rw [← e0, ← e1, ← e2, ← e3, cells8_set _ _ _ (by omega), cells8_set _ _ _ (by omega), cells8_set _ _ _ (by omega), cells8_set _ _ _ (by omega)]
  congr 1
  funext j
  unfold outF
  by_cases h3 : j = 4 * k + 3
  · rw [if_pos h3, if_pos (by omega), h3]
  · rw [if_neg h3]
    by_cases h2 : j = 4 * k + 2
    · rw [if_pos h2, if_pos (by omega), h2]
    · rw [if_neg h2]
      by_cases h1 : j = 4 * k + 1
      · rw [if_pos h1, if_pos (by omega), h1]
      · rw [if_neg h1]
        by_cases h0 : j = 4 * k
        · rw [if_pos h0, if_pos (by omega), h0]
        · rw [if_neg h0]
          by_cases hl : j < 4 * k
          · rw [if_pos hl, if_pos (by omega)]
          · rw [if_neg hl, if_neg (by omega)]
theorem outF_all (R : Reg) : cells8 (outF R 8) 32 = byteCells (out R) := rfl
theorem info28 : (Tryd.prog.info? 43).map (·.size) = some 32 := by kernel_rfl
theorem info47 : (Tryd.prog.info? 74).map (·.size) = some 8 := by kernel_rfl
theorem rangeAt_alloc' {w : World} {b o : Nat} {cs : List Value} (h : w.rangeAt b o cs) (ob : Obj) : (w.alloc ob).rangeAt b o cs := World.rangeAt_alloc h ob
theorem info60 : (Tryd.prog.info? 102).map (·.size) = some 72 := by kernel_rfl
theorem zeros_ne : (zeros 72 = []) = False := by simp [zeros]
/-- The tail's 72 bytes, k of its eight laid. -/
def tl (n k j : Nat) : UInt8 := if j = 0 then 0x80 else if 1 + noughts n ≤ j ∧ j < 1 + noughts n + k then (eight (8 * n % 2 ^ 64)).getD (j - 1 - noughts n) 0 else 0
theorem tl_zero (n : Nat) : (zeros 72).set 0 (.int .u8 128) = cells8 (tl n 0) 72 := by
  have e : tl n 0 = fun j => if j = 0 then 0x80 else 0 := by
    funext j
    unfold tl
    by_cases h : j = 0
    · simp [h]
    · rw [if_neg h, if_neg h, if_neg (by omega)]
  rw [e]
  rfl

theorem eight_get (n k : Nat) (hk : k < 8) : (eight n).getD k 0 = UInt8.ofNat (n / 2 ^ (56 - 8 * k)) := by
  simp [eight, hk]
theorem eight_val (n k : Nat) (hk : k < 8) (hn : n ≤ 1000000) : (n : Int) * 8 / 2 ^ (56 - 8 * k) % 256 = V ((eight (8 * n % 2 ^ 64)).getD k 0) := by
  rw [eight_get _ _ hk, Nat.mod_eq_of_lt (by omega)]
  unfold V
  rw [UInt8.toNat_ofNat']
  have e : ((8 * n / 2 ^ (56 - 8 * k) % 2 ^ 8 : Nat) : Int) = ((8 * n / 2 ^ (56 - 8 * k) : Nat) : Int) % 256 := by omega
  rw [e, Int.natCast_ediv, Int.natCast_pow, Int.mul_comm]
  rfl
theorem tl_succ (n k : Nat) (hk : k < 8) : (cells8 (tl n k) 72).set (1 + noughts n + k) (.int .u8 (V ((eight (8 * n % 2 ^ 64)).getD k 0))) = cells8 (tl n (k + 1)) 72 := by
  have hN : noughts n < 64 := by unfold noughts; omega
  rw [cells8_set _ _ _ (by omega)]
  congr 1
  funext j
  unfold tl
  by_cases h : j = 1 + noughts n + k
  · rw [if_pos h, if_neg (by omega), if_pos (by omega)]
    congr 1
    omega
  · rw [if_neg h]
    by_cases h0 : j = 0
    · rw [if_pos h0, if_pos h0]
    · rw [if_neg h0, if_neg h0]
      by_cases h1 : 1 + noughts n ≤ j ∧ j < 1 + noughts n + k
      · rw [if_pos h1, if_pos (by omega)]
      · rw [if_neg h1, if_neg (by omega)]
theorem tl_tail (n : Nat) : (List.range (9 + noughts n)).map (tl n 8) = tail n := by
  apply List.ext_getElem?
  intro i
  by_cases hi : i < 9 + noughts n
  · rw [List.getElem?_map, List.getElem?_range hi]
    unfold tail tl
    simp only [Option.map_some]
    by_cases h0 : i = 0
    · subst h0; simp
    · rw [if_neg h0]
      obtain ⟨i', rfl⟩ : ∃ i', i = i' + 1 := ⟨i - 1, by omega⟩
      rw [List.getElem?_cons_succ]
      by_cases h1 : 1 + noughts n ≤ i' + 1 ∧ i' + 1 < 1 + noughts n + 8
      · rw [if_pos h1, List.getElem?_append_right (by simp; omega), List.length_replicate, List.getElem?_eq_getElem (by rw [eight_length]; omega)]
        congr 1
        simp only [List.getD_eq_getElem?_getD]
        rw [List.getElem?_eq_getElem (by rw [eight_length]; omega), Option.getD_some]
        congr 1
      · rw [if_neg h1, List.getElem?_append_left (by simp; omega), List.getElem?_replicate, if_pos (by omega)]
  · rw [List.getElem?_eq_none (by simp; omega), List.getElem?_eq_none (by rw [tail_length]; omega)]
set_option maxRecDepth 100000 in
set_option maxHeartbeats 2000000 in
theorem end_any (m s : List UInt8) (w : World) (hm : m.length ≤ 1000000) (hs : s.length = 64) (hsm : s.take (m.length % 64) = m.drop (m.length - m.length % 64))
    (hk : ∀ j, j < 64 → w.cell? ⟨1, j, none⟩ = some (.int .u32 (U (consts.getD j 0)))) (hg : 1 < w.heap.size) :
    Calls Tryd.prog 30 #[.agg (runCells (regAfter m) s m.length).toArray] w fun e w' => e = .returned (.agg (byteCells (sha m)).toArray) ∧ Below w.heap.size w w' := by
  have c1 : (runCells (regAfter m) s m.length)[72]? = some (.int .i64 (m.length : Int)) := by
    unfold runCells
    rw [List.getElem?_append_right (by rw [regCells_length]; omega), List.getElem?_append_right (by rw [byteCells_length, regCells_length]; omega), byteCells_length, regCells_length, hs]
    rfl
  have F0 : Hid (runIs (w.alloc (.cells (runCells (regAfter m) s m.length).toArray 77 (0, 0))) w.heap.size [] [] 77 m) := Lib.hid ⟨s, hs, hsm, by simpa using blockIs.new w (runCells (regAfter m) s m.length) 77⟩
  have p1 : 0 ≤ (m.length : Int) := by omega
  have p2 : (m.length : Int) ≤ 1000000 := by omega
  have HS := Lib.hid hs
  have HSM := Lib.hid hsm
  have HK := Lib.hid hk
  clear hs hsm hk
  have hz := zero60
  have hz2 := zeros_ne
  go_enter Tryd.func30, Tryd.ntmps30
  have hz3 := zero28
  go_wp2_with (refine wpList_store_block rfl 102 _ _ rfl (w.heap.size + 1 + 1) 0 ((zeros 72).set 0 (.int .u8 128)) rfl rfl (zeros 72) 102 (blockIs.last _ _ _ _ (by simp)) (by rw [info60]; rfl) (by simp [zeros]) zeros_set_one ?_)
  intro w1 h1 h2 h3
  have h1 := h1.out
  rw [splice_all _ _ (by simp), tl_zero m.length] at h1
  have G1 := Lib.hid (F0.out.alloc (.cells (zeros 32).toArray 43 (0, 0)))
  have G1 := Lib.hid ((G1.out.alloc (.cells (zeros 72).toArray 102 (0, 0))).but h2.out (by omega))
  have G2 : Hid (blockIs w1 (w.heap.size + 1) (zeros 32) 43) := Lib.hid (h2.out.is ((blockIs.last (w.alloc (.cells (runCells (regAfter m) s m.length).toArray 77 (0, 0))) (zeros 32) 43 (w.heap.size + 1) (by simp)).alloc _) (by omega))
  have G3 : Hid (Below w.heap.size w w1) := Lib.hid (((((Below.refl _ w).alloc (Nat.le_refl _) _).alloc (by simp) _).alloc (by simp <;> omega) _).trans (h2.out.below (by omega) (by simp <;> omega)))
  have G4 : Hid (w1.heap.size = w.heap.size + 3) := Lib.hid (by rw [h3.out])
  have H1 := Lib.hid h1
  clear h1 h2 h3 F0 c1 hz hz2 hz3
  go_wp2_with fail
  have hN : (119 - (m.length : Int)) % 64 = (noughts m.length : Int) := by unfold noughts; omega
  have pN : (noughts m.length : Int) < 64 := by unfold noughts; omega
  have pN0 : 0 ≤ (noughts m.length : Int) := by omega
  have pN1 : (noughts m.length : Int) ≤ 63 := by omega
  have pN2 : 1 + (noughts m.length : Int) + 8 ≤ 72 := by omega
  have pN3 : 0 ≤ 1 + (noughts m.length : Int) + 8 := by omega
  rw [hN]
  clear hN
  generalize hNN : noughts m.length = N at *
  have HN := Lib.hid hNN
  clear hNN
  go_loopw [20, 6] (fun i _ wr => ∃ k : Nat, k ≤ 8 ∧ i = .int .i64 k ∧ blockIs wr (w.heap.size + 1 + 1) (cells8 (tl m.length k) 72) 102 ∧ But (w.heap.size + 1 + 1) w1 wr) (fun i _ _ => 8 - (intOf i).toNat)
  case atStart => exact ⟨0, by omega, rfl, H1.out, But.refl _ _⟩
  case round =>
    obtain ⟨k, hk, rfl, h1, h2⟩ := hrel
    by_cases hlt : k < 8
    · have c1 : wr.cell? ⟨w.heap.size + 1 + 1, 1 + N + k, none⟩ = some (.int .u8 (V (tl m.length k (1 + N + k)))) := by rw [h1.cell]; exact cells8_get _ _ _ (by omega)
      have c2 : wr.frozen? ⟨w.heap.size + 1 + 1, 1 + N + k, none⟩ = false := h1.free _
      have p : 0 ≤ (k : Int) := by omega
      have q4 : (k : Int) < 8 := by omega
      have h1s := h1.set (1 + N + k) (.int .u8 (V ((eight (8 * m.length % 2 ^ 64)).getD k 0)))
      have HH := Lib.hid h1s
      have HB := Lib.hid h2
      clear h1 h1s h2
      go_wp2_with fail
      go_roundw
      case rel =>
        rw [eight_val m.length k hlt (by omega)]
        have hh := HH.out
        rw [← HN.out, tl_succ _ _ hlt, HN.out] at hh
        exact ⟨k + 1, by omega, by go_num, hh, HB.out.setCell _ _ (Or.inl rfl)⟩
      case measure => simp [intOf]; omega
    · obtain rfl : k = 8 := by omega
      rw [show ((8 : Nat) : Int) = 8 from rfl]
      have hl : 1 + N + 8 = (tail m.length).length := by rw [tail_length, HN.out]; omega
      have G5 : Hid (runIs wr w.heap.size [] [] 77 m) := Lib.hid (G1.out.but h2 (by omega))
      have G6 : Hid (blockIs wr (w.heap.size + 1) (zeros 32) 43) := Lib.hid (h2.is G2.out (by omega))
      have G7 : Hid (Below w.heap.size w wr) := Lib.hid (G3.out.trans (h2.below (by omega) (by have := G4.out; omega)))
      have G8 : Hid (bytesAt wr w.heap.size (some ⟨w.heap.size + 1 + 1, 0, none⟩) (tail m.length)) := Lib.hid (Or.inr ⟨_, _, rfl, by omega, fun j hj => by
        rw [tail_length] at hj
        rw [Nat.zero_add, h1.cell, cells8_get _ _ _ (by have := HN.out; unfold noughts at this; unfold noughts at hj; omega), ← tl_tail]
        simp [hj]⟩)
      clear h1 h2 G1 G2 G3 H1
      go_wp2_with fail
      have hkr : ∀ j, j < 64 → wr.cell? ⟨1, j, none⟩ = some (.int .u32 (U (consts.getD j 0))) := fun j hj => by
        rw [G7.out.cell hg]
        exact HK.out j hj
      refine (take_any w.heap.size 72 (some ⟨w.heap.size + 1 + 1, 0, none⟩) [] [] 77 m (tail m.length) wr (by rw [← hl]; omega) (by omega) (by rw [← hl]; omega) G5.out G8.out hkr (by omega)).mono ?_
      rintro e w3 ⟨rfl, h1, h2⟩
      obtain ⟨s3, hs3, -, hr3⟩ := h1
      have R1 : Hid (w3.rangeAt w.heap.size 0 (regCells (regAfter (pad m)))) := Lib.hid (by
        have hr3 : blockIs w3 w.heap.size ([] ++ (regCells (regAfter (pad m)) ++ (byteCells s3 ++ [.int .i64 ((pad m).length : Int)]))) 77 := by
          have : runCells (regAfter (pad m)) s3 (pad m).length ++ [] = regCells (regAfter (pad m)) ++ (byteCells s3 ++ [.int .i64 ((pad m).length : Int)]) := by simp [runCells]
          rw [← this]
          exact hr3
        exact rangeAt_block hr3)
      have R2 : Hid (blockIs w3 (w.heap.size + 1) (zeros 32) 43) := Lib.hid (h2.is G6.out (by omega))
      have R3 : Hid (Below w.heap.size w w3) := Lib.hid (G7.out.trans (h2.below (Nat.le_refl _) G7.out.size))
      clear h2 hr3 hkr hs3 G5 G6 G7 G8 hl pN pN0 pN1 pN2 pN3
      have hz3 := zero28
      go_wp2_with (refine wpList_load_mid rfl 74 _ rfl w.heap.size 0 rfl (regCells (regAfter (pad m))) _ (rangeAt_alloc' R1.out _) Tryd.underlying74 rfl (by rw [info47]; rfl) ?_)
      have L1 : Hid (blockIs (w3.alloc (.cells (zeros 32).toArray 43 (0, 0))) w3.heap.size (cells8 (outF (regAfter (pad m)) 0) 32) 43) := Lib.hid (blockIs.new w3 (zeros 32) 43)
      have L2 : Hid (blockIs (w3.alloc (.cells (zeros 32).toArray 43 (0, 0))) (w.heap.size + 1) (zeros 32) 43) := Lib.hid (R2.out.alloc _)
      have L3 : Hid (Below w.heap.size w (w3.alloc (.cells (zeros 32).toArray 43 (0, 0)))) := Lib.hid (R3.out.alloc R3.out.size _)
      have L4 := Lib.hid R2.out.lt
      have L5 : Hid ((w3.alloc (.cells (zeros 32).toArray 43 (0, 0))).heap.size = w3.heap.size + 1) := Lib.hid (by simp)
      generalize w3.alloc (.cells (zeros 32).toArray 43 (0, 0)) = w4 at *
      generalize hRR : regAfter (pad m) = R at *
      have HRR := Lib.hid hRR
      clear hRR R1 R2 R3 hz3
      go_loopw [42, 8, 9] (fun i _ _ wr => ∃ k : Nat, k ≤ 8 ∧ i = .int .i64 k ∧ blockIs wr w3.heap.size (cells8 (outF R k) 32) 43 ∧ But w3.heap.size w4 wr) (fun i _ _ _ => 8 - (intOf i).toNat)
      case atStart => exact ⟨0, by omega, rfl, L1.out, But.refl _ _⟩
      case round =>
        obtain ⟨k, hk, rfl, h1, h2⟩ := hrel
        by_cases hlt : k < 8
        · have c0 : wr.cell? ⟨w3.heap.size, 4 * k, none⟩ = some (.int .u8 (V (outF R k (4 * k)))) := by rw [h1.cell]; exact cells8_get _ _ _ (by omega)
          have c1 : wr.cell? ⟨w3.heap.size, 4 * k + 1, none⟩ = some (.int .u8 (V (outF R k (4 * k + 1)))) := by rw [h1.cell]; exact cells8_get _ _ _ (by omega)
          have c2 : wr.cell? ⟨w3.heap.size, 4 * k + 2, none⟩ = some (.int .u8 (V (outF R k (4 * k + 2)))) := by rw [h1.cell]; exact cells8_get _ _ _ (by omega)
          have c3 : wr.cell? ⟨w3.heap.size, 4 * k + 3, none⟩ = some (.int .u8 (V (outF R k (4 * k + 3)))) := by rw [h1.cell]; exact cells8_get _ _ _ (by omega)
          have f0 : wr.frozen? ⟨w3.heap.size, 4 * k, none⟩ = false := h1.free _
          have f1 : wr.frozen? ⟨w3.heap.size, 4 * k + 1, none⟩ = false := h1.free _
          have f2 : wr.frozen? ⟨w3.heap.size, 4 * k + 2, none⟩ = false := h1.free _
          have f3 : wr.frozen? ⟨w3.heap.size, 4 * k + 3, none⟩ = false := h1.free _
          have p : 0 ≤ (k : Int) := by omega
          have q4 : (k : Int) < 8 := by omega
          have ix : ∀ wx, (Instr.index 74 (.agg (regCells R).toArray) (.int .i64 (k : Int))).run Tryd.prog wx = .ok (.int .u32 (U (R.list.getD k 0))) wx :=
            fun wx => run_index_agg Tryd.underlying74 (by kernel_rfl) (by kernel_rfl) (by kernel_rfl) hlt (regs_get R k hlt) wx
          have h1s := (((h1.set (4 * k) (.int .u8 (V (toB (R.list.getD k 0 >>> 24))))).set (4 * k + 1) (.int .u8 (V (toB (R.list.getD k 0 >>> 16))))).set (4 * k + 2) (.int .u8 (V (toB (R.list.getD k 0 >>> 8))))).set (4 * k + 3) (.int .u8 (V (toB (R.list.getD k 0))))
          have HH := Lib.hid h1s
          have HB := Lib.hid h2
          clear h1 h1s h2
          go_wp2_with fail
          go_roundw
          case rel =>
            have hh := HH.out
            rw [outF_succ _ _ hlt] at hh
            exact ⟨k + 1, by omega, by go_num, hh, (((HB.out.setCell _ _ (Or.inl rfl)).setCell _ _ (Or.inl rfl)).setCell _ _ (Or.inl rfl)).setCell _ _ (Or.inl rfl)⟩
          case measure => simp [intOf]; omega
        · obtain rfl : k = 8 := by omega
          rw [show ((8 : Nat) : Int) = 8 from rfl]
          have h1 : blockIs wr w3.heap.size ([] ++ (byteCells (out R) ++ [])) 43 := by
            rw [outF_all] at h1
            simpa using h1
          have M1 : Hid (wr.rangeAt w3.heap.size 0 (byteCells (out R))) := Lib.hid (rangeAt_block h1)
          have M2 : Hid (blockIs wr (w.heap.size + 1) (zeros 32) 43) := Lib.hid (h2.is L2.out (by have := L4.out; omega))
          have M3 : Hid (Below w.heap.size w wr) := Lib.hid (L3.out.trans (h2.below (by have := L4.out; omega) (by have := L5.out; have := L4.out; omega)))
          clear h1 h2 L1 L2 L3
          go_wp2_with (first | (refine wpList_load_mid rfl 43 _ rfl w3.heap.size 0 rfl (byteCells (out R)) _ M1.out Tryd.underlying43 rfl (by rw [info28]; rfl) ?_) | (refine wpList_store_block rfl 43 _ _ rfl (w.heap.size + 1) 0 (byteCells (out R)) rfl rfl (zeros 32) 43 M2.out (by rw [info28]; rfl) (by simp [zeros, byteCells_length, out_length]) (byteCells_one _) ?_))
          intro w5 h1 h2 h3
          have h1 := h1.out
          rw [splice_all _ _ (by simp [zeros, byteCells_length, out_length])] at h1
          have h2 := h2.out
          have hN := M3.out.trans (h2.below (by omega) M3.out.size)
          have H1 := Lib.hid h1
          have H2 := Lib.hid hN
          clear h1 h2 h3 hN
          go_wp2_with fail
          refine bodyPost_ret (v := .agg (byteCells (out R)).toArray) (results_cell_row rfl _ _ (w.heap.size + 1) 43 _ (0, 0) _ rfl H1.out Tryd.underlying43 rfl (by rw [info28]; simp [byteCells_length, out_length])) rfl ?_
          refine ⟨?_, H2.out⟩
          rw [sha_eq, HRR.out]
end Go.Proofs.YtaohbpmefcdipaaDoor
