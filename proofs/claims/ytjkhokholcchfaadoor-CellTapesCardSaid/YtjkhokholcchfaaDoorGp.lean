/- The laws' letters: to, cut, waxes. -/
import Derived.Test.YtjkhokholcchfaaDoorGo
import Derived.BigQuiet
import Derived.Deep.DeepCutAuto
section
namespace Go.Proofs.YtjkhokholcchfaaDoor
open Go.RowKit Sha

theorem splice_twoW (x a b : List Value) (n m : Nat) (ha : a.length = n) (hb : b.length = m) (hx : x.length = n + m) : splice (splice x 0 a) n b = a ++ b := by
  unfold splice
  rw [List.take_zero, List.nil_append, Nat.zero_add, List.take_append, ha, Nat.sub_self, List.take_zero, List.append_nil, List.take_of_length_le (by omega), List.drop_append, ha, hb, List.drop_eq_nil_of_le (by omega), List.nil_append, List.drop_drop, List.drop_eq_nil_of_le (by omega), List.append_nil]
theorem buildKeysW (H M : List UInt8) (hH : H.length = 32) (hM : M.length = 32) (w : World) : (Instr.build 45 #[(0, .agg (byteCells H).toArray), (1, .agg (byteCells M).toArray)]).run Tryd.prog w = .ok (.agg (keyCells H M).toArray) w := by
  refine Ci.run_build_struct w _ (Tryd.prog.fieldsOf 45) #[(0, 32), (32, 32)] (.agg (zeros 64).toArray) _ _ (by kernel_rfl) (by kernel_rfl) (by kernel_rfl) ?_
  show Instr.fill _ (zeros 64).toArray [(0, .agg (byteCells H).toArray), (1, .agg (byteCells M).toArray)] = _
  have h1 : (byteCells H).length = 32 := by rw [byteCells_length, hH]
  have h2 : (byteCells M).length = 32 := by rw [byteCells_length, hM]
  have hz : (zeros 64).length = 64 := by simp [zeros]
  rw [Ci.fill_cells _ (zeros 64) 0 _ (byteCells H) rfl _ 0 (by rw [h1]; rfl) (by rw [h1, hz]; omega), Ci.fill_cells _ (splice (zeros 64) 0 (byteCells H)) 1 _ (byteCells M) rfl _ 32 (by rw [h2]; rfl) (by rw [h2, Ci.splice_keep (by rw [h1, hz]; omega), hz]; omega), splice_twoW _ _ _ 32 32 h1 h2 hz]
  rfl
theorem zeroKeys (w : World) : (zeroValue 45).run Tryd.prog w = .ok (.agg (zeros 64).toArray) w := by kernel_rfl
theorem range_keys {w : World} {g : Nat} {H M : List UInt8} {t : TypeId} (hH : H.length = 32) (h : blockIs w g (keyCells H M) t) : w.rangeAt g 0 (byteCells H) ∧ w.rangeAt g 32 (byteCells M) := by
  refine ⟨rangeAt_block (p := []) (cs := byteCells H) (q := byteCells M) h, ?_⟩
  have := rangeAt_block (p := byteCells H) (cs := byteCells M) (q := []) (by rw [List.append_nil]; exact h)
  rwa [byteCells_length, hH] at this

set_option maxRecDepth 100000 in
set_option maxHeartbeats 2000000 in
theorem to_any (H M : List UInt8) (w : World) (hH : H.length = 32) (hM : M.length = 32) :
    Calls Tryd.prog 22 #[.agg (keyCells H M).toArray] w fun e w' => e = .returned (.agg (keyCells H M).toArray) ∧ Below w.heap.size w w' := by
  have KL : Hid ((keyCells H M).length = 64) := Lib.hid (keyCells_length hH hM)
  have HHB : Hid ((byteCells H).length = 32) := Lib.hid (by rw [byteCells_length]; exact hH)
  have HMB : Hid ((byteCells M).length = 32) := Lib.hid (by rw [byteCells_length]; exact hM)
  have G0 := (blockIs.new w (keyCells H M) 36).alloc (.cells (zeros 64).toArray 45 (0, 0))
  have R1 := Lib.hid (range_keys hH G0).1
  have R2 := Lib.hid (range_keys hH G0).2
  have A0 := alloc_below w (.cells (keyCells H M).toArray 36 (0, 0))
  have B1 := Lib.hid (A0.alloc A0.size (.cells (zeros 64).toArray 45 (0, 0)))
  have S1 := Lib.hid (blockIs.last (w.alloc (.cells (keyCells H M).toArray 36 (0, 0))) (zeros 64) 45 (w.heap.size + 1) (by simp))
  have HB := Lib.hid (fun X => buildKeysW H M hH hM X)
  have ONE : Hid (∀ v ∈ keyCells H M, v.oneCell' = true) := Lib.hid (by
    intro v hv
    rcases List.mem_append.1 hv with h | h
    · exact byteCells_one _ v h
    · exact byteCells_one _ v h)
  have hz := zeroKeys
  clear G0 A0 hH hM
  generalize byteCells H = LH at *
  generalize byteCells M = LM at *
  generalize keyCells H M = C at *
  go_enter Tryd.func22, Tryd.ntmps22
  go_upto_region 1 with fail
  generalize (w.alloc (.cells C.toArray 36 (0, 0))).alloc (.cells (zeros 64).toArray 45 (0, 0)) = w1 at *
  go_wp2_with (first
    | (refine Ci.wpList_load_mid_if (by rfl) 34 _ rfl w.heap.size 0 rfl LH _ R1.out Tryd.underlying34 rfl (by rw [info28, HHB.out]) ?_)
    | (refine Ci.wpList_load_mid_if (by rfl) 34 _ rfl w.heap.size 32 rfl LM _ R2.out Tryd.underlying34 rfl (by rw [info28, HMB.out]) ?_)
    | (refine Ci.wpList_build rfl 45 _ rfl _ _ (HB.out _) rfl ?_)
    | (refine wpList_store_block rfl 45 _ _ rfl (w.heap.size + 1) 0 C rfl rfl (zeros 64) 45 S1.out (by rw [infoKeys, KL.out]) (by simp [zeros, KL.out]) ONE.out ?_))
  intro w6 h1 h2 h3
  have h1 := h1.out
  rw [splice_all _ _ (by simp [zeros, KL.out])] at h1
  have E6 := Lib.hid h1
  have B6 := Lib.hid (B1.out.trans (h2.out.below (Nat.le_succ _) B1.out.size))
  clear h1 h2 h3
  go_wp2_with fail
  refine bodyPost_ret (v := .agg C.toArray) (results_cell_row rfl _ _ (w.heap.size + 1) 45 _ (0, 0) _ rfl E6.out Tryd.underlying45 rfl (by rw [infoKeys]; simp [KL.out])) rfl ?_
  exact ⟨rfl, B6.out⟩
set_option maxRecDepth 100000 in
theorem cut_any (a : Option Addr) (n c : Nat) (w : World) (hn : n ≤ c) (_hc : c ≤ 9223372036854775807) :
    Calls Tryd.prog 20 #[.slice a n c] w fun e w' => e = .returned (.slice a (min n 150) c) ∧ w = w' := by
  go_enter Tryd.func20, Tryd.ntmps20
  go_wp2
  · have hlt : 150 < (n : Int) := by assumption
    go_ret
    exact ⟨ret_slice (by omega), rfl⟩
  · have hle : (n : Int) ≤ 150 := by assumption
    go_ret
    exact ⟨ret_slice (by omega), rfl⟩
end Go.Proofs.YtjkhokholcchfaaDoor
end
section
/- The laws' first question: waxes. Letters in memory. -/
namespace Go.Proofs.YtjkhokholcchfaaDoor
open Go.RowKit Sha

def Z32 : List UInt8 := List.replicate 32 0
def N5 : List UInt8 := 5 :: List.replicate 15 0
theorem buildZeroKeys (w : World) : (Instr.build 45 #[]).run Tryd.prog w = .ok (.agg (keyCells Z32 Z32).toArray) w := by kernel_rfl
theorem buildN5 (w : World) : (Instr.build 28 #[(0, .int .u8 5)]).run Tryd.prog w = .ok (.agg (byteCells N5).toArray) w := by kernel_rfl
/-- What of one's own lies somewhere. -/
theorem own_at {w : World} {base : Nat} {v : Value} {l : List UInt8} (h : Ci.ownB w base v l) (h0 : l ≠ []) : ∃ g c, v = .slice (some ⟨g, 0, none⟩) l.length c ∧ base ≤ g ∧ g < w.heap.size ∧ l.length ≤ c ∧ c ≤ 9223372036854775807 ∧ bytesIn w (some ⟨g, 0, none⟩) l := by
  obtain ⟨a, c, hv, h1, h2, h3, h4⟩ := h.form
  rcases h.2 with ⟨hn, hl⟩ | ⟨g, cap, cur, he, hg, hc, _⟩
  · exact absurd (List.eq_nil_of_length_eq_zero hl) h0
  · rw [hv] at he
    cases he
    exact ⟨g, _, hv, hg, (Array.getElem?_eq_some_iff.1 hc).1, h1, h2, h3⟩
theorem bytesIn.head {w : World} {bb bo : Nat} {x : UInt8} {l : List UInt8} (h : bytesIn w (some ⟨bb, bo, none⟩) (x :: l)) : w.cell? ⟨bb, bo, none⟩ = some (.int .u8 (V x)) := by
  rcases h with h | ⟨b2, o2, e, hc⟩
  · cases h
  · cases e
    exact hc 0 (by simp)

set_option maxRecDepth 100000 in
set_option maxHeartbeats 4000000 in
theorem waxes_any (w : World) (ht : tables w) : Calls Tryd.prog 19 #[] w fun e w' => e = .returned (.bool true) ∧ Below w.heap.size w w' := by
  have G1 := Lib.hid (blockIs.new w (keyCells Z32 Z32) 45)
  have B1 := Lib.hid (alloc_below w (.cells (keyCells Z32 Z32).toArray 45 (0, 0)))
  have T1 := Lib.hid (ht.below B1.out ht.2.2.1 ht.2.2.2)
  have KL : Hid ((keyCells Z32 Z32).length = 64) := Lib.hid rfl
  have CS := Lib.hid (fun X (hX : tables X) => seal_ok Z32 Z32 N5 1 [97] none 0 [] X rfl rfl rfl (by decide) (by decide) (by decide) (Or.inl rfl) hX)
  have CO := Lib.hid (fun X a c h1 h2 h3 h4 => open_at Z32 Z32 N5 [] (wmark Z32 1 [97] N5 []) 1 [97] a c X rfl rfl rfl (wmark_length _ _ _ _ _) (by decide) (by decide) h1 h2 h3 h4)
  have HW : Hid (wseal Z32 Z32 1 [97] N5 [].flatten = N5 ++ ([] ++ wmark Z32 1 [97] N5 [])) := Lib.hid rfl
  have HZ : Hid (whide Z32 N5 [] = []) := Lib.hid rfl
  have HL : Hid ((N5 ++ ([] ++ wmark Z32 1 [97] N5 [])).length = 48) := Lib.hid (by rw [List.nil_append, List.length_append, wmark_length]; rfl)
  have HN : Hid (N5 = 5 :: List.replicate 15 0) := Lib.hid rfl
  have hb := buildZeroKeys
  have hb5 := buildN5
  rw [HW.out] at CS
  change Hid (∀ X, tables X → Calls Tryd.prog 23 #[.agg (keyCells Z32 Z32).toArray, .int .u8 1, .string { data := #[97] }, .agg (byteCells N5).toArray, .slice none 0 0] X _) at CS
  change Hid (∀ X a c h1 h2 h3 h4, Calls Tryd.prog 25 #[.agg (keyCells Z32 Z32).toArray, .int .u8 1, .string { data := #[97] }, .slice a 48 c] X _) at CO
  have c5 : V 5 = 5 := rfl
  have ht := Lib.hid ht
  clear HW
  generalize wmark Z32 1 [97] N5 [] = M at *
  generalize whide Z32 N5 [] = E at *
  generalize N5 = NN at *
  generalize byteCells NN = NB at *
  have ONE : Hid (∀ v ∈ keyCells Z32 Z32, v.oneCell' = true) := Lib.hid (by
    intro v hv
    rcases List.mem_append.1 hv with h | h
    · exact byteCells_one _ v h
    · exact byteCells_one _ v h)
  have KZ : keyCells Z32 Z32 = zeros 64 := by kernel_rfl
  rw [KZ] at G1 B1 T1 KL CS CO ONE
  clear hb KZ
  have hzk := zeroKeys
  generalize zeros 64 = C at *
  go_enter Tryd.func19, Tryd.ntmps19
  go_wp2_with (refine wpList_store_block rfl 45 _ _ rfl w.heap.size 0 C rfl rfl C 45 G1.out (by rw [infoKeys, KL.out]) (by rw [KL.out]; decide) ONE.out ?_)
  intro w2 h1 h2 h3
  have h1 := h1.out
  rw [splice_all _ _ rfl] at h1
  have G2 := Lib.hid h1
  have B2 := Lib.hid (B1.out.trans ((h2.out.below (Nat.le_refl _) B1.out.size).mono (Nat.le_refl _)))
  have T2 := Lib.hid (ht.out.below B2.out ht.out.2.2.1 ht.out.2.2.2)
  have RK := Lib.hid (Ci.range_of G2.out)
  have CS2 := Lib.hid (CS.out w2 T2.out)
  clear h1 h2 h3 G1 B1 T1 CS hzk
  go_wp2_with (first
    | (refine Ci.wpList_load_mid_if (by rfl) 45 _ rfl w.heap.size 0 rfl C _ RK.out Tryd.underlying45 rfl (by rw [infoKeys, KL.out]) ?_)
    | (refine Ci.wpList_build rfl 28 _ rfl _ _ (hb5 _) rfl ?_))
  with_reducible refine CS2.out.mono ?_
  rintro e w3 ⟨v, rfl, ho, kk⟩
  obtain ⟨g, c, rfl, hg1, hg2, hc1, hc2, hi⟩ := own_at ho (by intro h; have := congrArg List.length h; rw [HL.out] at this; cases this)
  rw [HL.out] at hc1 ⊢
  have B3 := Lib.hid (B2.out.trans (kk.mono B2.out.size))
  have G3 := Lib.hid (G2.out.below kk G2.out.lt)
  have T3 := Lib.hid (T2.out.below kk T2.out.2.2.1 T2.out.2.2.2)
  have I3 := Lib.hid hi
  have RK := Lib.hid (Ci.range_of G3.out)
  have CO3 := Lib.hid (CO.out w3 (some ⟨g, 0, none⟩) c (by simpa using hc1) hc2 I3.out T3.out)
  clear kk ho hg1 hg2 hi CS2 CO G2 B2 T2 hb5
  go_wp2_with (refine Ci.wpList_load_mid_if (by rfl) 45 _ rfl w.heap.size 0 rfl C _ RK.out Tryd.underlying45 rfl (by rw [infoKeys, KL.out]) ?_)
  with_reducible refine CO3.out.mono ?_
  rintro e w4 ⟨v, n, rfl, hy, -, kk⟩
  obtain ⟨rfl, ho⟩ := hy trivial
  obtain ⟨a, c', rfl, _, _, _, _⟩ := ho.form
  rw [HZ.out]
  have c0 : w4.cell? ⟨g, 0, none⟩ = some (.int .u8 5) := by
    have := I3.out.below kk
    rw [HN.out, List.cons_append] at this
    exact this.head
  have B4 := Lib.hid (B3.out.trans (kk.mono B3.out.size))
  have q0 : (0 : Int) ≤ 0 := by omega
  have q1 : (0 : Int) < 48 := by omega
  clear ho hy kk CO3 G3 B3 T3 I3
  go_wp2_with fail
  go_ret
  exact ⟨rfl, B4.out⟩
end Go.Proofs.YtjkhokholcchfaaDoor
end
section
/- What Seal and Open answer, as plain functions; letters in memory. -/
namespace Go.Proofs.YtjkhokholcchfaaDoor
open Go.RowKit Sha

def openR (H M : List UInt8) (kd : UInt8) (nm b : List UInt8) : List UInt8 × Int :=
  if 255 < nm.length then ([], 5) else if b.length < 48 then ([], 10)
  else if b.drop (b.length - 32) = wmark M kd nm (b.take 16) ((b.take (b.length - 32)).drop 16) then (whide H (b.take 16) ((b.take (b.length - 32)).drop 16), 0) else ([], 10)
def sealR (H M : List UInt8) (kd : UInt8) (nm N b : List UInt8) : List UInt8 × Int := if 255 < nm.length then ([], 5) else (wseal H M kd nm N b, 0)
theorem cut3 (b : List UInt8) (h : 48 ≤ b.length) : b = b.take 16 ++ ((b.take (b.length - 32)).drop 16 ++ b.drop (b.length - 32)) := by
  rw [← List.append_assoc]
  have e : b.take 16 ++ (b.take (b.length - 32)).drop 16 = b.take (b.length - 32) := by
    have := List.take_append_drop 16 (b.take (b.length - 32))
    rwa [List.take_take, Nat.min_eq_left (by omega)] at this
  rw [e, List.take_append_drop]
theorem openR_at (H M : List UInt8) (kd : UInt8) (nm N X D : List UInt8) (hN : N.length = 16) (hD : D.length = 32) (hnm : nm.length ≤ 255) : openR H M kd nm (N ++ (X ++ D)) = if D = wmark M kd nm N X then (whide H N X, 0) else ([], 10) := by
  have hl : (N ++ (X ++ D)).length = X.length + 48 := by simp only [List.length_append]; omega
  have e1 : (N ++ (X ++ D)).take 16 = N := by rw [← hN]; simp
  have e2 : ((N ++ (X ++ D)).take ((N ++ (X ++ D)).length - 32)).drop 16 = X := by
    rw [hl, show X.length + 48 - 32 = N.length + X.length by omega, List.take_length_add_append, ← hN]
    simp
  have e3 : (N ++ (X ++ D)).drop ((N ++ (X ++ D)).length - 32) = D := by
    rw [hl, ← List.append_assoc, show X.length + 48 - 32 = (N ++ X).length by rw [List.length_append]; omega]
    simp
  unfold openR
  rw [if_neg (by omega), if_neg (by omega), e1, e2, e3]
theorem own_nil (w : World) (base : Nat) : Ci.ownB w base (.slice none 0 0) [] := World.ownsRow_nil _ _ _ _
theorem openR_any (H M : List UInt8) (kd : UInt8) (nm b : List UInt8) (a : Option Addr) (c : Nat) (w : World) (hH : H.length = 32) (hM : M.length = 32) (hb : b.length ≤ 800000) (hc : b.length ≤ c) (hcm : c ≤ 9223372036854775807) (hi : bytesIn w a b) (ht : tables w) :
    Calls Tryd.prog 25 #[.agg (keyCells H M).toArray, .int .u8 (V kd), .string (str nm), .slice a b.length c] w fun e w' => ∃ v, e = .returned (.tuple #[v, .int .i64 (openR H M kd nm b).2]) ∧ Ci.ownB w' w.heap.size v (openR H M kd nm b).1 ∧ Below w.heap.size w w' := by
  by_cases h1 : 255 < nm.length
  · have e : openR H M kd nm b = ([], 5) := by unfold openR; rw [if_pos h1]
    rw [e]
    exact (open_name _ kd nm a b.length c w h1).mono fun e w' ⟨h2, h3⟩ => ⟨_, h2, own_nil _ _, h3⟩
  · by_cases h2 : b.length < 48
    · have e : openR H M kd nm b = ([], 10) := by unfold openR; rw [if_neg h1, if_pos h2]
      rw [e]
      exact (open_short _ kd nm a b.length c w (by omega) h2).mono fun e w' ⟨h2, h3⟩ => ⟨_, h2, own_nil _ _, h3⟩
    · obtain ⟨N, X, D, rfl, hN, hD⟩ : ∃ N X D : List UInt8, b = N ++ (X ++ D) ∧ N.length = 16 ∧ D.length = 32 := ⟨_, _, _, cut3 b (by omega), by rw [List.length_take]; omega, by rw [List.length_drop]; omega⟩
      have hl : (N ++ (X ++ D)).length = X.length + 48 := by simp only [List.length_append]; omega
      rw [openR_at H M kd nm N X D hN hD (by omega), hl]
      refine (open_at H M N X D kd nm a c w hH hM hN hD (by omega) (by omega) (by omega) hcm hi ht).mono ?_
      rintro e w' ⟨v, n, he, hy, hn, hk⟩
      by_cases hd : D = wmark M kd nm N X
      · obtain ⟨rfl, ho⟩ := hy hd
        rw [if_pos hd]
        exact ⟨v, he, ho, hk⟩
      · obtain ⟨rfl, rfl⟩ := hn hd
        rw [if_neg hd]
        exact ⟨_, he, own_nil _ _, hk⟩
theorem docOpenR_any (H M : List UInt8) (kd : UInt8) (nm b : List UInt8) (w : World) (hH : H.length = 32) (hM : M.length = 32) (hb : b.length ≤ 1000) :
    Calls Tryd.prog 24 #[.agg (keyCells H M).toArray, .int .u8 (V kd), .string (str nm), .string (str b)] w fun e w' => e = .returned (.tuple #[.string (str (openR H M kd nm b).1), .int .i64 (openR H M kd nm b).2]) ∧ Below w.heap.size w w' := by
  by_cases h1 : 255 < nm.length
  · have e : openR H M kd nm b = ([], 5) := by unfold openR; rw [if_pos h1]
    rw [e]
    exact docOpen_name _ kd nm b w h1
  · by_cases h2 : b.length < 48
    · have e : openR H M kd nm b = ([], 10) := by unfold openR; rw [if_neg h1, if_pos h2]
      rw [e]
      exact docOpen_short _ kd nm b w (by omega) h2
    · obtain ⟨N, X, D, rfl, hN, hD⟩ : ∃ N X D : List UInt8, b = N ++ (X ++ D) ∧ N.length = 16 ∧ D.length = 32 := ⟨_, _, _, cut3 b (by omega), by rw [List.length_take]; omega, by rw [List.length_drop]; omega⟩
      have hl : (N ++ (X ++ D)).length = X.length + 48 := by simp only [List.length_append]; omega
      rw [openR_at H M kd nm N X D hN hD (by omega)]
      refine (docOpen_at H M N X D kd nm w hH hM hN hD (by omega) (by omega)).mono ?_
      rintro e w' ⟨hy, hn, hk⟩
      by_cases hd : D = wmark M kd nm N X
      · rw [if_pos hd]
        exact ⟨hy hd, hk⟩
      · rw [if_neg hd]
        exact ⟨hn hd, hk⟩
theorem sealR_any (H M N : List UInt8) (kd : UInt8) (nm : List UInt8) (a : Option Addr) (c : Nat) (ls : List (List UInt8)) (w : World) (hH : H.length = 32) (hM : M.length = 32) (hN : N.length = 16) (hl : ls.length ≤ 100000) (hm : ls.flatten.length ≤ 800000) (hp : partsW w a ls) (ht : tables w) :
    Calls Tryd.prog 23 #[.agg (keyCells H M).toArray, .int .u8 (V kd), .string (str nm), .agg (byteCells N).toArray, .slice a ls.length c] w fun e w' => ∃ v, e = .returned (.tuple #[v, .int .i64 (sealR H M kd nm N ls.flatten).2]) ∧ Ci.ownB w' w.heap.size v (sealR H M kd nm N ls.flatten).1 ∧ Below w.heap.size w w' := by
  by_cases h1 : 255 < nm.length
  · have e : sealR H M kd nm N ls.flatten = ([], 5) := by unfold sealR; rw [if_pos h1]
    rw [e]
    exact (seal_name _ _ kd nm a ls.length c w h1).mono fun e w' ⟨h2, h3⟩ => ⟨_, h2, own_nil _ _, h3⟩
  · have e : sealR H M kd nm N ls.flatten = (wseal H M kd nm N ls.flatten, 0) := by unfold sealR; rw [if_neg h1]
    rw [e]
    exact seal_ok H M N kd nm a c ls w hH hM hN (by omega) hl hm hp ht
theorem docSealR_any (H M N : List UInt8) (kd : UInt8) (nm B : List UInt8) (w : World) (hH : H.length = 32) (hM : M.length = 32) (hN : N.length = 16) (hB : B.length ≤ 1000) :
    Calls Tryd.prog 21 #[.agg (keyCells H M).toArray, .int .u8 (V kd), .string (str nm), .agg (byteCells N).toArray, .string (str B)] w fun e w' => e = .returned (.tuple #[.string (str (sealR H M kd nm N B).1), .int .i64 (sealR H M kd nm N B).2]) ∧ Below w.heap.size w w' := by
  by_cases h1 : 255 < nm.length
  · have e : sealR H M kd nm N B = ([], 5) := by unfold sealR; rw [if_pos h1]
    rw [e]
    exact docSeal_name _ _ kd nm B w h1
  · have e : sealR H M kd nm N B = (wseal H M kd nm N B, 0) := by unfold sealR; rw [if_neg h1]
    rw [e]
    exact docSeal_ok H M N kd nm B w hH hM hN (by omega) hB
/-- A letter's cells. -/
def letterCells (H M : List UInt8) (kd : UInt8) (nm N : List UInt8) (v : Value) : List Value := keyCells H M ++ (.int .u8 (V kd) :: .string (str nm) :: (byteCells N ++ [v]))
/-- A letter in memory. -/
structure letterAt (X : World) (g : Nat) (H M : List UInt8) (kd : UInt8) (nm N : List UInt8) (v : Value) : Prop where
  keys : X.rangeAt g 0 (keyCells H M)
  kind : X.cell? ⟨g, 64, none⟩ = some (.int .u8 (V kd))
  name : X.cell? ⟨g, 65, none⟩ = some (.string (str nm))
  nonce : X.rangeAt g 66 (byteCells N)
  bytes : X.cell? ⟨g, 82, none⟩ = some v
theorem letter_of {X : World} {g : Nat} {H M : List UInt8} {kd : UInt8} {nm N : List UInt8} {v : Value} {t : TypeId} (hH : H.length = 32) (hM : M.length = 32) (hN : N.length = 16) (h : blockIs X g (letterCells H M kd nm N v) t) : letterAt X g H M kd nm N v := by
  have hk := keyCells_length hH hM
  refine ⟨rangeAt_block (p := []) (cs := keyCells H M) h, ?_, ?_, ?_, ?_⟩
  · rw [h.cell]; unfold letterCells; rw [List.getElem?_append_right (by omega), hk]; rfl
  · rw [h.cell]; unfold letterCells; rw [List.getElem?_append_right (by omega), hk]; rfl
  · have := rangeAt_block (p := keyCells H M ++ [.int .u8 (V kd), .string (str nm)]) (cs := byteCells N) (q := [v]) (by simpa [letterCells] using h)
    rwa [List.length_append, hk] at this
  · rw [h.cell]; unfold letterCells
    rw [List.getElem?_append_right (by omega), hk, show 82 - 64 = 16 + 1 + 1 from rfl, List.getElem?_cons_succ, List.getElem?_cons_succ, List.getElem?_append_right (by rw [byteCells_length]; omega), byteCells_length, hN]
    rfl
theorem letterAt.below {X Y : World} {g : Nat} {H M : List UInt8} {kd : UInt8} {nm N : List UInt8} {v : Value} (h : letterAt X g H M kd nm N v) (k : Below X.heap.size X Y) : letterAt Y g H M kd nm N v :=
  have c : ∀ {p : Addr} {u : Value}, X.cell? p = some u → Y.cell? p = some u := fun {p _u} e => (k.cell (p := p) (block_lt_of_cell e)).trans e
  ⟨fun j u hj => c (h.keys j u hj), c h.kind, c h.name, fun j u hj => c (h.nonce j u hj), c h.bytes⟩
theorem infoLetter : (Tryd.prog.info? 38).map (·.size) = some 83 := by kernel_rfl
end Go.Proofs.YtjkhokholcchfaaDoor
end
section
/- What wax's laws ask: Seal over a literal of parts that was laid at some time before. -/
namespace Go.Proofs.YtjkhokholcchfaaDoor
open Go.RowKit Sha

theorem slice_lenW {a : Option Addr} {n m c : Nat} (h : n = m) : Value.slice a n c = .slice a m c := by rw [h]
theorem partsW_at {W X : World} {g : Nat} {ps : List Pt} (h : cellsAt X g (ps.map Pt.val)) (hX : Below W.heap.size W X) (hp : ∀ p ∈ ps, p.ok0 W) : partsW X (some ⟨g, 0, none⟩) (ps.map Pt.l) := by
  refine Or.inr ⟨_, _, rfl, fun j hj => ?_⟩
  rw [List.length_map] at hj
  obtain ⟨⟨h1, h2, h3⟩, h4⟩ := hp ps[j] (List.getElem_mem hj)
  have e : (ps.map Pt.l).getD j [] = ps[j].l := by simp [hj]
  rw [e]
  refine ⟨ps[j].a, ps[j].c, ?_, h1, h2, h4, h3.below hX⟩
  rw [Nat.zero_add]
  exact h j _ (by simp [hj, Pt.val])
theorem seal_at (W : World) (H M N : List UInt8) (kd : UInt8) (nm : List UInt8) (hH : H.length = 32) (hM : M.length = 32) (hN : N.length = 16) (hW : tables W) (ps : List Pt) (vs : List Value) (hvs : vs = ps.map Pt.val) (hp : ∀ p ∈ ps, p.ok0 W) (L : List UInt8) (hL : (ps.map Pt.l).flatten = L) (hm : L.length ≤ 800000) (n : Nat) (hn : n = ps.length) (hn2 : n ≤ 100000) (X : World) (g : Nat) (hX : Below W.heap.size W X) (hc : cellsAt X g vs) :
    Calls Tryd.prog 23 #[.agg (keyCells H M).toArray, .int .u8 (V kd), .string (str nm), .agg (byteCells N).toArray, .slice (some ⟨g, 0, none⟩) n n] X fun e w' => ∃ v, e = .returned (.tuple #[v, .int .i64 (sealR H M kd nm N L).2]) ∧ Ci.ownB w' X.heap.size v (sealR H M kd nm N L).1 ∧ Below X.heap.size X w' := by
  subst hvs hn hL
  have := sealR_any H M N kd nm (some ⟨g, 0, none⟩) ps.length (ps.map Pt.l) X hH hM hN (by simpa using hn2) hm (partsW_at hc hX hp) (hW.below hX hW.2.2.1 hW.2.2.2)
  rwa [List.length_map] at this
theorem Pt.ok0_of {w : World} {base : Nat} {v : Value} {l : List UInt8} (h : Ci.ownB w base v l) : ∃ a c, v = .slice a l.length c ∧ Pt.ok0 w ⟨a, c, l⟩ := by
  obtain ⟨a, c, hv, h1, h2, h3, h4⟩ := h.form
  exact ⟨a, c, hv, ⟨h1, h2, h3⟩, h4⟩
end Go.Proofs.YtjkhokholcchfaaDoor
end
