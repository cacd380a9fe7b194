/- The laws' first question: hides. -/
import Derived.Test.YtfhlcondnaahiaaDoorGi
import Derived.Laws.AppendOwnNone
import Derived.OwnWalk
import Derived.Lib.AppendZeros
import Derived.Great.FillDense
section
namespace Go.Proofs.YtfhlcondnaahiaaDoor.Ci
open Go.RowKit Sha Aes

theorem info_u8 : (Tryd.prog.info? 5).map (fun i => (i.zero, i.size, i.bytes)) = some (some (.int .u8 0), 1, 1) := by kernel_rfl
theorem grown_below {w w' : World} {base : Nat} {v : Value} {e : TypeId} {n : Nat} {xs : List Value} (h : w.ownsRow base e 1 v n xs) (hg : w.grownBy w' v.ownBlock) (hB : base ≤ w.heap.size) : Below base w w' :=
  (Below.refl base w).grown hg hB fun k hk => (h.lt k hk).1
/-- A row of bytes of the call's own. -/
def ownB (w : World) (base : Nat) (v : Value) (l : List UInt8) : Prop := w.ownsRow base 5 1 v l.length (byteCells l)
theorem ownB.form {w : World} {base : Nat} {v : Value} {l : List UInt8} (h : ownB w base v l) : ∃ a c, v = .slice a l.length c ∧ l.length ≤ c ∧ c ≤ 9223372036854775807 ∧ bytesIn w a l ∧ (a = none → c = 0) := by
  have hc := fun g hg => World.ownsRow.cells h (g := g) hg
  rcases h.2 with ⟨rfl, hn⟩ | ⟨g, cap, cur, rfl, _, _, hnc, hcm, _, _⟩
  · exact ⟨none, 0, by rw [hn], by omega, by decide, Or.inl (List.eq_nil_of_length_eq_zero hn), fun _ => rfl⟩
  · refine ⟨some ⟨g, 0, none⟩, cap, rfl, hnc, by unfold maxLen at hcm; omega, Or.inr ⟨g, 0, rfl, fun j hj => ?_⟩, fun h => by cases h⟩
    have := hc g rfl j (.int .u8 (V (l.getD j 0))) (byteCells_get _ _ hj)
    rwa [Addr.add_lit] at this
theorem ownB.other {w : World} {base : Nat} {v : Value} {l : List UInt8} (h : ownB w base v l) (a : Addr) (x : Value) (ha : a.block < base) : ownB (w.setCell a x) base v l := by
  refine ⟨h.1, ?_⟩
  rcases h.2 with hn | ⟨g, cap, cur, h1, h2, h3, rest⟩
  · exact .inl hn
  · exact .inr ⟨g, cap, cur, h1, h2, by rw [heap_setCell_other w a g x (by omega)]; exact h3, rest⟩
theorem byteCells_append (a b : List UInt8) : byteCells (a ++ b) = byteCells a ++ byteCells b := by simp [byteCells]
end Go.Proofs.YtfhlcondnaahiaaDoor.Ci
end
section
/- The law CipherSizes: its walk. -/
namespace Go.Proofs.YtfhlcondnaahiaaDoor.Ci
open Go.RowKit Sha Aes

end Go.Proofs.YtfhlcondnaahiaaDoor.Ci
end
section
/- cipher.Key.block: the block of a count. -/
namespace Go.Proofs.YtfhlcondnaahiaaDoor.Ci
open Go.RowKit Sha Aes

/-- A number and another: the carry and the bytes behind k of its places, from the last one on. -/
def addSt (N : List UInt8) (n : Nat) : Nat → Nat × List UInt8
  | 0 => (n, N)
  | k + 1 => (((addSt N n k).1 + ((addSt N n k).2.getD (15 - k) 0).toNat) / 256, (addSt N n k).2.set (15 - k) (UInt8.ofNat ((addSt N n k).1 + ((addSt N n k).2.getD (15 - k) 0).toNat)))
def plus (N : List UInt8) (n : Nat) : List UInt8 := (addSt N n 16).2
theorem addSt_len (N : List UInt8) (n k : Nat) : (addSt N n k).2.length = N.length := by
  induction k with
  | zero => rfl
  | succ k ih => rw [addSt]; simp [ih]
theorem addSt_le (N : List UInt8) (n k : Nat) : (addSt N n k).1 ≤ n + 1 := by
  induction k with
  | zero => exact Nat.le_succ _
  | succ k ih =>
    rw [addSt]
    have := ((addSt N n k).2.getD (15 - k) 0).toNat_lt
    show ((addSt N n k).1 + _) / 256 ≤ _
    omega
theorem plus_len (N : List UInt8) (n : Nat) : (plus N n).length = N.length := addSt_len N n 16

set_option maxRecDepth 100000 in
set_option maxHeartbeats 4000000 in
theorem block_any (g : Nat) (ws : List W) (N : List UInt8) (n : Nat) (w : World) (hN : N.length = 16) (hn : n ≤ 36028797018963968) (hk : blockIs w g (keyRow ws) 182) :
    Calls Tryd.prog 101 #[.pointer (some ⟨g, 0, none⟩), .agg (byteCells N).toArray, .int .i64 n] w fun e w' => e = .returned (.agg (byteCells (Aes.turn ws (plus N n))).toArray) ∧ Below w.heap.size w w' := by
  have hz := zeroBlk
  have HNL := Lib.hid hN
  have HGL : Hid (g < w.heap.size) := Lib.hid hk.lt
  have D0 := Lib.hid (blockIs.new w (byteCells N) 106)
  have A0 := Lib.hid (alloc_below w (.cells (byteCells N).toArray 106 (0, 0)))
  have S0 : Hid ((w.alloc (.cells (byteCells N).toArray 106 (0, 0))).heap.size = w.heap.size + 1) := Lib.hid (by simp)
  have N1 := Lib.hid (blockIs.new (w.alloc (.cells (byteCells N).toArray 106 (0, 0))) (zeros 16) 106)
  have B1 := Lib.hid (alloc_below (w.alloc (.cells (byteCells N).toArray 106 (0, 0))) (.cells (zeros 16).toArray 106 (0, 0)))
  rw [S0.out] at N1 B1
  have D1 := Lib.hid (D0.out.below B1.out (Nat.lt_succ_self _))
  have A1 := Lib.hid (A0.out.trans (B1.out.mono (Nat.le_succ _)))
  have K1 := Lib.hid (hk.below A1.out hk.lt)
  have I1 : Hid (tout w g ws (addSt N n 0).2 ((w.alloc (.cells (byteCells N).toArray 106 (0, 0))).alloc (.cells (zeros 16).toArray 106 (0, 0)))) := Lib.hid ⟨A1.out, K1.out, D1.out, N1.out⟩
  clear D0 A0 S0 B1 D1 A1 K1 N1 hN hk
  have u1 : IntKind.u64.wrap (n : Int) = (n : Int) := IntWalk.u64_in _ (by omega)
  go_enter Tryd.func101, Tryd.ntmps101
  go_wp2_with fail
  generalize (w.alloc (.cells (byteCells N).toArray 106 (0, 0))).alloc (.cells (zeros 16).toArray 106 (0, 0)) = w2 at *
  clear hz u1
  go_loopw [8, 7] (fun i c wr => ∃ k : Nat, k ≤ 16 ∧ i = .int .i64 (15 - (k : Int)) ∧ c = .int .u64 ((addSt N n k).1 : Nat) ∧ tout w g ws (addSt N n k).2 wr) (fun i _ _ => (intOf i + 1).toNat)
  case atStart => exact ⟨0, by omega, rfl, rfl, I1.out⟩
  case round =>
    obtain ⟨k, hk, rfl, rfl, h1⟩ := hrel
    have H1 := Lib.hid h1
    clear h1
    by_cases hlt : k < 16
    · have q0 : 0 ≤ 15 - (k : Int) := by omega
      have q1 : 15 - (k : Int) < 16 := by omega
      have q2 : (15 - (k : Int)).toNat = 15 - k := by omega
      have HLE := Lib.hid (addSt_le N n k)
      have HLN : Hid ((addSt N n k).2.length = 16) := Lib.hid (by rw [addSt_len, HNL.out])
      have HS : Hid (addSt N n (k + 1) = (((addSt N n k).1 + ((addSt N n k).2.getD (15 - k) 0).toNat) / 256, (addSt N n k).2.set (15 - k) (UInt8.ofNat ((addSt N n k).1 + ((addSt N n k).2.getD (15 - k) 0).toNat)))) := Lib.hid rfl
      generalize (addSt N n k).1 = c at *
      generalize (addSt N n k).2 = l at *
      obtain ⟨b, hb⟩ : ∃ b, b = l.getD (15 - k) 0 := ⟨_, rfl⟩
      have d1 : wr.cell? ⟨w.heap.size, 15 - k, none⟩ = some (.int .u8 (V b)) := by rw [H1.out.2.2.1.cell, hb]; exact byteCells_get l _ (by rw [HLN.out]; omega)
      rw [← hb] at HS
      clear hb
      have b0 := b.toNat_lt
      have le := HLE.out
      obtain ⟨s, hs⟩ : ∃ s, s = c + b.toNat := ⟨_, rfl⟩
      have v1 : IntKind.u64.wrap (V b) = V b := IntWalk.u64_in _ (by unfold V; omega)
      have v2 : IntKind.u64.wrap ((c : Int) + V b) = (s : Int) := by rw [IntWalk.u64_in _ (by unfold V; omega)]; unfold V; omega
      have v3 : IntKind.u8.wrap (s : Int) = V (UInt8.ofNat s) := by rw [IntKind.wrap_u8', V_ofNat]; omega
      rw [← hs] at HS
      have hs2 : s < 72057594037927936 := by omega
      clear hs b0 le
      generalize UInt8.ofNat s = y at *
      go_wp2_with (refine wpList_store_cell rfl 5 _ _ rfl w.heap.size (15 - k) (.int .u8 (V y)) rfl rfl (byteCells l) 106 H1.out.2.2.1 (by rw [byteCells_length, HLN.out]; omega) (by kernel_rfl) rfl rfl ?_)
      intro w3 h1 h2 h3
      have h1 := h1.out
      rw [byteCells_set] at h1
      have T3 := Lib.hid (tout.but H1.out h2.out HGL.out h1)
      clear h1 h2 h3 d1 v1 v2 v3
      have s0 : (0 : Int) ≤ (s : Int) := by omega
      have v4 : (s : Int).fdiv (2 ^ min (Int.toNat 8) IntKind.u64.bits) = ((s / 256 : Nat) : Int) := by rw [Int.fdiv_eq_ediv_of_nonneg _ (by decide)]; show (s : Int) / 256 = _; omega
      have v5 : IntKind.i64.wrap (15 - (k : Int) - 1) = 15 - ((k + 1 : Nat) : Int) := by rw [IntWalk.i64_in _ (by omega)]; omega
      go_wp2_with fail
      go_roundw
      case rel => exact ⟨k + 1, by omega, rfl, by rw [HS.out]; first | rfl | simp, by rw [HS.out]; exact T3.out⟩
      case measure => simp [intOf]; omega
    · obtain rfl : k = 16 := by omega
      have HP : Hid ((addSt N n 16).2 = plus N n) := Lib.hid rfl
      rw [HP.out] at H1
      clear HP
      have HPL : Hid ((plus N n).length = 16) := Lib.hid (by rw [plus_len, HNL.out])
      generalize hM : plus N n = M at *
      have HM := Lib.hid hM
      clear hM
      have HT := Lib.hid (turn_any g ws M wr HPL.out H1.out.2.1)
      have HML : Hid ((byteCells M).length = 16) := Lib.hid (by rw [byteCells_length, HPL.out])
      have HOL : Hid ((byteCells (Aes.turn ws M)).length = 16) := Lib.hid (by rw [byteCells_length]; rfl)
      have HO1 := Lib.hid (byteCells_one (Aes.turn ws M))
      have R1 := Lib.hid (range_of H1.out.2.2.1)
      generalize hLT : byteCells (Aes.turn ws M) = LT at *
      have HLT := Lib.hid hLT
      clear hLT
      generalize byteCells M = LM at *
      go_wp2_with (refine wpList_load_mid rfl 106 _ rfl w.heap.size 0 rfl LM _ R1.out Tryd.underlying106 rfl (by rw [infoBlk, HML.out]) ?_)
      with_reducible refine HT.out.mono ?_
      rintro e w4 ⟨rfl, kk⟩
      have G4 := Lib.hid (H1.out.2.2.2.below kk H1.out.2.2.2.lt)
      have B4 := Lib.hid (H1.out.1.trans (kk.mono H1.out.1.size))
      clear kk HT
      go_wp2_with (refine wpList_store_block rfl 106 _ _ rfl (w.heap.size + 1) 0 LT rfl rfl (zeros 16) 106 G4.out (by rw [infoBlk, HOL.out]) (by rw [HOL.out]; decide) HO1.out ?_)
      intro w9 h1 h2 h3
      have h1 := h1.out
      rw [splice_all _ _ (by rw [HOL.out]; rfl)] at h1
      have F1 := Lib.hid h1
      have F2 := Lib.hid (B4.out.trans (h2.out.below (Nat.le_succ _) B4.out.size))
      clear h1 h2 h3
      go_wp2_with fail
      refine bodyPost_ret (v := .agg LT.toArray) (results_cell_row rfl _ _ (w.heap.size + 1) 106 _ (0, 0) _ rfl F1.out Tryd.underlying106 rfl (by rw [infoBlk]; simp [HOL.out])) rfl ?_
      exact ⟨by rw [HM.out, HLT.out], F2.out⟩
end Go.Proofs.YtfhlcondnaahiaaDoor.Ci
end
section
/- slices.Concat of parts of bytes. -/
namespace Go.Proofs.YtfhlcondnaahiaaDoor.Ci
open Go.RowKit Sha Aes

/-- A slice of parts; a nil one has no room. -/
def partsB (w : World) (a : Option Addr) (ls : List (List UInt8)) : Prop :=
  ls = [] ∨ ∃ pb po, a = some ⟨pb, po, none⟩ ∧ ∀ j, j < ls.length → ∃ aj cj, w.cell? ⟨pb, po + j, none⟩ = some (.slice aj (ls.getD j []).length cj) ∧ (aj = none → cj = 0) ∧ bytesIn w aj (ls.getD j [])
theorem partsB.below {w w' : World} {a : Option Addr} {ls : List (List UInt8)} (h : partsB w a ls) (hb : Below w.heap.size w w') : partsB w' a ls := by
  rcases h with h | ⟨pb, po, h1, h2⟩
  · exact Or.inl h
  · refine Or.inr ⟨pb, po, h1, fun j hj => ?_⟩
    obtain ⟨aj, cj, e1, e2, e3⟩ := h2 j hj
    exact ⟨aj, cj, (hb.cell (p := ⟨pb, po + j, none⟩) (block_lt_of_cell e1)).trans e1, e2, e3.below hb⟩
theorem flatten_take (ls : List (List UInt8)) (k : Nat) (h : k < ls.length) : (ls.take (k + 1)).flatten = (ls.take k).flatten ++ ls.getD k [] := by
  rw [List.take_succ_eq_append_getElem h, List.flatten_append]
  simp [h]
theorem flatten_le2 (ls : List (List UInt8)) (k : Nat) (h : k < ls.length) : (ls.take k).flatten.length + (ls.getD k []).length ≤ ls.flatten.length := by
  have h1 : (ls.take (k + 1)).flatten.length ≤ ls.flatten.length := by
    conv => rhs; rw [← List.take_append_drop (k + 1) ls, List.flatten_append, List.length_append]
    omega
  rw [flatten_take ls k h, List.length_append] at h1
  exact h1
theorem wpList_append_ownB {w : World} {ops : Array Oper} {rest : List Oper} {o : Oper} {a : Act} {Q : Exit → Act → World → Prop} (hgd : o.guard = none) (s x : Operand)
    (ho : o.op = .call { callee := .builtin .append, args := #[s, x], argTypes := #[30, 30] })
    (base : Nat) (v : Value) (xs : List UInt8) (hs : a.eval s = v) (hown : ownB w base v xs) (A : Option Addr) (n c : Nat) (l : List UInt8) (hnl : n = l.length) (hx : a.eval x = .slice A n c) (hA : A = none → c = 0) (hb : bytesIn w A l)
    (hn : xs.length + l.length ≤ 1000000) (hbase : base ≤ w.heap.size)
    (h : ∀ v' w', Hid (ownB w' base v' (xs ++ l)) → Hid (Below base w w') → wpList Tryd.prog ops Q rest (a.put o.dst v') w') : wpList Tryd.prog ops Q (o :: rest) a w := by
  obtain ⟨i0, hi, hz0, hz1, hz2⟩ := info_parts info_u8
  subst hnl
  cases A with
  | none =>
    have hl : l = [] := by
      rcases hb with h | ⟨_, _, h, _⟩
      · exact h
      · cases h
    subst hl
    refine wpList_append_own_none hgd s x 30 ho base 5 i0 1 Tryd.underlying30 hi v xs.length (byteCells xs) hs hown (by rw [hx, hA rfl]; rfl) ?_
    exact h v w (Lib.hid (by rw [List.append_nil]; exact hown)) (Lib.hid (Below.refl _ _))
  | some ad =>
    refine wpList_append_own w hgd s x 30 ho base 5 i0 (.int .u8 0) 1 1 Tryd.underlying30 hi hz0 hz1 hz2 rfl (by decide) v xs.length (byteCells xs) hs hown ad l.length c (byteCells l) hx (by rw [byteCells_length, Nat.mul_one]) (fun j u hj => ?_) (byteCells_one l) (by unfold maxLen; omega) (by omega) hbase (fun v' w' r1 r2 _ => ?_)
    · have hlt := (List.getElem?_eq_some_iff.1 hj).1
      rw [byteCells_length] at hlt
      rcases hb with h0 | ⟨bb, bo, he, hc⟩
      · rw [h0] at hlt; exact absurd hlt (Nat.not_lt_zero _)
      · obtain rfl := Option.some.inj he
        rw [Addr.add_lit, hc j hlt]
        rw [byteCells_get l j hlt] at hj
        exact hj
    · refine h v' w' (Lib.hid ?_) (Lib.hid (grown_below hown r2 hbase))
      unfold ownB
      rw [List.length_append, byteCells_append]
      exact r1

set_option maxRecDepth 100000 in
set_option maxHeartbeats 1000000 in
theorem grow_any (n : Nat) (w : World) (hn : n ≤ 1000000) :
    Calls Tryd.prog 53 #[.slice none 0 0, .int .i64 n] w fun e w' => ∃ v, e = .returned v ∧ ownB w' w.heap.size v [] ∧ Below w.heap.size w w' := by
  by_cases h0 : 0 < n
  · obtain ⟨i0, hi, hz0, hz1, hz2⟩ := info_parts info_u8
    have hr := fun ty => Lib.run_append_nil_zeros (P := Tryd.prog) w 30 3 ty 5 i0 (.int .u8 0) .i64 .i64 Tryd.underlying30 Tryd.underlying3 hi hz0 n h0 (by rw [hz1]; decide) (by omega) (by rw [hz2]; omega)
    have h1 : ¬ ((n : Int) < 0) := by omega
    have h2 : (0 : Int) < n := by omega
    have h3 : IntKind.i64.wrap (n : Int) = n := IntWalk.i64_in _ (by omega)
    have hge := grownCap_ge w n 0 5
    have hcm := grownCap_le_maxLen w n 0 5 (by unfold maxLen; omega)
    go_enter Tryd.func53, Tryd.ntmps53
    go_wp2_with (at_builtin; refine Lib.wpList_append_run _ rfl _ _ _ _ rfl _ _ rfl rfl _ _ (hr _) ?_)
    go_ret
    refine ⟨_, rfl, ⟨rfl, .inr ⟨w.heap.size, _, _, rfl, Nat.le_refl _, heap_alloc_new w.drew _, Nat.zero_le _, hcm, ?_, by simp [byteCells]⟩⟩, below_alloc' (below_drew' (Below.refl _ _)) _⟩
    simp only [Array.size_append, size_zeroCells]
    show n * 1 + (grownCap w n 0 5 - n) * 1 = _
    omega
  · obtain rfl : n = 0 := by omega
    go_enter Tryd.func53, Tryd.ntmps53
    go_wp2_with fail
    go_ret
    exact ⟨_, rfl, World.ownsRow_nil _ _ _ _, Below.refl _ _⟩

set_option maxRecDepth 100000 in
set_option maxHeartbeats 2000000 in
theorem concat_any (a : Option Addr) (c : Nat) (ls : List (List UInt8)) (w : World) (hl : ls.length ≤ 100000) (hm : ls.flatten.length ≤ 900000) (hp : partsB w a ls) :
    Calls Tryd.prog 30 #[.slice a ls.length c] w fun e w' => ∃ v, e = .returned v ∧ ownB w' w.heap.size v ls.flatten ∧ Below w.heap.size w w' := by
  have HP := Lib.hid hp
  have HM := Lib.hid hm
  clear hp hm
  go_enter Tryd.func30, Tryd.ntmps30
  go_wp2_with fail
  go_loopw [11, 3] (fun i s wr => ∃ k : Nat, k ≤ ls.length ∧ i = .int .i64 k ∧ s = .int .i64 ((ls.take k).flatten.length : Nat) ∧ w = wr) (fun i _ _ => ls.length - (intOf i).toNat)
  case atStart => exact ⟨0, by omega, rfl, rfl, rfl⟩
  case round =>
    obtain ⟨k, hk, rfl, rfl, rfl⟩ := hrel
    by_cases hlt : k < ls.length
    · rcases HP.out with h0 | ⟨pb, po, rfl, hpp⟩
      · simp [h0] at hlt
      obtain ⟨aj, cj, hcell, _, _⟩ := hpp k hlt
      have hle := flatten_le2 ls k hlt
      have hM := HM.out
      have hft : (ls.take (k + 1)).flatten.length = (ls.take k).flatten.length + (ls.getD k []).length := by rw [flatten_take ls k hlt, List.length_append]
      have HFT := Lib.hid hft
      clear hft hpp
      generalize (ls.take k).flatten.length = s at *
      generalize (ls.getD k []).length = m at *
      have p : 0 ≤ (k : Int) := by omega
      have q : (k : Int) < (ls.length : Int) := by omega
      have e3 : IntKind.i64.wrap ((s : Int) + (m : Int)) = (s : Int) + (m : Int) := IntWalk.i64_in _ (by omega)
      have e4 : ¬ ((s : Int) + (m : Int) < 0) := by omega
      go_wp2_with fail
      go_roundw
      case rel => exact ⟨k + 1, by omega, by go_num, by rw [HFT.out]; go_num, trivial⟩
      case measure => simp [intOf]; omega
    · obtain rfl : k = ls.length := by omega
      have e : (ls.take ls.length).flatten = ls.flatten := by rw [List.take_length]
      rw [e]
      have HG := Lib.hid (grow_any ls.flatten.length w (by have := HM.out; omega))
      generalize ls.flatten.length = tot at HG ⊢
      go_wp2_with fail
      with_reducible refine HG.out.mono ?_
      rintro e w1 ⟨v, rfl, own1, k1⟩
      have O1 := Lib.hid own1
      have K1 := Lib.hid k1
      clear own1 k1 HG
      go_wp2_with fail
      go_loopw [27, 6] (fun i v wr => ∃ k : Nat, k ≤ ls.length ∧ i = .int .i64 k ∧ ownB wr w.heap.size v (ls.take k).flatten ∧ Below w.heap.size w wr) (fun i _ _ => ls.length - (intOf i).toNat)
      case atStart => exact ⟨0, by omega, rfl, O1.out, K1.out⟩
      case round =>
        obtain ⟨k, hk, rfl, own2, k2⟩ := hrel
        have O2 := Lib.hid own2
        have K2 := Lib.hid k2
        clear own2 k2
        by_cases hlt : k < ls.length
        · rcases HP.out with h0 | ⟨pb, po, rfl, hpp⟩
          · simp [h0] at hlt
          obtain ⟨aj, cj, hcell, hnone, hbin⟩ := hpp k hlt
          have hc2 : wr.cell? ⟨pb, po + k, none⟩ = some (.slice aj (ls.getD k []).length cj) := (K2.out.cell (p := ⟨pb, po + k, none⟩) (block_lt_of_cell hcell)).trans hcell
          have HBI := Lib.hid (hbin.below K2.out)
          have HNO := Lib.hid hnone
          have hle := flatten_le2 ls k hlt
          have HLE : Hid ((ls.take k).flatten.length + (ls.getD k []).length ≤ 1000000) := Lib.hid (by have := HM.out; omega)
          have HFT := Lib.hid (flatten_take ls k hlt)
          clear hpp hcell hnone hbin hle
          generalize (ls.take k).flatten = xs at *
          generalize ls.getD k [] = l at *
          have p : 0 ≤ (k : Int) := by omega
          have q : (k : Int) < (ls.length : Int) := by omega
          go_wp2_with (at_builtin; refine wpList_append_ownB rfl _ _ rfl w.heap.size _ xs rfl O2.out aj l.length cj l rfl rfl HNO.out HBI.out HLE.out K2.out.size ?_; intro v' w' r1 r2)
          go_roundw
          case rel => exact ⟨k + 1, by omega, by go_num, by rw [HFT.out]; exact r1.out, K2.out.trans r2.out⟩
          case measure => simp [intOf]; omega
        · obtain rfl : k = ls.length := by omega
          have e : (ls.take ls.length).flatten = ls.flatten := by rw [List.take_length]
          rw [e] at O2
          go_wp2_with fail
          go_ret
          exact ⟨_, rfl, O2.out, K2.out⟩
end Go.Proofs.YtfhlcondnaahiaaDoor.Ci
end
section
/- cipher.Flow: begun, sought, asked. -/
namespace Go.Proofs.YtfhlcondnaahiaaDoor.Ci
open Go.RowKit Sha Aes

/-- A flow's cells. -/
def flowCells (g : Nat) (N : List UInt8) (at_ : Nat) : List Value := .pointer (some ⟨g, 0, none⟩) :: (byteCells N ++ [.int .i64 (at_ : Int)])
theorem flowCells_len (g : Nat) (N : List UInt8) (at_ : Nat) (h : N.length = 16) : (flowCells g N at_).length = 18 := by simp [flowCells, byteCells_length, h]
theorem flowCells_place (g : Nat) (N : List UInt8) (at_ : Nat) (h : N.length = 16) : (flowCells g N at_)[17]? = some (.int .i64 (at_ : Int)) := by
  unfold flowCells
  rw [show (17 : Nat) = 16 + 1 from rfl, List.getElem?_cons_succ, List.getElem?_append_right (by rw [byteCells_length]; omega), byteCells_length, h]
  rfl
theorem flowCells_set (g : Nat) (N : List UInt8) (at_ n : Nat) (h : N.length = 16) : (flowCells g N at_).set 17 (.int .i64 (n : Int)) = flowCells g N n := by
  unfold flowCells
  rw [show (17 : Nat) = 16 + 1 from rfl, List.set_cons_succ, List.set_append_right _ _ (by rw [byteCells_length]; omega), byteCells_length, h]
  rfl
theorem flow_number {w : World} {fb g : Nat} {N : List UInt8} {at_ : Nat} {t : TypeId} (h : blockIs w fb (flowCells g N at_) t) : w.rangeAt fb 1 (byteCells N) :=
  rangeAt_block (p := [.pointer (some ⟨g, 0, none⟩)]) (cs := byteCells N) (q := [.int .i64 (at_ : Int)]) h
theorem fill_cells (place : Nat → Option (Nat × Nat)) (cells : List Value) (i : Nat) (v : Value) (vs : List Value) (hv : v.cells = vs.toArray) (rest : List (Nat × Value)) (off : Nat) (hp : place i = some (off, vs.length)) (hfit : off + vs.length ≤ cells.length) :
    Instr.fill place cells.toArray ((i, v) :: rest) = Instr.fill place (splice cells off vs).toArray rest := by
  rw [Instr.fill]
  simp only [hp, hv]
  rw [if_neg (by simp; omega)]
  congr 1
  obtain ⟨_, h2⟩ := Great.foldl_set off vs 0 cells.toArray
  rw [← Array.foldl_toList, Array.toList_zipIdx]
  apply Array.ext_getElem?
  intro k
  refine (h2 k).trans ?_
  rw [List.getElem?_toArray, List.getElem?_toArray, splice_get _ _ _ _ hfit, List.size_toArray, Nat.add_zero]
  by_cases c : off ≤ k ∧ k < off + vs.length
  · rw [if_pos c, if_pos ⟨c.1, c.2, by omega⟩]
  · rw [if_neg c, if_neg (fun h => c ⟨h.1, h.2.1⟩)]
theorem run_build_struct {P : Program} (w : World) (t : TypeId) (fields : Array Field) (places : Array (Nat × Nat)) (z : Value) (parts : Array (Nat × Value)) (r : Array Value)
    (hu : P.underlying t = some (.struct fields)) (hz : (zeroValue t).run P w = .ok z w) (hp : (fields.mapM fun f => (do pure (f.offset, ← sizeOf f.type) : Sem (Nat × Nat))).run P w = .ok places w) (hf : Instr.fill (places[·]?) z.cells parts.toList = some r) :
    (Instr.build t parts).run P w = .ok (.agg r) w := by
  simp only [Instr.build, Sem.run_bind, hz, Result.andThen_ok, run_underlying hu, hp, hf, Sem.run_pure]
def zeroFlow : List Value := .pointer none :: (zeros 16 ++ [.int .i64 0])
theorem buildFlow (g : Nat) (N : List UInt8) (hN : N.length = 16) (w : World) : (Instr.build 186 #[(0, .pointer (some ⟨g, 0, none⟩)), (1, .agg (byteCells N).toArray)]).run Tryd.prog w = .ok (.agg (flowCells g N 0).toArray) w := by
  refine run_build_struct w _ (Tryd.prog.fieldsOf 186) #[(0, 1), (1, 16), (17, 1)] (.agg zeroFlow.toArray) _ _ (by kernel_rfl) (by kernel_rfl) (by kernel_rfl) ?_
  show Instr.fill _ zeroFlow.toArray [(0, .pointer (some ⟨g, 0, none⟩)), (1, .agg (byteCells N).toArray)] = _
  rw [fill_cells _ zeroFlow 0 _ [.pointer (some ⟨g, 0, none⟩)] rfl _ 0 rfl (show 0 + 1 ≤ 18 by decide), fill_cells _ (splice zeroFlow 0 [.pointer (some ⟨g, 0, none⟩)]) 1 _ (byteCells N) rfl _ 1 (by rw [byteCells_length, hN]; rfl) (by rw [byteCells_length, hN, splice_keep (x := zeroFlow) (y := [Value.pointer (some ⟨g, 0, none⟩)]) (o := 0) (show 0 + 1 ≤ 18 by decide)]; decide)]
  have e : splice (splice zeroFlow 0 [.pointer (some ⟨g, 0, none⟩)]) 1 (byteCells N) = flowCells g N 0 := by
    have hl : (byteCells N).length = 16 := by rw [byteCells_length, hN]
    unfold splice flowCells
    generalize byteCells N = B at *
    rw [hl]
    rfl
  rw [e]
  rfl

set_option maxRecDepth 100000 in
set_option maxHeartbeats 1000000 in
theorem begin_ok (g : Nat) (N : List UInt8) (w : World) (hN : N.length = 16) :
    Calls Tryd.prog 82 #[.pointer (some ⟨g, 0, none⟩), .agg (byteCells N).toArray] w fun e w' => ∃ fb, e = .returned (.tuple #[.pointer (some ⟨fb, 0, none⟩), .int .i64 0]) ∧ w.heap.size ≤ fb ∧ blockIs w' fb (flowCells g N 0) 186 ∧ Below w.heap.size w w' := by
  have HB := Lib.hid (fun X => buildFlow g N hN X)
  have HNL : Hid ((byteCells N).length = 16) := Lib.hid (by rw [byteCells_length]; exact hN)
  have G1 := Lib.hid (blockIs.new w (byteCells N) 106)
  have B1 := Lib.hid (alloc_below w (.cells (byteCells N).toArray 106 (0, 0)))
  have R1 := Lib.hid (range_of G1.out)
  clear hN
  go_enter Tryd.func82, Tryd.ntmps82
  go_upto_region 3 with fail
  generalize hFC : flowCells g N 0 = FC at *
  have HFC := Lib.hid hFC
  clear hFC
  generalize byteCells N = LN at *
  generalize w.alloc (.cells LN.toArray 106 (0, 0)) = w1 at *
  have N2 := Lib.hid (blockIs.new w1 FC 186)
  have B2 := Lib.hid (B1.out.trans ((alloc_below w1 (.cells FC.toArray 186 (0, 0))).mono B1.out.size))
  go_wp2_with (first | (refine wpList_load_mid rfl 106 _ rfl w.heap.size 0 rfl LN _ R1.out Tryd.underlying106 rfl (by rw [infoBlk, HNL.out]) ?_) | (refine wpList_build rfl 186 _ rfl _ _ (HB.out _) rfl ?_))
  refine bodyPost_ret (v := .tuple #[.pointer (some ⟨w1.heap.size, 0, none⟩), .int .i64 0]) (results_tmp2 (t := 4) (u := 5) rfl _ _ _) rfl ?_
  exact ⟨w1.heap.size, rfl, B1.out.size, by rw [HFC.out]; exact N2.out, B2.out⟩
end Go.Proofs.YtfhlcondnaahiaaDoor.Ci
end
