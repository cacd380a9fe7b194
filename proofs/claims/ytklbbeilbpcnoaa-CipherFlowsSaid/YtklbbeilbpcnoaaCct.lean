/- slices.Concat of parts of bytes. -/
import Derived.Test.YtklbbeilbpcnoaaHid
import Derived.Lib.AppendZeros
namespace Go.Proofs.Ytklbbeilbpcnoaa
open Go.RowKit Sha Aes

/-- A slice of parts; a nil one has no room. -/
def partsB (w : World) (a : Option Addr) (ls : List (List UInt8)) : Prop :=
  ls = [] ∨ ∃ pb po, a = some ⟨pb, po, none⟩ ∧ ∀ j, j < ls.length → ∃ aj cj, w.cell? ⟨pb, po + j, none⟩ = some (.slice aj (ls.getD j []).length cj) ∧ (aj = none → cj = 0) ∧ bytesIn w aj (ls.getD j [])
theorem partsB.below {w w' : World} {a : Option Addr} {ls : List (List UInt8)} (h : partsB w a ls) (hb : Below w.heap.size w w') : partsB w' a ls := by
  rcases h with h | ⟨pb, po, h1, h2⟩
  · exact Or.inl h
  · refine Or.inr ⟨pb, po, h1, fun j hj => ?_⟩
    obtain ⟨aj, cj, e1, e2, e3⟩ := h2 j hj
    exact ⟨aj, cj, (hb.cell (p := ⟨pb, po + j, none⟩) (block_lt_of_cell e1)).trans e1, e2, e3.below hb⟩
theorem flatten_take (ls : List (List UInt8)) (k : Nat) (h : k < ls.length) : (ls.take (k + 1)).flatten = (ls.take k).flatten ++ ls.getD k [] := by
  rw [List.take_succ_eq_append_getElem h, List.flatten_append]
  simp [h]
theorem flatten_le2 (ls : List (List UInt8)) (k : Nat) (h : k < ls.length) : (ls.take k).flatten.length + (ls.getD k []).length ≤ ls.flatten.length := by
  have h1 : (ls.take (k + 1)).flatten.length ≤ ls.flatten.length := by
    conv => rhs; rw [← List.take_append_drop (k + 1) ls, List.flatten_append, List.length_append]
    omega
  rw [flatten_take ls k h, List.length_append] at h1
  exact h1
theorem wpList_append_ownB {w : World} {ops : Array Oper} {rest : List Oper} {o : Oper} {a : Act} {Q : Exit → Act → World → Prop} (hgd : o.guard = none) (s x : Operand)
    (ho : o.op = .call { callee := .builtin .append, args := #[s, x], argTypes := #[28, 28] })
    (base : Nat) (v : Value) (xs : List UInt8) (hs : a.eval s = v) (hown : ownB w base v xs) (A : Option Addr) (n c : Nat) (l : List UInt8) (hnl : n = l.length) (hx : a.eval x = .slice A n c) (hA : A = none → c = 0) (hb : bytesIn w A l)
    (hn : xs.length + l.length ≤ 1000000) (hbase : base ≤ w.heap.size)
    (h : ∀ v' w', Hid (ownB w' base v' (xs ++ l)) → Hid (Below base w w') → wpList Try.prog ops Q rest (a.put o.dst v') w') : wpList Try.prog ops Q (o :: rest) a w := by
  obtain ⟨i0, hi, hz0, hz1, hz2⟩ := info_parts info_u8
  subst hnl
  cases A with
  | none =>
    have hl : l = [] := by
      rcases hb with h | ⟨_, _, h, _⟩
      · exact h
      · cases h
    subst hl
    refine wpList_append_own_none hgd s x 28 ho base 5 i0 1 Try.underlying28 hi v xs.length (byteCells xs) hs hown (by rw [hx, hA rfl]; rfl) ?_
    exact h v w (Lib.hid (by rw [List.append_nil]; exact hown)) (Lib.hid (Below.refl _ _))
  | some ad =>
    refine wpList_append_own w hgd s x 28 ho base 5 i0 (.int .u8 0) 1 1 Try.underlying28 hi hz0 hz1 hz2 rfl (by decide) v xs.length (byteCells xs) hs hown ad l.length c (byteCells l) hx (by rw [byteCells_length, Nat.mul_one]) (fun j u hj => ?_) (byteCells_one l) (by unfold maxLen; omega) (by omega) hbase (fun v' w' r1 r2 _ => ?_)
    · have hlt := (List.getElem?_eq_some_iff.1 hj).1
      rw [byteCells_length] at hlt
      rcases hb with h0 | ⟨bb, bo, he, hc⟩
      · rw [h0] at hlt; exact absurd hlt (Nat.not_lt_zero _)
      · obtain rfl := Option.some.inj he
        rw [Addr.add_lit, hc j hlt]
        rw [byteCells_get l j hlt] at hj
        exact hj
    · refine h v' w' (Lib.hid ?_) (Lib.hid (grown_below hown r2 hbase))
      unfold ownB
      rw [List.length_append, byteCells_append]
      exact r1

set_option maxRecDepth 100000 in
set_option maxHeartbeats 1000000 in
theorem grow_any (n : Nat) (w : World) (hn : n ≤ 1000000) :
    Calls Try.prog 34 #[.slice none 0 0, .int .i64 n] w fun e w' => ∃ v, e = .returned v ∧ ownB w' w.heap.size v [] ∧ Below w.heap.size w w' := by
  by_cases h0 : 0 < n
  · obtain ⟨i0, hi, hz0, hz1, hz2⟩ := info_parts info_u8
    have hr := fun ty => Lib.run_append_nil_zeros (P := Try.prog) w 28 3 ty 5 i0 (.int .u8 0) .i64 .i64 Try.underlying28 Try.underlying3 hi hz0 n h0 (by rw [hz1]; decide) (by omega) (by rw [hz2]; omega)
    have h1 : ¬ ((n : Int) < 0) := by omega
    have h2 : (0 : Int) < n := by omega
    have h3 : IntKind.i64.wrap (n : Int) = n := IntWalk.i64_in _ (by omega)
    have hge := grownCap_ge w n 0 5
    have hcm := grownCap_le_maxLen w n 0 5 (by unfold maxLen; omega)
    go_enter Try.func34, Try.ntmps34
    go_wp2_with (at_builtin; refine Lib.wpList_append_run _ rfl _ _ _ _ rfl _ _ rfl rfl _ _ (hr _) ?_)
    go_ret
    refine ⟨_, rfl, ⟨rfl, .inr ⟨w.heap.size, _, _, rfl, Nat.le_refl _, heap_alloc_new w.drew _, Nat.zero_le _, hcm, ?_, by simp [byteCells]⟩⟩, below_alloc' (below_drew' (Below.refl _ _)) _⟩
    simp only [Array.size_append, size_zeroCells]
    show n * 1 + (grownCap w n 0 5 - n) * 1 = _
    omega
  · obtain rfl : n = 0 := by omega
    go_enter Try.func34, Try.ntmps34
    go_wp2_with fail
    go_ret
    exact ⟨_, rfl, World.ownsRow_nil _ _ _ _, Below.refl _ _⟩

set_option maxRecDepth 100000 in
set_option maxHeartbeats 2000000 in
theorem concat_any (a : Option Addr) (c : Nat) (ls : List (List UInt8)) (w : World) (hl : ls.length ≤ 100000) (hm : ls.flatten.length ≤ 900000) (hp : partsB w a ls) :
    Calls Try.prog 31 #[.slice a ls.length c] w fun e w' => ∃ v, e = .returned v ∧ ownB w' w.heap.size v ls.flatten ∧ Below w.heap.size w w' := by
  have HP := Lib.hid hp
  have HM := Lib.hid hm
  clear hp hm
  go_enter Try.func31, Try.ntmps31
  go_wp2_with fail
  go_loopw [11, 3] (fun i s wr => ∃ k : Nat, k ≤ ls.length ∧ i = .int .i64 k ∧ s = .int .i64 ((ls.take k).flatten.length : Nat) ∧ w = wr) (fun i _ _ => ls.length - (intOf i).toNat)
  case atStart => exact ⟨0, by omega, rfl, rfl, rfl⟩
  case round =>
    obtain ⟨k, hk, rfl, rfl, rfl⟩ := hrel
    by_cases hlt : k < ls.length
    · rcases HP.out with h0 | ⟨pb, po, rfl, hpp⟩
      · simp [h0] at hlt
      obtain ⟨aj, cj, hcell, _, _⟩ := hpp k hlt
      have hle := flatten_le2 ls k hlt
      have hM := HM.out
      have hft : (ls.take (k + 1)).flatten.length = (ls.take k).flatten.length + (ls.getD k []).length := by rw [flatten_take ls k hlt, List.length_append]
      have HFT := Lib.hid hft
      clear hft hpp
      generalize (ls.take k).flatten.length = s at *
      generalize (ls.getD k []).length = m at *
      have p : 0 ≤ (k : Int) := by omega
      have q : (k : Int) < (ls.length : Int) := by omega
      have e3 : IntKind.i64.wrap ((s : Int) + (m : Int)) = (s : Int) + (m : Int) := IntWalk.i64_in _ (by omega)
      have e4 : ¬ ((s : Int) + (m : Int) < 0) := by omega
      go_wp2_with fail
      go_roundw
      case rel => exact ⟨k + 1, by omega, by go_num, by rw [HFT.out]; go_num, trivial⟩
      case measure => simp [intOf]; omega
    · obtain rfl : k = ls.length := by omega
      have e : (ls.take ls.length).flatten = ls.flatten := by rw [List.take_length]
      rw [e]
      have HG := Lib.hid (grow_any ls.flatten.length w (by have := HM.out; omega))
      generalize ls.flatten.length = tot at HG ⊢
      go_wp2_with fail
      with_reducible refine HG.out.mono ?_
      rintro e w1 ⟨v, rfl, own1, k1⟩
      have O1 := Lib.hid own1
      have K1 := Lib.hid k1
      clear own1 k1 HG
      go_wp2_with fail
      go_loopw [27, 6] (fun i v wr => ∃ k : Nat, k ≤ ls.length ∧ i = .int .i64 k ∧ ownB wr w.heap.size v (ls.take k).flatten ∧ Below w.heap.size w wr) (fun i _ _ => ls.length - (intOf i).toNat)
      case atStart => exact ⟨0, by omega, rfl, O1.out, K1.out⟩
      case round =>
        obtain ⟨k, hk, rfl, own2, k2⟩ := hrel
        have O2 := Lib.hid own2
        have K2 := Lib.hid k2
        clear own2 k2
        by_cases hlt : k < ls.length
        · rcases HP.out with h0 | ⟨pb, po, rfl, hpp⟩
          · simp [h0] at hlt
          obtain ⟨aj, cj, hcell, hnone, hbin⟩ := hpp k hlt
          have hc2 : wr.cell? ⟨pb, po + k, none⟩ = some (.slice aj (ls.getD k []).length cj) := (K2.out.cell (p := ⟨pb, po + k, none⟩) (block_lt_of_cell hcell)).trans hcell
          have HBI := Lib.hid (hbin.below K2.out)
          have HNO := Lib.hid hnone
          have hle := flatten_le2 ls k hlt
          have HLE : Hid ((ls.take k).flatten.length + (ls.getD k []).length ≤ 1000000) := Lib.hid (by have := HM.out; omega)
          have HFT := Lib.hid (flatten_take ls k hlt)
          clear hpp hcell hnone hbin hle
          generalize (ls.take k).flatten = xs at *
          generalize ls.getD k [] = l at *
          have p : 0 ≤ (k : Int) := by omega
          have q : (k : Int) < (ls.length : Int) := by omega
          go_wp2_with (at_builtin; refine wpList_append_ownB rfl _ _ rfl w.heap.size _ xs rfl O2.out aj l.length cj l rfl rfl HNO.out HBI.out HLE.out K2.out.size ?_; intro v' w' r1 r2)
          go_roundw
          case rel => exact ⟨k + 1, by omega, by go_num, by rw [HFT.out]; exact r1.out, K2.out.trans r2.out⟩
          case measure => simp [intOf]; omega
        · obtain rfl : k = ls.length := by omega
          have e : (ls.take ls.length).flatten = ls.flatten := by rw [List.take_length]
          rw [e] at O2
          go_wp2_with fail
          go_ret
          exact ⟨_, rfl, O2.out, K2.out⟩
end Go.Proofs.Ytklbbeilbpcnoaa
