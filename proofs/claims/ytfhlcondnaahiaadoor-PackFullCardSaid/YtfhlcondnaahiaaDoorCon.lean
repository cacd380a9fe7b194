/- slices.Grow of nothing; slices.Concat of a part and parts. -/
import Derived.Test.YtfhlcondnaahiaaDoorHc
import Derived.Lib.AppendZeros
import Derived.Laws.AppendOwnNone
import Derived.OwnWalk
namespace Go.Proofs.YtfhlcondnaahiaaDoor
open Go.RowKit Sha

theorem grown_below {w w' : World} {base : Nat} {v : Value} {e : TypeId} {n : Nat} {xs : List Value} (h : w.ownsRow base e 1 v n xs) (hg : w.grownBy w' v.ownBlock) (hB : base ≤ w.heap.size) : Below base w w' :=
  (Below.refl base w).grown hg hB fun k hk => (h.lt k hk).1
theorem info_sl : (Tryd.prog.info? 30).map (fun i => (i.zero, i.size, i.bytes)) = some (some (.slice none 0 0), 1, 24) := by kernel_rfl

set_option maxRecDepth 100000 in
set_option maxHeartbeats 1000000 in
theorem grow_any (n : Nat) (w : World) (h0 : 0 < n) (hn : n ≤ 1000000) :
    Calls Tryd.prog 70 #[.slice none 0 0, .int .i64 n] w fun e w' => ∃ v, e = .returned v ∧ w'.ownsRow w.heap.size 30 1 v 0 [] ∧ Below w.heap.size w w' := by
  obtain ⟨i0, hi, hz0, hz1, hz2⟩ := info_parts info_sl
  have hr := fun ty => Lib.run_append_nil_zeros (P := Tryd.prog) w 71 3 ty 30 i0 (.slice none 0 0) .i64 .i64 Tryd.underlying71 Tryd.underlying3 hi hz0 n h0 (by rw [hz1]; decide) (by omega) (by rw [hz2]; omega)
  have h1 : ¬ ((n : Int) < 0) := by omega
  have h2 : (0 : Int) < n := by omega
  have h3 : IntKind.i64.wrap (n : Int) = n := IntWalk.i64_in _ (by omega)
  have hge := grownCap_ge w n 0 30
  have hcm := grownCap_le_maxLen w n 0 30 (by unfold maxLen; omega)
  go_enter Tryd.func70, Tryd.ntmps70
  go_wp2_with (at_builtin; refine Lib.wpList_append_run _ rfl _ _ _ _ rfl _ _ rfl rfl _ _ (hr _) ?_)
  go_ret
  refine ⟨_, rfl, ⟨rfl, .inr ⟨w.heap.size, _, _, rfl, Nat.le_refl _, heap_alloc_new w.drew _, Nat.zero_le _, hcm, ?_, by simp⟩⟩, below_alloc' (below_drew' (Below.refl _ _)) _⟩
  simp only [Array.size_append, size_zeroCells]
  show n * 1 + (grownCap w n 0 30 - n) * 1 = _
  omega

/-- How many there are of the first k of two rows, one of one and one of m. -/
def two (m : Nat) : Nat → Nat
  | 0 => 0
  | 1 => 1
  | _ => 1 + m
set_option maxRecDepth 100000 in
set_option maxHeartbeats 2000000 in
theorem concat_two (o g : Nat) (x : Value) (a : Option Addr) (m c : Nat) (cs : List Value) (w : World) (hm : cs.length = m) (hmm : m ≤ 900000) (ha : a = none → m = 0 ∧ c = 0)
    (hx1 : x.oneCell' = true) (hcs1 : ∀ u ∈ cs, u.oneCell' = true) (ho0 : w.cell? ⟨o, 0, none⟩ = some (.slice (some ⟨g, 0, none⟩) 1 1)) (ho1 : w.cell? ⟨o, 1, none⟩ = some (.slice a m c)) (hg : w.cell? ⟨g, 0, none⟩ = some x)
    (hin : ∀ ad, a = some ad → ∀ j u, cs[j]? = some u → w.cell? (ad.add j) = some u) :
    Calls Tryd.prog 45 #[.slice (some ⟨o, 0, none⟩) 2 2] w fun e w' => ∃ v, e = .returned v ∧ w'.ownsRow w.heap.size 30 1 v (1 + m) (x :: cs) ∧ Below w.heap.size w w' := by
  go_enter Tryd.func45, Tryd.ntmps45
  go_wp2_with fail
  go_loopw [11, 3] (fun i s wr => ∃ k : Nat, k ≤ 2 ∧ i = .int .i64 k ∧ s = .int .i64 (two m k) ∧ w = wr) (fun i _ _ => 2 - (intOf i).toNat)
  case atStart => exact ⟨0, by omega, rfl, rfl, rfl⟩
  case round =>
    obtain ⟨k, hk, rfl, rfl, rfl⟩ := hrel
    have h3 : IntKind.i64.wrap (1 + (m : Int)) = 1 + m := IntWalk.i64_in _ (by omega)
    have h4 : ¬ (1 + (m : Int) < 0) := by omega
    match k, hk with
    | 0, _ =>
      simp only [two]
      go_wp2_with fail
      go_roundw
      case rel => exact ⟨1, by omega, by simp [two]⟩
      case measure => simp [intOf]
    | 1, _ =>
      simp only [two]
      go_wp2_with fail
      go_roundw
      case rel => exact ⟨2, by omega, by simp [two]⟩
      case measure => simp [intOf]
    | 2, _ =>
      simp only [two]
      have HG := Lib.hid (grow_any (1 + m) w (by omega) (by omega))
      rw [show ((1 + m : Nat) : Int) = 1 + (m : Int) by omega] at HG
      go_wp2_with fail
      with_reducible refine HG.out.mono ?_
      rintro e w1 ⟨v, rfl, own1, k1⟩
      have O1 := Lib.hid own1
      have K1 := Lib.hid k1
      clear own1 k1 HG h3 h4
      go_wp2_with fail
      go_loopw [27, 6] (fun i v wr => ∃ k : Nat, k ≤ 2 ∧ i = .int .i64 k ∧ wr.ownsRow w.heap.size 30 1 v (two m k) ((x :: cs).take (two m k)) ∧ Below w.heap.size w wr) (fun i _ _ => 2 - (intOf i).toNat)
      case atStart => exact ⟨0, by omega, rfl, O1.out, K1.out⟩
      case round =>
        obtain ⟨k, hk, rfl, own2, k2⟩ := hrel
        have q0 : wr.cell? ⟨o, 0, none⟩ = some (.slice (some ⟨g, 0, none⟩) 1 1) := (k2.cell (p := ⟨o, 0, none⟩) (block_lt_of_cell ho0)).trans ho0
        have q1 : wr.cell? ⟨o, 1, none⟩ = some (.slice a m c) := (k2.cell (p := ⟨o, 1, none⟩) (block_lt_of_cell ho1)).trans ho1
        have K2 := Lib.hid k2
        have O2 := Lib.hid own2
        obtain ⟨i0, hi, hz0, hz1, hz2⟩ := info_parts info_sl
        have I0 := Lib.hid hi
        clear k2 own2
        match k, hk with
        | 0, _ =>
          simp only [two] at O2 ⊢
          go_wp2_with (at_builtin; refine wpList_append_own _ rfl _ _ 71 rfl w.heap.size 30 i0 (.slice none 0 0) 1 24 Tryd.underlying71 I0.out hz0 hz1 hz2 rfl (by decide) _ 0 [] rfl O2.out ⟨g, 0, none⟩ 1 1 [x] rfl rfl (fun j u hj => by
            obtain rfl : j = 0 := by simpa using (List.getElem?_eq_some_iff.1 hj).1
            obtain rfl : x = u := by simpa using hj
            exact (K2.out.cell (p := ⟨g, 0, none⟩) (block_lt_of_cell hg)).trans hg) (by simp [hx1]) (by unfold maxLen; omega) (by omega) K2.out.size ?_; intro v' w' r1 r2 _; have O3 := Lib.hid r1; have K3 := Lib.hid (K2.out.trans (grown_below O2.out r2 K2.out.size)); clear r1 r2)
          go_roundw
          case rel => exact ⟨1, by omega, rfl, by simpa [two] using O3.out, K3.out⟩
          case measure => simp [intOf]
        | 1, _ =>
          simp only [two] at O2 ⊢
          have O2 : Hid (wr.ownsRow w.heap.size 30 1 _ 1 [x]) := O2
          have tk : (x :: cs).take (1 + m) = [x] ++ cs := List.take_of_length_le (by simp [hm]; omega)
          cases a with
          | none =>
            obtain ⟨hm0, hc0⟩ := ha rfl
            rw [hm0, hc0] at q1
            have hcs0 : cs = [] := List.eq_nil_of_length_eq_zero (by omega)
            have O3 : Hid (wr.ownsRow w.heap.size 30 1 _ (two m 2) ((x :: cs).take (two m 2))) := Lib.hid (by
              show wr.ownsRow _ _ _ _ (1 + m) ((x :: cs).take (1 + m))
              rw [tk, hcs0, hm0]
              exact O2.out)
            clear hm0 hc0 hcs0 tk
            go_wp2_with (at_builtin; refine wpList_append_own_none rfl _ _ 71 rfl w.heap.size 30 i0 1 Tryd.underlying71 I0.out _ 1 [x] rfl O2.out rfl ?_)
            go_roundw
            case rel => exact ⟨_, _, _, ⟨2, by omega, rfl, O2.out, K2.out⟩, rfl, rfl, rfl⟩
            case measure => simp [intOf]
          | some ad =>
            have HN := Lib.hid (fun j u hj => (K2.out.cell (p := ad.add j) (block_lt_of_cell (hin ad rfl j u hj))).trans (hin ad rfl j u hj))
            go_wp2_with (at_builtin; refine wpList_append_own _ rfl _ _ 71 rfl w.heap.size 30 i0 (.slice none 0 0) 1 24 Tryd.underlying71 I0.out hz0 hz1 hz2 rfl (by decide) _ 1 [x] rfl O2.out ad m c cs rfl (by rw [hm, Nat.mul_one]) HN.out hcs1 (by unfold maxLen; omega) (by omega) K2.out.size ?_; intro v' w' r1 r2 _; have O3 := Lib.hid r1; have K3 := Lib.hid (K2.out.trans (grown_below O2.out r2 K2.out.size)); clear r1 r2)
            go_roundw
            case rel => exact ⟨2, by omega, rfl, by show w'.ownsRow _ _ _ _ (1 + m) ((x :: cs).take (1 + m)); rw [tk]; exact O3.out, K3.out⟩
            case measure => simp [intOf]
        | 2, _ =>
          simp only [two] at O2 ⊢
          go_wp2_with fail
          go_ret
          refine ⟨_, rfl, ?_, K2.out⟩
          have := O2.out
          rwa [List.take_of_length_le (by simp [hm]; omega)] at this
end Go.Proofs.YtfhlcondnaahiaaDoor
