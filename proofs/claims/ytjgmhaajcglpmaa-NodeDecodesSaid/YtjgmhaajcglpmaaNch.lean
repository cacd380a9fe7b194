/- slices.Chunk of bytes, by 32: its iterator. -/
import Derived.RangeFuncNested
import Derived.RangeFuncBound
import Derived.RangeFuncCalls
import Derived.RangeFuncLeaves
import Derived.Shelf.Abstract
import Derived.WalkKit
import Derived.OwnWalkIn
import Derived.TacticsInMore
import Derived.LoopNIn
import Derived.LoopIn
import Derived.Sort.QuietIn
import Derived.Sort.CutIn
import Derived.Test.YtjgmhaajcglpmaaIof
import Derived.Test.YtjgmhaajcglpmaaNs
namespace Go.Proofs.Ytjgmhaajcglpmaa
open Go.RowKit Go.Shelf
attribute [local go_sem] Oper.semAt_some

def chunkV (b off k : Nat) : Value := .slice (some ⟨b, off + 32 * k, none⟩) 32 32
/-- Two cells are as they were. -/
def keeps2 (p q : Nat) (W W' : World) : Prop := (∀ v, W.cell? ⟨p, 0, none⟩ = some v → W'.cell? ⟨p, 0, none⟩ = some v) ∧ ∀ v, W.cell? ⟨q, 0, none⟩ = some v → W'.cell? ⟨q, 0, none⟩ = some v
theorem keeps2_t {p q : Nat} {A B C : World} (h : keeps2 p q A B) (g : keeps2 p q B C) : keeps2 p q A C := ⟨fun v e => g.1 v (h.1 v e), fun v e => g.2 v (h.2 v e)⟩
theorem keeps2_b {p q : Nat} (W : World) (l : Nat) (o o' : Obj) (hl : W.heap[l]? = some o) (ho : o.isCells = false) : keeps2 p q W (W.putObj l o') := by
  have key : ∀ (a : Addr) (v : Value), W.cell? a = some v → (W.putObj l o').cell? a = some v := fun a v e => by
    obtain ⟨ob, h1, h2⟩ := cells_of_cell e
    refine (World.cell?_of_block (World.putObj_heap_other fun e2 => ?_)).trans e
    rw [e2, hl] at h1
    cases h1
    rw [ho] at h2
    cases h2
  exact ⟨fun v e => key _ v e, fun v e => key _ v e⟩
def fl (m k : Nat) : List (Fin m) := (List.finRange m).take k
theorem fl_next {m k : Nat} (h : k < m) : fl m (k + 1) = fl m k ++ [⟨k, h⟩] := by
  unfold fl
  rw [List.take_succ_eq_append_getElem (by rw [List.length_finRange]; exact h), List.getElem_finRange]
  rfl
theorem fl_len {m k : Nat} (h : k ≤ m) : (fl m k).length = k := by
  unfold fl
  rw [List.length_take, List.length_finRange]
  omega
theorem fl_all (m : Nat) : fl m m = List.finRange m := List.take_of_length_le (by rw [List.length_finRange]; exact Nat.le_refl _)
set_option maxRecDepth 100000 in
set_option maxHeartbeats 1000000 in
theorem chunk1_in (F : Fence) (n : Nat) (h76 : F.fn 76) (hro : F.round = none) (hn : 1 ≤ n) (l Bs Bn b off cap m : Nat) (A : Option Addr) (hA : 0 < m → A = some ⟨b, off, none⟩) (hcap : 32 * m ≤ cap) (hc9 : cap ≤ 9223372036854775807) (J Jx : List (Fin m) → World → Prop)
    (hJ : ∀ s (x : World) (t : Nat), J s x → J s (x.drewN t))
    (hY : ∀ pre (k : Fin m) W, J pre W → pre.length < m → YieldAt F (n - 1) Try.prog l #[chunkV b off k.1] W fun e W' =>
      (e = .returned (.bool true) ∧ J (pre ++ [k]) W' ∧ keeps2 Bs Bn W W') ∨ (e = .returned (.bool false) ∧ Jx (pre ++ [k]) W'))
    (W : World) (hs : W.cell? ⟨Bs, 0, none⟩ = some (.slice A (32 * m) cap)) (hv : W.cell? ⟨Bn, 0, none⟩ = some (.int .i64 32)) (h0 : J [] W) :
    CallsIn F n Try.prog 76 #[.func (.yield l) #[] #[], .pointer (some ⟨Bs, 0, none⟩), .pointer (some ⟨Bn, 0, none⟩)] W fun e W' => (∃ v, e = .returned v) ∧
      (J (List.finRange m) W' ∨ ∃ pre, Jx pre W') := by
  refine callsIn_of_wp Try.func76 rfl h76 ?_ hro
  simp only [Try.ntmps76, List.size_toArray, List.length_cons, List.length_nil, Nat.reduceAdd, Nat.reduceSub, Array.replicate_succ, Array.replicate_zero, List.push_toArray, List.append_toArray, List.nil_append, List.cons_append]
  gi_wp2
  gi_loopw [4] (fun i wr => ∃ k : Nat, k ≤ m ∧ i = .int .i64 (((32 * k : Nat)) : Int) ∧ J (fl m k) wr ∧ wr.cell? ⟨Bs, 0, none⟩ = some (.slice A (32 * m) cap) ∧ wr.cell? ⟨Bn, 0, none⟩ = some (.int .i64 32)) (fun i _ => 32 * m - (intOf i).toNat)
  case atStart => exact ⟨0, Nat.zero_le _, rfl, h0, hs, hv⟩
  case round =>
    obtain ⟨k, hk, rfl, hJs, c1, c2⟩ := hrel
    by_cases hlt : k < m
    · obtain rfl := hA (by omega)
      obtain ⟨i, hi⟩ : ∃ i, i = 32 * k := ⟨_, rfl⟩
      rw [← hi]
      obtain ⟨e, he⟩ : ∃ e, e = i + 32 := ⟨_, rfl⟩
      have pi : 0 ≤ (i : Int) := by omega
      have qi : (i : Int) < ((32 * m : Nat) : Int) := by omega
      have ne : ¬ cap = i := by omega
      have r1 : ∀ w, (Instr.slice 40 (.slice (some ⟨b, off, none⟩) (32 * m) cap) (some (.int .i64 (i : Int))) none none).run Try.prog w = .ok (.slice (some ⟨b, off + i, none⟩) (32 * m - i) (cap - i)) w := fun w => by
        have hu : Try.prog.underlying 40 = some (.slice (Try.prog.elem 40)) := by kernel_rfl
        rw [run_slice_l w 40 _ _ _ hu .i64 (i : Int) (by omega) (by omega), sz22]
        show Result.ok (sliced _ (i : Int).toNat _ _ 1) w = _
        rw [Int.toNat_natCast]
        unfold sliced
        rw [if_neg ne, Option.map_some, Addr.add_lit, Nat.mul_one]
      have me : (min (32 : Int) ((32 * m - i : Nat) : Int)) = 32 := by omega
      obtain ⟨ln, hln⟩ : ∃ ln, ln = 32 * m - i := ⟨_, rfl⟩
      rw [← hln] at r1 me
      have ew : IntKind.i64.wrap ((i : Int) + 32) = (e : Int) := by rw [IntWalk.i64_in _ (by omega)]; omega
      have r2 : ∀ w, (Instr.slice 40 (.slice (some ⟨b, off, none⟩) (32 * m) cap) (some (.int .i64 (i : Int))) (some (.int .i64 (e : Int))) (some (.int .i64 (e : Int)))).run Try.prog w = .ok (chunkV b off k) w := fun w => by
        have hu : Try.prog.underlying 40 = some (.slice (Try.prog.elem 40)) := by kernel_rfl
        rw [run_slice_lhm w 40 _ _ _ hu .i64 .i64 .i64 (i : Int) (e : Int) (e : Int) (by omega) (by omega) (by omega) (by omega), sz22]
        show Result.ok (sliced _ (i : Int).toNat (e : Int).toNat (e : Int).toNat 1) w = _
        rw [Int.toNat_natCast, Int.toNat_natCast]
        unfold sliced chunkV
        rw [if_neg (by omega), Option.map_some, Addr.add_lit, Nat.mul_one, show e - i = 32 by omega, hi]
      have HI := Lib.hid hi
      have HE := Lib.hid he
      clear hi he hln
      gi_upto_region 3 with fail
      refine wpIn_region_quiet_lit hro (by kernel_rfl) (by kernel_rfl) ?_
      repeat (gi_big_quiet_step (fail))
      refine wpQuietIn_nil ?_
      intro _ hw'
      obtain ⟨nq, hw''⟩ := hw'
      subst hw''
      obtain ⟨fn, tmps, assign, body, hy, hR⟩ := hY _ ⟨k, hlt⟩ (wr.drewN nq) (hJ _ _ nq hJs) (by rw [fl_len hk]; exact hlt)
      dsimp only at hy
      change (wr.drewN nq).cell? ⟨Bs, 0, none⟩ = _ at c1
      change (wr.drewN nq).cell? ⟨Bn, 0, none⟩ = _ at c2
      clear r1 hJs
      generalize wr.drewN nq = w2 at *
      generalize chunkV b off k = cv at *
      gi_wp2
      refine hR.mono ?_
      rintro e W3 (⟨rfl, hJ3, hk3⟩ | ⟨rfl, hJx3⟩)
      · have d1 := hk3.1 _ c1
        have d2 := hk3.2 _ c2
        clear c1 c2
        gi_wp2
        go_roundw
        case rel => exact ⟨k + 1, by omega, by rw [show 32 * (k + 1) = e by have := HI.out; have := HE.out; omega], by rw [fl_next hlt]; exact hJ3, d1, d2⟩
        case measure => have h1 := HI.out; have h2 := HE.out; simp [intOf]; omega
      · gi_wp2
        refine bodyPost_ret (results_none rfl _ _ _) rfl ?_
        exact ⟨⟨_, rfl⟩, .inr ⟨_, hJx3⟩⟩
    · obtain rfl : k = m := by omega
      gi_wp2
      go_end0
      rw [fl_all] at hJs
      exact ⟨⟨_, rfl⟩, .inl hJs⟩
theorem grownBy_drewN (w : World) (t : Nat) : w.grownBy (w.drewN t) none := by
  have h := below_drewN (Below.refl w.heap.size w) t
  exact ⟨h.os, h.tape, h.output, h.size, fun k hk _ => h.block k hk⟩
theorem chunk_stops (F : Fence) (n : Nat) (h76 : F.fn 76) (hro : F.round = none) (hn : 1 ≤ n) (Bs Bn b off cap m : Nat) (A : Option Addr) (hA : 0 < m → A = some ⟨b, off, none⟩) (hcap : 32 * m ≤ cap) (hc9 : cap ≤ 9223372036854775807)
    (w : World) (h1 : Bs < w.heap.size) (h2 : Bn < w.heap.size) (hs : w.cell? ⟨Bs, 0, none⟩ = some (.slice A (32 * m) cap)) (hv : w.cell? ⟨Bn, 0, none⟩ = some (.int .i64 32)) :
    SeqStopsK F n Try.prog 76 #[.pointer (some ⟨Bs, 0, none⟩), .pointer (some ⟨Bn, 0, none⟩)] (fun x : Fin m => #[chunkV b off x.1]) (keeps2 Bs Bn) (fun xs => xs = List.finRange m) (fun _ => True) m w := fun l J Jx W hW hJ _ hY h0 => by
  refine (chunk1_in F n h76 hro hn l Bs Bn b off cap m A hA hcap hc9 J Jx (fun s x t hs => hJ s x _ none hs (grownBy_drewN x t) (fun r e => by cases e)) hY W ((hW.cell (p := ⟨Bs, 0, none⟩) h1).trans hs) ((hW.cell (p := ⟨Bn, 0, none⟩) h2).trans hv) h0).mono ?_
  rintro e W' ⟨he, hj | ⟨pre, hj⟩⟩
  · exact ⟨he, .inl ⟨_, rfl, hj⟩⟩
  · exact ⟨he, .inr ⟨pre, trivial, hj⟩⟩
end Go.Proofs.Ytjgmhaajcglpmaa
