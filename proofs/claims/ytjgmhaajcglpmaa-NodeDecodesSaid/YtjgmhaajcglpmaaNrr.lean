/- A region of the body of a loop over a function (a round): walked as any other. -/
import Derived.Deep.RegionHeld3
import Derived.Test.YtjgmhaajcglpmaaNch
namespace Go.Proofs.Ytjgmhaajcglpmaa
open Go.RowKit

section
variable {P : Program} {ops : Array Oper} {Q : Exit → Act → World → Prop} {md : Region.Mode} {n l : Nat}
theorem uponIn_round_of {o : Oper} {a : Act} {K : Act → World → Prop} {r : Result Next} (h : o.upon P a K Q r) : o.uponIn (Fence.wide.inRound l) n P a K Q r := by
  cases r with
  | ok x w =>
    cases x with
    | value v => exact h
    | skip => exact h
    | defer d => exact h
    | enter f args => exact ⟨(fun h => by cases h), (callsIn_wide (n := n - 1)).2 h⟩
    | row r args => exact ⟨(fun h => by cases h), fun c cs _ => let ⟨v, w', q, s⟩ := h c cs; ⟨v, w', q, stepsIn_wide.2 s⟩⟩
    | _ => exact (h : False).elim
  | halt x w => cases x <;> first | exact h | exact (h : False).elim
theorem wpAnyIn_round_of (hd : ∀ o ∈ ops, ∀ c, o.op ≠ .defer c) (hL : ¬ LetsOut Q) : ∀ (fuel : Nat) (listed : Array Bool) (a : Act) (w : World), wpAny P md ops Q fuel listed a w → wpAnyIn (Fence.wide.inRound l) n P md ops Q fuel listed a w
  | 0, _, _, _, h => h
  | fuel + 1, listed, a, w, h => by
    refine ⟨h.1, fun i hi => ?_⟩
    have g := h.2 i hi
    unfold wpOp at g
    unfold wpOpIn
    cases ho : ops[i]? with
    | none =>
      rw [ho] at g
      exact wpAnyIn_round_of hd hL fuel _ _ _ g
    | some o =>
      rw [ho] at g
      dsimp only at g ⊢
      split
      · rename_i hw
        rw [if_pos hw] at g
        obtain g := g.resolve_right fun h => hL h.2
        have g := Oper.wp_mono (fun a w h => wpAnyIn_round_of hd hL fuel _ a w h) g
        refine ⟨fun f _ => trivial, ?_⟩
        rw [Oper.semAt_plain _ _ _ (hd o (Array.mem_of_getElem? ho))]
        exact uponIn_round_of g
      · rename_i hw
        rw [if_neg hw] at g
        exact ⟨fun f _ => trivial, wpAnyIn_round_of hd hL fuel _ _ _ g⟩
def noDefer (ops : Array Oper) : Bool := ops.all fun o => match o.op with | .defer _ => false | _ => true
theorem noDefer_spec (h : noDefer ops = true) : ∀ o ∈ ops, ∀ c, o.op ≠ .defer c := fun o ho c e => by
  have := Array.all_eq_true_iff_forall_mem.1 h o ho
  rw [e] at this
  cases this
theorem wpIn_region_round {id : Nat} {a : Act} {w : World} {S : World → Prop} (hm : P.follows .mixedOrders = true) (hd : noDefer ops = true) (hL : ∀ a w, ¬ Q .outgrown a w) (hS : S w.drew)
    (h : S w.drew → wpAnyH P .any ops (NoPanic Q) S ops.size (Array.replicate ops.size false) a w.drew) : (Code.region id ops true).wpIn (Fence.wide.inRound l) n P Q a w :=
  wpIn_mono (Q := NoPanic Q) (wpIn_region_any hm (wpAnyIn_round_of (Q := NoPanic Q) (noDefer_spec hd) (fun ⟨a, w, h⟩ => hL a w h) _ _ _ _ (wpAny_of_held _ _ _ _ (h hS)))) NoPanic.imp
end
end Go.Proofs.Ytjgmhaajcglpmaa
