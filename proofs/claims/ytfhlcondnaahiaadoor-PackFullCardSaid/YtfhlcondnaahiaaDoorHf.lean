/- glyph's reader over bytes that are known, for pack.readHead. -/
import Derived.Test.YtfhlcondnaahiaaDoorHe
import Derived.Test.YtfhlcondnaahiaaDoorPh
import Derived.Test.YtfhlcondnaahiaaDoorGn
import Derived.Test.YtfhlcondnaahiaaDoorPa
import Derived.Test.YtfhlcondnaahiaaDoorHa
import Derived.Test.YtfhlcondnaahiaaDoorHk
import Derived.Test.YtfhlcondnaahiaaDoorHex
section
namespace Go.Proofs.YtfhlcondnaahiaaDoor.Gl
open Go.RowKit
variable {B : Nat}
theorem RdAt.kp {f : Nat → Prop} {w w' : World} {k : Nat} {L : List UInt8} {e : Int} (h : RdAt B w k L e) (q : Kp f w w') (hf : ∀ j, f j → B ≤ j ∧ j ≠ k) : RdAt B w' k L e := by
  obtain ⟨p, ⟨h1, h2⟩, h3, h4, h5, h6⟩ := h
  refine ⟨p, ⟨?_, h2.1, h2.2.1, ?_⟩, h3, h4, h5, h6⟩
  · unfold blockIs
    rw [q.block k h1.lt fun z => (hf k z).2 rfl]
    exact h1
  · rcases h2.2.2 with h0 | ⟨b, o, hb, hc⟩
    · exact Or.inl h0
    · refine Or.inr ⟨b, o, hb, fun j hj => q.cell (hc j hj) fun z => ?_⟩
      have := hf b z
      exact h6 b this.1 _ hb rfl
theorem But.kp {f : Nat → Prop} {b : Nat} {w w' : World} (h : But b w w') (hf : f b ∨ w.heap.size ≤ b) : Kp f w w' :=
  ⟨h.os, h.tape, h.output, h.size, fun k hk hn => h.block k hk fun e => hf.elim (fun q => hn (e ▸ q)) fun q => by omega⟩
end Go.Proofs.YtfhlcondnaahiaaDoor.Gl
namespace Go.Proofs.YtfhlcondnaahiaaDoor
open Go.RowKit Sha
end Go.Proofs.YtfhlcondnaahiaaDoor
end
section
/- pack.readHead, of a head that writeHead wrote. -/
namespace Go.Proofs.YtfhlcondnaahiaaDoor
open Go.RowKit Sha

theorem own_base {w : World} {base sz n : Nat} {e : TypeId} {v : Value} {xs : List Value} (h : w.ownsRow base e sz v n xs) (k : Nat) (hk : v.ownBlock = some k) : base ≤ k := by
  rcases h.2 with ⟨rfl, h0⟩ | ⟨q, cap, cur, rfl, hba, hh⟩
  · cases hk
  · simp only [Value.ownBlock] at hk
    cases hk
    exact hba
/-- What readHead holds: the reader (R is left), the row of the first j, the set of their names; all of it lies ahead of block T. -/
structure RhS (X : World) (B k g T : Nat) (v : Value) (L : List En) (j : Nat) (R : List UInt8) : Prop where
  rr : Gl.RdAt B X k R 0
  vv : X.ownsRow B 66 35 v (L.take j).length (enCells (L.take j))
  ss : setIs X g ((L.take j).map En.id)
  gg : B ≤ g
  kk : k < B
  gt : g < T
  vt : ∀ i, v.ownBlock = some i → i < T
  tt : B ≤ T
theorem RhS.kp {X Y : World} {B k g T j : Nat} {v : Value} {L : List En} {R : List UInt8} {f : Nat → Prop} (h : RhS X B k g T v L j R) (q : Kp f X Y) (hf : ∀ i, f i → T ≤ i) : RhS Y B k g T v L j R :=
  ⟨h.rr.kp q fun i hi => ⟨Nat.le_trans h.tt (hf i hi), fun e => by have := hf i hi; have := h.kk; have := h.tt; omega⟩,
    row_kp h.vv q fun i hi z => by have := hf i z; have := h.vt i hi; omega, set_kp h.ss q fun z => by have := hf g z; have := h.gt; omega, h.gg, h.kk, h.gt, h.vt, h.tt⟩
theorem RhS.call {X Y : World} {B k g T j : Nat} {v : Value} {L : List En} {R R' : List UInt8} (h : RhS X B k g T v L j R) (q : Gl.But k X Y) (hr : Gl.RdAt B Y k R' 0) : RhS Y B k g T v L j R' := by
  obtain ⟨p, ⟨h1, _⟩, _⟩ := h.rr
  have q : Kp (fun i => i = k) X Y := Gl.But.kp q (Or.inl rfl)
  exact ⟨hr, row_kp h.vv q fun i hi z => row_type h.vv h1 (by decide) (z ▸ hi), set_kp h.ss q fun z => h.ss.ne_cells h1 z, h.gg, h.kk, h.gt, h.vt, h.tt⟩
theorem RhS.make {X : World} {B k g j : Nat} {v : Value} {L : List En} {R : List UInt8} (r : Gl.RdAt B X k R 0) (hv : X.ownsRow B 66 35 v (L.take j).length (enCells (L.take j))) (hs : setIs X g ((L.take j).map En.id)) (hg : B ≤ g) (hk : k < B) (hb : B ≤ X.heap.size) : RhS X B k g X.heap.size v L j R := by
  refine ⟨r, hv, hs, hg, hk, hs.lt, fun i hi => ?_, hb⟩
  rcases hv.2 with ⟨e, h0⟩ | ⟨q, cap, cur, e, hba, hh, hr⟩
  · rw [e] at hi; cases hi
  · rw [e] at hi
    simp only [Value.ownBlock] at hi
    cases hi
    exact (Array.getElem?_eq_some_iff.1 hh).1
section
variable {w : World} {ops : Array Oper} {rest : List Oper} {o : Oper} {a : Act} {Q : Exit → Act → World → Prop}
end
theorem RhS.app {X Y : World} {B k g T j : Nat} {v : Value} {L : List En} {R : List UInt8} (h : RhS X B k g T v L j R) (hg : X.grownBy Y v.ownBlock) : Gl.RdAt B Y k R 0 ∧ setIs Y g ((L.take j).map En.id) := by
  obtain ⟨p, ⟨h1, _⟩, _⟩ := h.rr
  have q : Kp (fun i => v.ownBlock = some i) X Y := Kp.grown hg fun _ z => Or.inl z
  exact ⟨h.rr.kp q fun i hi => ⟨own_base h.vv i hi, fun e => row_type h.vv h1 (by decide) (e ▸ hi)⟩, set_kp h.ss q fun z => row_map h.vv h.ss z⟩
end Go.Proofs.YtfhlcondnaahiaaDoor
end
section
/- The entries of the document's kind (the law's from); what made holds, blob by blob. -/
namespace Go.Proofs.YtfhlcondnaahiaaDoor
open Go.RowKit Sha

/-- What is found in a pack, blob by blob. -/
structure Ms.Back (n : UInt8) (s : Ms) : Prop where
  nd : (s.L.map En.id).Nodup
  dl : s.D.length = s.L.length
  each : ∀ i (h : i < s.L.length) (h' : i < s.D.length), ∃ (k8 : UInt8) (N A E : List UInt8), N.length = 16 ∧ s.D[i].2.length ≤ 150 ∧ ((s.D[i].1 = 1 ∧ k8 = 1) ∨ (s.D[i].1 = 2 ∧ k8 = 2)) ∧ s.L[i].kind = s.D[i].1 ∧ s.L[i].id = hmac (kN n 3) (k8 :: s.D[i].2) ∧ s.L[i].len = s.D[i].2.length + 48 ∧ s.L[i].off = A.length ∧ s.B = A ++ (wseal (kN n 1) (kN n 2) k8 (hexL s.L[i].id) N s.D[i].2 ++ E)
theorem V_one {x : UInt8} (h : V x = 1) : x = 1 := UInt8.toNat_inj.1 (by
  have h : ((x.toNat : Nat) : Int) = 1 := h
  have : x.toNat = 1 := by omega
  rw [this]; rfl)
theorem V_two {x : UInt8} (h : V x = 2) : x = 2 := UInt8.toNat_inj.1 (by
  have h : ((x.toNat : Nat) : Int) = 2 := h
  have : x.toNat = 2 := by omega
  rw [this]; rfl)
theorem Ms.Back.step {s : Ms} {n : UInt8} (h : s.Back n) (k8 : UInt8) (b : List UInt8) (hk : V k8 = 1 ∨ V k8 = 2) (hb : b.length ≤ 150) : (msStep n s k8 b).Back n := by
  unfold msStep
  by_cases hin : hmac (kN n 3) (k8 :: b) ∈ s.L.map En.id
  · rw [if_pos hin]
    exact h
  · rw [if_neg hin]
    refine ⟨?_, ?_, ?_⟩
    · rw [List.map_append, List.nodup_append]
      refine ⟨h.nd, by simp, fun x hx y hy e => ?_⟩
      simp only [List.map_cons, List.map_nil, List.mem_singleton] at hy
      exact hin (hy ▸ e ▸ hx)
    · rw [List.length_append, List.length_append, h.dl]; rfl
    · intro i hi hi'
      by_cases hlt : i < s.L.length
      · have hlt' : i < s.D.length := by rw [h.dl]; exact hlt
        obtain ⟨k, N, A, E, h1, h2, h3, h4, h5, h6, h7, h8⟩ := h.each i hlt hlt'
        simp only [List.getElem_append_left hlt, List.getElem_append_left hlt']
        refine ⟨k, N, A, E ++ wseal (kN n 1) (kN n 2) k8 (hexL (hmac (kN n 3) (k8 :: b))) (tbytes [n] s.told 16) b, h1, h2, h3, h4, h5, h6, h7, ?_⟩
        refine (congrArg (fun q => q ++ wseal (kN n 1) (kN n 2) k8 (hexL (hmac (kN n 3) (k8 :: b))) (tbytes [n] s.told 16) b) h8).trans ?_
        simp only [List.append_assoc]
      · have e : i = s.L.length := by simp at hi; omega
        subst e
        refine ⟨k8, tbytes [n] s.told 16, s.B, [], tbytes_16 _ _, ?_, ?_, ?_, ?_, ?_, ?_, ?_⟩
        · simp only [← h.dl, List.getElem_concat_length]; exact hb
        · simp only [← h.dl, List.getElem_concat_length]
          rcases hk with q | q
          · exact Or.inl ⟨q, V_one q⟩
          · exact Or.inr ⟨q, V_two q⟩
        · simp [← h.dl]
        · simp [← h.dl]
        · simp [← h.dl]
        · simp
        · simp [← h.dl]
section
variable {w : World} {ops : Array Oper} {o : Oper} {a : Act} {K : Act → World → Prop} {Q : Exit → Act → World → Prop} {E : Prop}
end
end Go.Proofs.YtfhlcondnaahiaaDoor
end
