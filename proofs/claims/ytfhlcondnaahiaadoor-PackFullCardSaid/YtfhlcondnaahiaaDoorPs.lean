/- What made makes, in plain words; lumps that come in; lumps of one's own. -/
import Derived.Test.YtfhlcondnaahiaaDoorPq
namespace Go.Proofs.YtfhlcondnaahiaaDoor
open Go.RowKit Sha

/-- A lump that came in. -/
structure Lmp where
  kind : Int
  a : Option Addr
  c : Nat
  l : List UInt8
def lumpsIn (w : World) (a : Option Addr) (R : List Lmp) : Prop := ∀ j (h : j < R.length), ∃ b o, a = some ⟨b, o, none⟩ ∧ w.cell? ⟨b, o + j * 2, none⟩ = some (.int .i64 R[j].kind) ∧ w.cell? ⟨b, o + j * 2 + 1, none⟩ = some (.slice R[j].a R[j].l.length R[j].c) ∧ Pt.ok0 w ⟨R[j].a, R[j].c, R[j].l⟩
theorem lumpsIn.below {w w' : World} {a : Option Addr} {R : List Lmp} (h : lumpsIn w a R) (k : Below w.heap.size w w') : lumpsIn w' a R := fun j hj => by
  obtain ⟨b, o, e, h1, h2, h3⟩ := h j hj
  exact ⟨b, o, e, (k.cell (block_lt_of_cell h1)).trans h1, (k.cell (block_lt_of_cell h2)).trans h2, h3.below k⟩
/-- What made holds: the writer, and how long what it had is. -/
structure Ms where
  told : Nat
  B : List UInt8
  L : List En
  D : List (Int × List UInt8)
def msStep (n : UInt8) (s : Ms) (k : UInt8) (b : List UInt8) : Ms :=
  if hmac (kN n 3) (k :: b) ∈ s.L.map En.id then s
  else ⟨s.told + 16, s.B ++ wseal (kN n 1) (kN n 2) k (hexL (hmac (kN n 3) (k :: b))) (tbytes [n] s.told 16) b, s.L ++ [⟨hmac (kN n 3) (k :: b), V k, s.B.length, b.length + 48⟩], s.D ++ [(V k, b)]⟩
def ms0 : Ms := ⟨0, [], [], []⟩
def firstL : List UInt8 := [102, 105, 114, 115, 116]
structure Ms.Good (s : Ms) (k : Nat) : Prop where
  told : s.told ≤ 16 * k
  len : s.L.length ≤ k
  dl : s.D.length = s.L.length
  bl : s.B.length = (s.L.map En.len).sum
  b : s.B.length ≤ 198 * k
  off : ∀ i (h : i < s.L.length), s.L[i].off = ((s.L.take i).map En.len).sum
  ln : ∀ i (h : i < s.L.length) (h' : i < s.D.length), s.L[i].len = s.D[i].2.length + 48
  fine : ∀ x ∈ s.L, x.fine ∧ x.len ≤ 198 ∧ 48 ≤ x.len
theorem ms0_good : ms0.Good 0 := ⟨Nat.le_refl _, Nat.le_refl _, rfl, rfl, Nat.le_refl _, fun i h => absurd h (Nat.not_lt_zero _), fun i h => absurd h (Nat.not_lt_zero _), fun x h => absurd h List.not_mem_nil⟩
theorem Ms.Good.step {s : Ms} {k : Nat} (h : s.Good k) (n : UInt8) (k8 : UInt8) (b : List UInt8) (hk : V k8 = 1 ∨ V k8 = 2) (hb : b.length ≤ 150) : (msStep n s k8 b).Good (k + 1) := by
  unfold msStep
  by_cases hin : hmac (kN n 3) (k8 :: b) ∈ s.L.map En.id
  · rw [if_pos hin]
    exact ⟨by have := h.told; omega, by have := h.len; omega, h.dl, h.bl, by have := h.b; omega, h.off, h.ln, h.fine⟩
  · rw [if_neg hin]
    have hw : ∀ N, N.length = 16 → (wseal (kN n 1) (kN n 2) k8 (hexL (hmac (kN n 3) (k8 :: b))) N b).length = b.length + 48 := fun N hN => wseal_length _ _ _ _ _ _ hN
    have hid : (hmac (kN n 3) (k8 :: b)).length = 32 := hmac_length _ _
    generalize hmac (kN n 3) (k8 :: b) = ID at *
    refine ⟨by have := h.told; show s.told + 16 ≤ _; omega, by have := h.len; simp; omega, by simp [h.dl], ?_, ?_, ?_, ?_, ?_⟩
    · simp only [List.length_append, List.map_append, List.sum_append, hw _ (tbytes_16 _ _), h.bl]
      simp
    · simp only [List.length_append, hw _ (tbytes_16 _ _)]
      have := h.b; omega
    · intro i hi
      by_cases hlt : i < s.L.length
      · simp only [List.getElem_append_left hlt, List.take_append_of_le_length (Nat.le_of_lt hlt)]
        exact h.off i hlt
      · have e : i = s.L.length := by simp at hi; omega
        subst e
        simp [h.bl]
    · intro i hi hi'
      by_cases hlt : i < s.L.length
      · have hlt' : i < s.D.length := by rw [h.dl]; exact hlt
        simp only [List.getElem_append_left hlt, List.getElem_append_left hlt']
        exact h.ln i hlt hlt'
      · have e : i = s.L.length := by simp at hi; omega
        subst e
        simp [← h.dl]
    · intro x hx
      rcases List.mem_append.1 hx with hx | hx
      · exact h.fine x hx
      · rw [List.mem_singleton.1 hx]
        exact ⟨⟨hid, hk, by show b.length + 48 ≤ _; omega⟩, by show b.length + 48 ≤ _; omega, by show 48 ≤ b.length + 48; omega⟩
/-- Add, of few small blobs. -/
theorem addR_ms (n : UInt8) (s : Ms) (k : Nat) (h : s.Good k) (hk : k ≤ 20) (k8 : UInt8) (b : List UInt8) (hb : b.length ≤ 150) :
    addR (kN n 1) (kN n 2) (kN n 3) [n] s.told s.B s.L k8 b = ⟨hmac (kN n 3) (k8 :: b), decide (hmac (kN n 3) (k8 :: b) ∉ s.L.map En.id), 0, (msStep n s k8 b).told, (msStep n s k8 b).B, (msStep n s k8 b).L⟩ := by
  unfold addR msStep
  rw [if_neg (by omega)]
  by_cases hin : hmac (kN n 3) (k8 :: b) ∈ s.L.map En.id
  · rw [if_pos hin, if_pos hin]
    simp [hin]
  · rw [if_neg hin, if_neg hin, if_neg (by have := h.len; have := h.b; omega)]
    simp [hin]
/-- Lumps of one's own: their kinds, and how long they are. -/
structure Lo where
  kind : Int
  a : Option Addr
  n : Nat
  c : Nat
def Lo.cells (d : Lo) : List Value := [.int .i64 d.kind, .slice d.a d.n d.c]
section
variable {w : World} {ops : Array Oper} {rest : List Oper} {o : Oper} {a : Act} {Q : Exit → Act → World → Prop}
end
/-- A row of another type is none of the writer's. -/
theorem WrAt.rowF {X : World} {base wb tb : Nat} {fa : Option Addr} {fc : Nat} {F : List UInt8} {told : Nat} {PC : List Value} {B : List UInt8} {L : List En} {v1 v2 : Value} {gm : Option Nat} (h : WrAt X base wb tb fa fc F told PC B L v1 v2 gm) {b2 : Nat} {v : Value} {n : Nat} {xs : List Value} (hr : X.ownsRow b2 40 2 v n xs) (k : Nat) (hk : v.ownBlock = some k) : ¬ wF wb tb v1 v2 gm k := by
  rintro (q | q | q | q | q)
  · exact row_type hr h.i (by decide) (q ▸ hk)
  · exact row_type hr h.t.is (by decide) (q ▸ hk)
  · exact row_row h.a hr (by decide) k hk q
  · exact row_row h.e hr (by decide) k hk q
  · rcases h.s with ⟨e, -⟩ | ⟨g, e, hb, hs⟩
    · rw [e] at q; cases q
    · rw [e] at q; cases q; exact row_map hr hs hk
/-- What the writer doesn't touch stays. -/
theorem Kp.lowF {w X Y : World} {wb tb : Nat} {v1 v2 : Value} {gm : Option Nat} (hF : ∀ k, wF wb tb v1 v2 gm k → w.heap.size ≤ k) (hb : Below w.heap.size w X) (k : Kp (wF wb tb v1 v2 gm) X Y) : Below w.heap.size w Y := hb.trans (k.low hF hb.size)
end Go.Proofs.YtfhlcondnaahiaaDoor
