/- What made makes, in plain words; lumps that come in; lumps of one's own. -/
import Derived.Test.YtfhlcondnaahiaaDoorPq
namespace Go.Proofs.YtfhlcondnaahiaaDoor
open Go.RowKit Sha

/-- A lump that came in. -/
structure Lmp where
  kind : Int
  a : Option Addr
  c : Nat
  l : List UInt8
def lumpsIn (w : World) (a : Option Addr) (R : List Lmp) : Prop := ∀ j (h : j < R.length), ∃ b o, a = some ⟨b, o, none⟩ ∧ w.cell? ⟨b, o + j * 2, none⟩ = some (.int .i64 R[j].kind) ∧ w.cell? ⟨b, o + j * 2 + 1, none⟩ = some (.slice R[j].a R[j].l.length R[j].c) ∧ Pt.ok0 w ⟨R[j].a, R[j].c, R[j].l⟩
theorem lumpsIn.below {w w' : World} {a : Option Addr} {R : List Lmp} (h : lumpsIn w a R) (k : Below w.heap.size w w') : lumpsIn w' a R := fun j hj => by
  obtain ⟨b, o, e, h1, h2, h3⟩ := h j hj
  exact ⟨b, o, e, (k.cell (block_lt_of_cell h1)).trans h1, (k.cell (block_lt_of_cell h2)).trans h2, h3.below k⟩
/-- A kind of a number. -/
def kz (z : Int) : Nat := (wrap64 ((IntKind.u64.wrap z).tmod 2)).toNat
theorem kz_eq (z : Int) : wrap64 ((IntKind.u64.wrap z).tmod 2) = (kz z : Int) ∧ kz z < 2 := by
  have hw : 0 ≤ IntKind.u64.wrap z := by rw [IntKind.wrap_u64]; omega
  have h1 := Int.emod_lt_of_pos (IntKind.u64.wrap z) (show (0 : Int) < 2 by omega)
  have h0 := Int.emod_nonneg (IntKind.u64.wrap z) (show (2 : Int) ≠ 0 by omega)
  have e : wrap64 ((IntKind.u64.wrap z).tmod 2) = IntKind.u64.wrap z % 2 := by
    rw [Int.tmod_eq_emod_of_nonneg hw]
    generalize IntKind.u64.wrap z % 2 = q at *
    unfold wrap64
    omega
  unfold kz
  rw [e]
  omega
def kd8 (z : Int) : UInt8 := if kz z = 0 then 1 else 2
theorem kd8_eq (z : Int) : V (kd8 z) = 1 + (kz z : Int) ∧ (V (kd8 z) = 1 ∨ V (kd8 z) = 2) := by
  have := (kz_eq z).2
  unfold kd8
  by_cases h : kz z = 0
  · rw [if_pos h, h]; exact ⟨rfl, Or.inl rfl⟩
  · have h1 : kz z = 1 := by omega
    rw [if_neg h, h1]; exact ⟨rfl, Or.inr rfl⟩
def itemOf (r : Lmp) : UInt8 × List UInt8 := (kd8 r.kind, r.l.take 150)
/-- What made holds: the writer, and how long what it had is. -/
structure Ms where
  told : Nat
  B : List UInt8
  L : List En
  D : List (Int × List UInt8)
def msStep (n : UInt8) (s : Ms) (k : UInt8) (b : List UInt8) : Ms :=
  if hmac (kN n 3) (k :: b) ∈ s.L.map En.id then s
  else ⟨s.told + 16, s.B ++ wseal (kN n 1) (kN n 2) k (hexL (hmac (kN n 3) (k :: b))) (tbytes [n] s.told 16) b, s.L ++ [⟨hmac (kN n 3) (k :: b), V k, s.B.length, b.length + 48⟩], s.D ++ [(V k, b)]⟩
def ms0 : Ms := ⟨0, [], [], []⟩
def firstL : List UInt8 := [102, 105, 114, 115, 116]
def madeS (n : UInt8) (R : List Lmp) (j : Nat) : Ms := (R.take j).foldl (fun s r => msStep n s (itemOf r).1 (itemOf r).2) (msStep n ms0 2 firstL)
theorem madeS_step (n : UInt8) (R : List Lmp) (j : Nat) (h : j < R.length) : madeS n R (j + 1) = msStep n (madeS n R j) (kd8 R[j].kind) (R[j].l.take 150) := by
  unfold madeS
  rw [List.take_succ_eq_append_getElem h, List.foldl_append]
  rfl
structure Ms.Good (s : Ms) (k : Nat) : Prop where
  told : s.told ≤ 16 * k
  len : s.L.length ≤ k
  dl : s.D.length = s.L.length
  bl : s.B.length = (s.L.map En.len).sum
  b : s.B.length ≤ 198 * k
  off : ∀ i (h : i < s.L.length), s.L[i].off = ((s.L.take i).map En.len).sum
  ln : ∀ i (h : i < s.L.length) (h' : i < s.D.length), s.L[i].len = s.D[i].2.length + 48
  fine : ∀ x ∈ s.L, x.fine ∧ x.len ≤ 198 ∧ 48 ≤ x.len
theorem ms0_good : ms0.Good 0 := ⟨Nat.le_refl _, Nat.le_refl _, rfl, rfl, Nat.le_refl _, fun i h => absurd h (Nat.not_lt_zero _), fun i h => absurd h (Nat.not_lt_zero _), fun x h => absurd h List.not_mem_nil⟩
theorem Ms.Good.step {s : Ms} {k : Nat} (h : s.Good k) (n : UInt8) (k8 : UInt8) (b : List UInt8) (hk : V k8 = 1 ∨ V k8 = 2) (hb : b.length ≤ 150) : (msStep n s k8 b).Good (k + 1) := by
  unfold msStep
  by_cases hin : hmac (kN n 3) (k8 :: b) ∈ s.L.map En.id
  · rw [if_pos hin]
    exact ⟨by have := h.told; omega, by have := h.len; omega, h.dl, h.bl, by have := h.b; omega, h.off, h.ln, h.fine⟩
  · rw [if_neg hin]
    have hw : ∀ N, N.length = 16 → (wseal (kN n 1) (kN n 2) k8 (hexL (hmac (kN n 3) (k8 :: b))) N b).length = b.length + 48 := fun N hN => wseal_length _ _ _ _ _ _ hN
    have hid : (hmac (kN n 3) (k8 :: b)).length = 32 := hmac_length _ _
    generalize hmac (kN n 3) (k8 :: b) = ID at *
    refine ⟨by have := h.told; show s.told + 16 ≤ _; omega, by have := h.len; simp; omega, by simp [h.dl], ?_, ?_, ?_, ?_, ?_⟩
    · simp only [List.length_append, List.map_append, List.sum_append, hw _ (tbytes_16 _ _), h.bl]
      simp
    · simp only [List.length_append, hw _ (tbytes_16 _ _)]
      have := h.b; omega
    · intro i hi
      by_cases hlt : i < s.L.length
      · simp only [List.getElem_append_left hlt, List.take_append_of_le_length (Nat.le_of_lt hlt)]
        exact h.off i hlt
      · have e : i = s.L.length := by simp at hi; omega
        subst e
        simp [h.bl]
    · intro i hi hi'
      by_cases hlt : i < s.L.length
      · have hlt' : i < s.D.length := by rw [h.dl]; exact hlt
        simp only [List.getElem_append_left hlt, List.getElem_append_left hlt']
        exact h.ln i hlt hlt'
      · have e : i = s.L.length := by simp at hi; omega
        subst e
        simp [← h.dl]
    · intro x hx
      rcases List.mem_append.1 hx with hx | hx
      · exact h.fine x hx
      · rw [List.mem_singleton.1 hx]
        exact ⟨⟨hid, hk, by show b.length + 48 ≤ _; omega⟩, by show b.length + 48 ≤ _; omega, by show 48 ≤ b.length + 48; omega⟩
theorem madeS_good (n : UInt8) (R : List Lmp) (j : Nat) (h : j ≤ R.length) : (madeS n R j).Good (j + 1) := by
  induction j with
  | zero =>
    have := ms0_good.step n 2 firstL (Or.inr rfl) (by decide)
    exact this
  | succ j ih =>
    rw [madeS_step n R j h]
    exact (ih (Nat.le_of_lt h)).step n _ _ (kd8_eq _).2 (by rw [List.length_take]; omega)
/-- Add, of few small blobs. -/
theorem addR_ms (n : UInt8) (s : Ms) (k : Nat) (h : s.Good k) (hk : k ≤ 20) (k8 : UInt8) (b : List UInt8) (hb : b.length ≤ 150) :
    addR (kN n 1) (kN n 2) (kN n 3) [n] s.told s.B s.L k8 b = ⟨hmac (kN n 3) (k8 :: b), decide (hmac (kN n 3) (k8 :: b) ∉ s.L.map En.id), 0, (msStep n s k8 b).told, (msStep n s k8 b).B, (msStep n s k8 b).L⟩ := by
  unfold addR msStep
  rw [if_neg (by omega)]
  by_cases hin : hmac (kN n 3) (k8 :: b) ∈ s.L.map En.id
  · rw [if_pos hin, if_pos hin]
    simp [hin]
  · rw [if_neg hin, if_neg hin, if_neg (by have := h.len; have := h.b; omega)]
    simp [hin]
theorem msStep_D (n : UInt8) (s : Ms) (k8 : UInt8) (b : List UInt8) : (msStep n s k8 b).D = if decide (hmac (kN n 3) (k8 :: b) ∉ s.L.map En.id) = true then s.D ++ [(V k8, b)] else s.D := by
  unfold msStep
  by_cases hin : hmac (kN n 3) (k8 :: b) ∈ s.L.map En.id
  · rw [if_pos hin, if_neg (by simpa using hin)]
  · rw [if_neg hin, if_pos (by simpa using hin)]
/-- Lumps of one's own: their kinds, and how long they are. -/
structure Lo where
  kind : Int
  a : Option Addr
  n : Nat
  c : Nat
def Lo.cells (d : Lo) : List Value := [.int .i64 d.kind, .slice d.a d.n d.c]
def loCells (D : List Lo) : List Value := D.flatMap Lo.cells
theorem loCells_append (D E : List Lo) : loCells (D ++ E) = loCells D ++ loCells E := by simp [loCells]
theorem info_lo : (Tryd.prog.info? 40).map (·.size) = some 2 := by kernel_rfl
theorem info_lo3 : (Tryd.prog.info? 40).map (fun i => (i.zero, i.size, i.bytes)) = some (some (.agg #[.int .i64 0, .slice none 0 0]), 2, 32) := by kernel_rfl
section
variable {w : World} {ops : Array Oper} {rest : List Oper} {o : Oper} {a : Act} {Q : Exit → Act → World → Prop}
/-- One lump more, behind. -/
theorem append_lo (hgd : o.guard = none) (s x : Operand) (ho : o.op = .call { callee := .builtin .append, args := #[s, x], argTypes := #[22, 22] })
    (base : Nat) (v : Value) (D : List Lo) (d : Lo) (hs : a.eval s = v) (hown : w.ownsRow base 40 2 v D.length (loCells D)) (g c : Nat) (hx : a.eval x = .slice (some ⟨g, 0, none⟩) 1 c) (hb : blockIs w g d.cells 40)
    (hn : D.length ≤ 100000) (hbase : base ≤ w.heap.size)
    (h : ∀ v' w', Hid (w'.ownsRow base 40 2 v' (D ++ [d]).length (loCells (D ++ [d]))) → Hid (w.grownBy w' v.ownBlock) → wpList Tryd.prog ops Q rest (a.put o.dst v') w') : wpList Tryd.prog ops Q (o :: rest) a w := by
  obtain ⟨i0, hi, hz0, hz1, hz2⟩ := info_parts info_lo3
  refine wpList_append_own_at w hgd s x 22 ho base 40 i0 _ 2 32 Tryd.underlying22 hi hz0 hz1 hz2 (by simp [Value.cells]) (by decide) v D.length (loCells D) hs hown ⟨g, 0, none⟩ 1 c d.cells hx rfl (fun j u hj => ?_) (fun u hu => ?_) (by unfold maxLen; omega) (by omega) hbase (fun v' w' r1 r2 _ _ => h v' w' (Lib.hid ?_) (Lib.hid r2))
  · rw [Addr.add_lit, Nat.zero_add, hb.cell]
    exact hj
  · simp only [Lo.cells, List.mem_cons, List.not_mem_nil, or_false] at hu
    rcases hu with rfl | rfl <;> rfl
  · rw [List.length_append, loCells_append, show loCells [d] = d.cells by simp [loCells]]
    exact r1
end
/-- A row of another type is none of the writer's. -/
theorem WrAt.rowF {X : World} {base wb tb : Nat} {fa : Option Addr} {fc : Nat} {F : List UInt8} {told : Nat} {PC : List Value} {B : List UInt8} {L : List En} {v1 v2 : Value} {gm : Option Nat} (h : WrAt X base wb tb fa fc F told PC B L v1 v2 gm) {b2 : Nat} {v : Value} {n : Nat} {xs : List Value} (hr : X.ownsRow b2 40 2 v n xs) (k : Nat) (hk : v.ownBlock = some k) : ¬ wF wb tb v1 v2 gm k := by
  rintro (q | q | q | q | q)
  · exact row_type hr h.i (by decide) (q ▸ hk)
  · exact row_type hr h.t.is (by decide) (q ▸ hk)
  · exact row_row h.a hr (by decide) k hk q
  · exact row_row h.e hr (by decide) k hk q
  · rcases h.s with ⟨e, -⟩ | ⟨g, e, hb, hs⟩
    · rw [e] at q; cases q
    · rw [e] at q; cases q; exact row_map hr hs hk
/-- What the writer doesn't touch stays. -/
theorem Kp.lowF {w X Y : World} {wb tb : Nat} {v1 v2 : Value} {gm : Option Nat} (hF : ∀ k, wF wb tb v1 v2 gm k → w.heap.size ≤ k) (hb : Below w.heap.size w X) (k : Kp (wF wb tb v1 v2 gm) X Y) : Below w.heap.size w Y := hb.trans (k.low hF hb.size)
set_option maxRecDepth 100000 in
theorem refName_any (l : List UInt8) (w : World) (hl : l.length ≤ 100000) :
    Calls Tryd.prog 38 #[.string (str l)] w fun e w' => e = .returned (.string (str (packName l))) ∧ Below w.heap.size w w' := by
  have RO := rof_any l w hl
  have h32 : (sha l).length = 32 := sha_length _
  have TX := Lib.hid (fun X => rtext_any (sha l) X (by omega))
  have cut := str_take40 (hexL (sha l)) (by rw [hexL_length, h32]; omega)
  have glue := name_glue ((hexL (sha l)).take 40)
  have gz : (str ((hexL (sha l)).take 40)).size = 40 := by rw [str_size', List.length_take, hexL_length, h32]; rfl
  unfold packName
  generalize sha l = D at *
  go_enter Tryd.func38, Tryd.ntmps38
  go_wp2_with (with_reducible refine RO.mono ?_; rintro e w2 ⟨rfl, kb⟩)
  have TX2 := TX.out w2
  clear TX RO
  go_wp2_with (with_reducible refine TX2.mono ?_; rintro e w3 ⟨rfl, kb2⟩)
  go_wp2_with fail
  go_ret
  exact ⟨rfl, kb.trans (kb2.mono kb.size)⟩
end Go.Proofs.YtfhlcondnaahiaaDoor
