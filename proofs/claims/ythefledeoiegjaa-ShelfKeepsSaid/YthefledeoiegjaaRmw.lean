/- What ShelfRooms' walk wants. -/
import Derived.Test.YthefledeoiegjaaRms
import Derived.Test.YthefledeoiegjaaSd
import Derived.Test.YthefledeoiegjaaOpn
import Derived.Deep.DeepCutAuto
import Derived.Lib.Hide
namespace Go.Proofs.Ythefledeoiegjaa
open Go.RowKit

theorem join2 {α β : Type} {Q H : α → β → World → Prop} {G : Prop} (main : (∀ x y w, H x y w → Q x y w) → G) (rest : ∀ x y w, H x y w → Q x y w) : G := main rest
theorem wpAnyH_listed {P : Program} {md : Region.Mode} {ops : Array Oper} {Q : Exit → Act → World → Prop} {S : World → Prop} {fuel : Nat} {L L2 : Array Bool} {a : Act} {w : World} (h : L = L2) (g : wpAnyH P md ops Q S fuel L2 a w) : wpAnyH P md ops Q S fuel L a w := h ▸ g
theorem alloc_below (w : World) (o : Obj) : Below w.heap.size w (w.alloc o) := (Below.refl _ _).alloc (Nat.le_refl _) _
theorem made_in (X : World) (n : Nat) : bytesIn (X.alloc (.cells (zeroB n) 5 (0, 0))) (some ⟨X.heap.size, 0, none⟩) (List.replicate n 0) :=
  .inr ⟨_, _, rfl, fun j hj => by
    have hb := blockIs.new X (bvals (List.replicate n 0)) 5
    rw [Nat.zero_add]
    show (X.alloc (.cells (zeroB n) 5 (0, 0))).cell? _ = _
    unfold zeroB
    rw [hb.cell]
    simp at hj
    simp [bvals, hj]⟩
def ivals (T : List Nat) : List Value := T.map fun (x : Nat) => Value.int .i64 (x : Int)
theorem ivals_length (T : List Nat) : (ivals T).length = T.length := by simp [ivals]
theorem ivals_append (S T : List Nat) : ivals (S ++ T) = ivals S ++ ivals T := by simp [ivals]
theorem ivals_one (T : List Nat) : ∀ u ∈ ivals T, u.oneCell' = true := by
  intro u hu
  obtain ⟨x, -, rfl⟩ := List.mem_map.1 hu
  rfl
theorem modq (z q : Int) (hq : 0 < q) (hq2 : q ≤ 1000000) : ∃ n : Nat, wrap64 ((IntKind.u64.wrap z).tmod q) = (n : Int) ∧ (n : Int) < q := by
  have hw : 0 ≤ IntKind.u64.wrap z := by rw [IntKind.wrap_u64]; omega
  have h1 := Int.emod_lt_of_pos (IntKind.u64.wrap z) hq
  have h0 := Int.emod_nonneg (IntKind.u64.wrap z) (show q ≠ 0 by omega)
  rw [Int.tmod_eq_emod_of_nonneg hw]
  refine ⟨(IntKind.u64.wrap z % q).toNat, ?_, by omega⟩
  generalize IntKind.u64.wrap z % q = r at *
  unfold wrap64
  omega
theorem byte_nm {n : Nat} (h : n < 26) : IntKind.u8.wrap (97 + (n : Int)) = V (UInt8.ofNat (97 + n)) := by
  unfold V
  rw [UInt8.toNat_ofNat', IntKind.wrap_u8]
  omega
theorem ShAt.keeps_row {w w' : World} {B k : Nat} {m m' : Option Nat} {s : Sh} (h : ShAt w B k m s) (hs : Step k m w m' w') {base : Nat} {v : Value} {xs : List Value} (hv : rowV w base 3 v xs) : rowV w' base 3 v xs := by
  refine ⟨hv.1, ?_⟩
  rcases hv.2 with h0 | ⟨g, cap, cur, e, hb, hh, hr⟩
  · exact .inl h0
  · refine .inr ⟨g, cap, cur, e, hb, ?_, hr⟩
    rw [hs.block g (Array.getElem?_eq_some_iff.1 hh).1 ?_ ?_]
    · exact hh
    · intro e
      have hi := h.is
      unfold blockIs at hi
      rw [← e, hh] at hi
      cases hi
    · intro e
      obtain ⟨-, es, clock, hm, -⟩ := h.map g e
      rw [hh] at hm
      cases hm
theorem two_parts {w : World} {B k : Nat} {m : Option Nat} {s : Sh} (h : ShAt w B k m s) {ga gb gl h1 h2 : Nat} (i1 : bytesIn w (some ⟨ga, 0, none⟩) (List.replicate h1 0)) (i2 : bytesIn w (some ⟨gb, 0, none⟩) (List.replicate h2 0))
    (iv : valsIn w (some ⟨gl, 0, none⟩) [.slice (some ⟨ga, 0, none⟩) h1 h1, .slice (some ⟨gb, 0, none⟩) h2 h2]) (n1 : ga ≠ k) (n2 : gb ≠ k) (n3 : gl ≠ k) :
    ∀ m' w', Step k m w m' w' → partsIn w' (some ⟨gl, 0, none⟩) [(some ⟨ga, 0, none⟩, h1, List.replicate h1 0), (some ⟨gb, 0, none⟩, h2, List.replicate h2 0)] := by
  intro m' w' hs
  have kb : ∀ {g : Nat} {l : List UInt8}, g ≠ k → bytesIn w (some ⟨g, 0, none⟩) l → bytesIn w' (some ⟨g, 0, none⟩) l := by
    intro g l hn hi
    rcases hi with h0 | ⟨b, o, e, hc⟩
    · exact .inl h0
    · cases e
      exact .inr ⟨g, 0, rfl, fun j hj => h.keeps_cell hs (hc j hj) hn⟩
  refine ⟨?_, ?_⟩
  · have := h.keeps_vals hs iv (fun p e => by cases e; exact n3)
    simpa [partV] using this
  · intro p hp
    simp only [List.mem_cons, List.not_mem_nil, or_false] at hp
    rcases hp with rfl | rfl
    · exact ⟨kb n1 i1, fun e => by cases e⟩
    · exact ⟨kb n2 i2, fun e => by cases e⟩
theorem join_two (a b : Option Addr) (c d h1 h2 : Nat) : partsJoin [(a, c, List.replicate h1 0), (b, d, List.replicate h2 0)] = List.replicate (h1 + h2) 0 := by
  simp [partsJoin]
theorem ShAt.grown {w w' : World} {B k : Nat} {m : Option Nat} {s : Sh} (h : ShAt w B k m s) {base : Nat} {v : Value} {xs : List Value} (hv : rowV w base 3 v xs) (hg : w.grownBy w' v.ownBlock) : ShAt w' B k m s := by
  have hne : ∀ b, b < w.heap.size → (∀ cs f, w.heap[b]? ≠ some (.cells cs 3 f)) → w'.heap[b]? = w.heap[b]? := fun b hb hc => hg.block b hb fun e => by
    rcases hv.2 with ⟨rfl, h0⟩ | ⟨g', cap, cur, rfl, hba, hh, -⟩
    · cases e
    · cases e
      exact hc _ _ hh
  have hk : w'.heap[k]? = w.heap[k]? := hne k h.is.lt fun cs f e => by
    have hi := h.is
    unfold blockIs at hi
    rw [e] at hi
    cases hi
  refine ⟨h.lo, ?_, h.nil, fun g e => ?_⟩
  · have hi := h.is
    unfold blockIs at hi ⊢
    rw [hk]
    exact hi
  · obtain ⟨h1, h2⟩ := h.map g e
    refine ⟨h1, h2.of_block (hne g h2.lt fun cs f e2 => ?_)⟩
    obtain ⟨es, clock, hm, -⟩ := h2
    rw [e2] at hm
    cases hm
theorem step_append_vals {w : World} {ops : Array Oper} {o : Oper} {a : Act} {K : Act → World → Prop} {Q : Exit → Act → World → Prop} {E : Prop} (hgd : o.guard = none) (s x : Operand) (t e : TypeId)
    (ho : o.op = .call { callee := .builtin .append, args := #[s, x], argTypes := #[t, t] })
    (ht : Try.prog.underlying t = some (.slice e)) (z : Value) (bytes : Nat) (hi : (Try.prog.info? e).map (fun i => (i.zero, i.size, i.bytes)) = some (some z, 1, bytes)) (hz1 : z.cells.size = 1) (hby : bytes ≤ 1000)
    (base : Nat) (v : Value) (xs : List Value) (hs : a.eval s = v) (hown : rowV w base e v xs) (A : Option Addr) (n c : Nat) (l : List Value) (hnl : n = l.length) (hx : a.eval x = .slice A n c)
    (hz : A = none → c = 0) (hb : valsIn w A l) (hl1 : ∀ u ∈ l, u.oneCell' = true) (hn : xs.length + l.length ≤ 1000000) (hbase : base ≤ w.heap.size)
    (h : ∀ v' w', rowV w' base e v' (xs ++ l) → w.grownBy w' v.ownBlock → K (a.put o.dst v') w') : if Region.wanted o (yielded ops a.tmps) = true then Oper.wp Try.prog o a w K Q else E := by
  have hw : Region.wanted o (yielded ops a.tmps) = true := by simp [Region.wanted, hgd]
  rw [if_pos hw]
  subst hnl
  obtain ⟨i0, hi, hz0, hz1', hz2⟩ := info_parts hi
  cases A with
  | none =>
    have hl : l = [] := by
      rcases hb with h0 | ⟨b, o', h1, _⟩
      · exact h0
      · cases h1
    subst hl
    obtain rfl := hz rfl
    have hrun := run_append_owned_none (P := Try.prog) (w := w) base t o.type e i0 1 ht hi v _ _ hown
    unfold Oper.wp
    simp [execOp, ho, resolve, invoke, builtin, hs, hx, hrun, Result.andThen]
    exact h v w (by simpa using hown) (World.grownBy.refl w _)
  | some ad =>
    refine wp_append_own w s x t ho base e i0 z 1 bytes ht hi hz0 hz1' hz2 hz1 (by decide) v _ _ hs hown ad l.length c l hx (by simp) ?_ hl1 ?_ ?_ hbase ?_
    · intro j u hj
      have hjn : j < l.length := (List.getElem?_eq_some_iff.1 hj).1
      rcases hb with h0 | ⟨b, o', h1, hc⟩
      · rw [h0] at hjn; simp at hjn
      · cases h1
        rw [Addr.add_lit, hc j hjn, ← hj]
    · unfold maxLen; omega
    · have : (xs.length + l.length) * bytes ≤ 1000000 * 1000 := Nat.mul_le_mul hn hby
      omega
    · intro v' w' h1 h2 _
      refine h v' w' ?_ h2
      unfold rowV
      rw [List.length_append]
      exact h1
theorem slice_ints : Try.prog.underlying 24 = some (.slice (Try.prog.elem 24)) := by kernel_rfl
theorem sz_ints (w : World) : (sizeOf (Try.prog.elem 24)).run Try.prog w = .ok 1 w := by kernel_rfl
theorem vals_drop {w : World} {b o : Nat} {xs : List Value} (h : ∀ j, j < xs.length → w.cell? ⟨b, o + j, none⟩ = xs[j]?) (i : Nat) : ∀ j, j < (xs.drop i).length → w.cell? ⟨b, o + i + j, none⟩ = (xs.drop i)[j]? := fun j hj => by
  rw [List.length_drop] at hj
  rw [Nat.add_assoc, h (i + j) (by omega), List.getElem?_drop]
/-- The first ints of a row. -/
theorem ints_head (a : Option Addr) (n c k : Nat) (hk : k ≤ n) (hc : n ≤ c) (hz : a = none → c = 0) : ∃ a' c', (∀ X, (Instr.slice 24 (.slice a n c) none (some (.int .i64 (k : Int))) none).run Try.prog X = .ok (.slice a' k c') X) ∧ (a' = none → c' = 0) ∧ ∀ Y xs, xs.length = n → valsIn Y a xs → valsIn Y a' (xs.take k) := by
  refine ⟨a, c, fun X => ?_, hz, fun Y xs _ h => h.take k⟩
  rw [run_slice_h X 24 a n c slice_ints .i64 (k : Int) (by omega) (by omega), sz_ints]
  show Result.ok (sliced a 0 (k : Int).toNat c 1) X = _
  rw [Int.toNat_natCast]
  unfold sliced
  by_cases h0 : c = 0
  · rw [if_pos h0, Nat.sub_zero, Nat.sub_zero]
  · rw [if_neg h0, Nat.sub_zero, Nat.sub_zero]
    cases a with
    | none => rfl
    | some ad =>
      obtain ⟨b, o, s⟩ := ad
      cases s <;> simp [Addr.add]
/-- The ints of a row from one on. -/
theorem ints_tail (a : Option Addr) (n c k : Nat) (hk : k ≤ n) (hc : n ≤ c) (hz : a = none → c = 0) : ∃ a' c', (∀ X, (Instr.slice 24 (.slice a n c) (some (.int .i64 (k : Int))) none none).run Try.prog X = .ok (.slice a' (n - k) c') X) ∧ (a' = none → c' = 0) ∧ ∀ Y xs, xs.length = n → valsIn Y a xs → valsIn Y a' (xs.drop k) := by
  refine ⟨if c = k then a else a.map (fun x => x.add (k * 1)), c - k, fun X => ?_, ?_, fun Y xs hl h => ?_⟩
  · rw [run_slice_l X 24 a n c slice_ints .i64 (k : Int) (by omega) (by omega), sz_ints]
    rfl
  · intro e
    by_cases h0 : c = k
    · omega
    · rw [if_neg h0] at e
      cases a with
      | none => have := hz rfl; omega
      | some ad => cases e
  · by_cases h0 : c = k
    · have : xs.drop k = [] := List.drop_eq_nil_of_le (by omega)
      exact .inl this
    · rw [if_neg h0]
      rcases h with h | ⟨b, o, rfl, hc⟩
      · exact .inl (by rw [h]; simp)
      · refine .inr ⟨b, o + k, ?_, vals_drop hc k⟩
        show some (Addr.add _ (k * 1)) = _
        rw [Nat.mul_one, Addr.add_lit]
theorem row_empty (w : World) (base : Nat) (hb : base ≤ w.heap.size) : rowV (w.alloc (.cells #[] 3 (0, 0))) base 3 (.slice (some ⟨w.heap.size, 0, none⟩) 0 0) [] := by
  have := World.ownsRow_lit (base := base) (e := 3) (size := 1) w #[] 0 hb (by unfold maxLen; omega) (by simp)
  simpa [rowV] using this
theorem put_le (n : List UInt8) (o : Ob) : ∀ L : List Ent, sizeSum (put L n o) ≤ sizeSum L + o.1.length
  | [] => by simp [put, sizeSum]
  | p :: r => by
    have := put_le n o r
    unfold put
    split
    · simp [sizeSum]
      omega
    · simp only [sizeSum, List.map_cons, List.sum_cons] at this ⊢
      omega
theorem info_int : (Try.prog.info? 3).map (fun i => (i.zero, i.size, i.bytes)) = some (some (.int .i64 0), 1, 8) := by kernel_rfl
end Go.Proofs.Ythefledeoiegjaa
