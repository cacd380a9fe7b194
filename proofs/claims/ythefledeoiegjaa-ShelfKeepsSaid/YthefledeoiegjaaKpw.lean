/- What ShelfKeeps' walk wants: four rows of texts of one's own. -/
import Derived.Test.YthefledeoiegjaaKps
import Derived.Test.YthefledeoiegjaaRmw
import Derived.Maps.AppendAt
import Derived.Deep.CutBlock
namespace Go.Proofs.Ythefledeoiegjaa
open Go.RowKit

/-- A text more behind a row of one's own; where the row lies then. -/
theorem append_one_at {w : World} {ops : Array Oper} {rest : List Oper} {o : Oper} {a : Act} {Q : Exit → Act → World → Prop} (hgd : o.guard = none) (s x : Operand)
    (ho : o.op = .call { callee := .builtin .append, args := #[s, x], argTypes := #[22, 22] })
    (base : Nat) (v : Value) (l : List (List UInt8)) (hs : a.eval s = v) (hown : rowV w base 9 v (svals l)) (g : Nat) (y : List UInt8) (hx : a.eval x = .slice (some ⟨g, 0, none⟩) 1 1)
    (hg : w.cell? ⟨g, 0, none⟩ = some (.string (str y))) (hn : l.length ≤ 100000) (hbase : base ≤ w.heap.size)
    (h : ∀ v' w', Hid (rowV w' base 9 v' (svals (l ++ [y]))) → Hid (w.grownBy w' v.ownBlock) → Hid (v'.ownBlock = v.ownBlock ∨ v'.ownBlock = some w.heap.size) → wpList Try.prog ops Q rest (a.put o.dst v') w') : wpList Try.prog ops Q (o :: rest) a w := by
  obtain ⟨i0, hi, hz0, hz1', hz2⟩ := info_parts info_str
  refine wpList_append_own_at w hgd s x 22 ho base 9 i0 (.string ⟨#[]⟩) 1 16 Try.underlying22 hi hz0 hz1' hz2 rfl (by decide) v _ _ hs hown ⟨g, 0, none⟩ 1 1 [.string (str y)] hx rfl ?_ (by simp [Value.oneCell']) ?_ ?_ hbase ?_
  · intro j u hj
    have : j = 0 := by
      have := (List.getElem?_eq_some_iff.1 hj).1
      simp at this; exact this
    subst this
    rw [Addr.add_lit, Nat.add_zero, hg]
    simpa using hj
  · unfold maxLen; rw [svals_length]; omega
  · rw [svals_length]; omega
  · intro v' w' h1 h2 _ h4
    refine h v' w' (Lib.hid ?_) (Lib.hid h2) (Lib.hid h4)
    unfold rowV
    rw [svals_append, List.length_append]
    exact h1
theorem rowV.own_low {w : World} {base : Nat} {e : TypeId} {v : Value} {xs : List Value} (h : rowV w base e v xs) {g : Nat} (hg : v.ownBlock = some g) : g < w.heap.size := by
  rcases h.2 with ⟨rfl, h0⟩ | ⟨g', cap, cur, rfl, hba, hh, -⟩
  · cases hg
  · cases hg
    exact (Array.getElem?_eq_some_iff.1 hh).1
theorem rowV.other {w w' : World} {base : Nat} {e : TypeId} {v : Value} {xs : List Value} (h : rowV w base e v xs) {r : Option Nat} (hg : w.grownBy w' r) (hr : ∀ g, v.ownBlock = some g → r ≠ some g) : rowV w' base e v xs := by
  refine ⟨h.1, ?_⟩
  rcases h.2 with h0 | ⟨g, cap, cur, rfl, hb, hh, hk⟩
  · exact .inl h0
  · exact .inr ⟨g, cap, cur, rfl, hb, (hg.block g (Array.getElem?_eq_some_iff.1 hh).1 (fun e => hr g rfl e.symm)).trans hh, hk⟩
def Apart (u v : Value) : Prop := ∀ g, u.ownBlock = some g → v.ownBlock ≠ some g
theorem Apart.symm {u v : Value} (h : Apart u v) : Apart v u := fun g e e2 => h g e2 e
theorem Apart.turn {w : World} {base : Nat} {e : TypeId} {u v v' : Value} {xs : List Value} (h : Apart u v) (hu : rowV w base e u xs) (hv : v'.ownBlock = v.ownBlock ∨ v'.ownBlock = some w.heap.size) : Apart u v' := fun g eg e2 => by
  rcases hv with hv | hv
  · exact h g eg (hv ▸ e2)
  · have h1 := hu.own_low eg
    rw [hv] at e2
    cases e2
    omega
/-- Four rows of texts of one's own, apart from one another: those that are sure, all, and their names. -/
structure Four (w : World) (base : Nat) (v5 v6 v7 v8 : Value) (K A N X : List (List UInt8)) : Prop where
  k : rowV w base 9 v5 (svals K)
  a : rowV w base 9 v6 (svals A)
  n : rowV w base 9 v7 (svals N)
  x : rowV w base 9 v8 (svals X)
  ka : Apart v5 v6
  kn : Apart v5 v7
  kx : Apart v5 v8
  an : Apart v6 v7
  ax : Apart v6 v8
  nx : Apart v7 v8
theorem Four.none (w : World) (base : Nat) : Four w base (.slice none 0 0) (.slice none 0 0) (.slice none 0 0) (.slice none 0 0) [] [] [] [] :=
  ⟨rowV.nil _ _ _, rowV.nil _ _ _, rowV.nil _ _ _, rowV.nil _ _ _, (fun _ e => by cases e), (fun _ e => by cases e), (fun _ e => by cases e), (fun _ e => by cases e), (fun _ e => by cases e), (fun _ e => by cases e)⟩
theorem Four.below {w w' : World} {base : Nat} {v5 v6 v7 v8 : Value} {K A N X : List (List UInt8)} (h : Four w base v5 v6 v7 v8 K A N X) (kb : Below w.heap.size w w') : Four w' base v5 v6 v7 v8 K A N X :=
  ⟨h.k.below kb (Nat.le_refl _), h.a.below kb (Nat.le_refl _), h.n.below kb (Nat.le_refl _), h.x.below kb (Nat.le_refl _), h.ka, h.kn, h.kx, h.an, h.ax, h.nx⟩
theorem Four.all {w w' : World} {base : Nat} {v5 v6 v7 v8 v' : Value} {K A N X A' : List (List UInt8)} (h : Four w base v5 v6 v7 v8 K A N X) (hr : rowV w' base 9 v' (svals A')) (hg : w.grownBy w' v6.ownBlock) (hv : v'.ownBlock = v6.ownBlock ∨ v'.ownBlock = some w.heap.size) : Four w' base v5 v' v7 v8 K A' N X :=
  ⟨h.k.other hg h.ka, hr, h.n.other hg h.an.symm, h.x.other hg h.ax.symm, h.ka.turn h.k hv, h.kn, h.kx, (h.an.symm.turn h.n hv).symm, (h.ax.symm.turn h.x hv).symm, h.nx⟩
theorem Four.last {w w' : World} {base : Nat} {v5 v6 v7 v8 v' : Value} {K A N X X' : List (List UInt8)} (h : Four w base v5 v6 v7 v8 K A N X) (hr : rowV w' base 9 v' (svals X')) (hg : w.grownBy w' v8.ownBlock) (hv : v'.ownBlock = v8.ownBlock ∨ v'.ownBlock = some w.heap.size) : Four w' base v5 v6 v7 v' K A N X' :=
  ⟨h.k.other hg h.kx, h.a.other hg h.ax, h.n.other hg h.nx, hr, h.ka, h.kn, h.kx.turn h.k hv, h.an, h.ax.turn h.a hv, h.nx.turn h.n hv⟩
theorem Four.names {w w' : World} {base : Nat} {v5 v6 v7 v8 v' : Value} {K A N X N' : List (List UInt8)} (h : Four w base v5 v6 v7 v8 K A N X) (hr : rowV w' base 9 v' (svals N')) (hg : w.grownBy w' v7.ownBlock) (hv : v'.ownBlock = v7.ownBlock ∨ v'.ownBlock = some w.heap.size) : Four w' base v5 v6 v' v8 K A N' X :=
  ⟨h.k.other hg h.kn, h.a.other hg h.an, hr, h.x.other hg h.nx.symm, h.ka, h.kn.turn h.k hv, h.kx, h.an.turn h.a hv, h.ax, (h.nx.symm.turn h.x hv).symm⟩
theorem Four.kept {w w' : World} {base : Nat} {v5 v6 v7 v8 v' : Value} {K A N X K' : List (List UInt8)} (h : Four w base v5 v6 v7 v8 K A N X) (hr : rowV w' base 9 v' (svals K')) (hg : w.grownBy w' v5.ownBlock) (hv : v'.ownBlock = v5.ownBlock ∨ v'.ownBlock = some w.heap.size) : Four w' base v' v6 v7 v8 K' A N X :=
  ⟨hr, h.a.other hg h.ka.symm, h.n.other hg h.kn.symm, h.x.other hg h.kx.symm, (h.ka.symm.turn h.a hv).symm, (h.kn.symm.turn h.n hv).symm, (h.kx.symm.turn h.x hv).symm, h.an, h.ax, h.nx⟩
/-- Rows of texts under a store's step, and a store under a row that grows. -/
theorem ShAt.keeps_strs {w w' : World} {B k : Nat} {m m' : Option Nat} {s : Sh} (h : ShAt w B k m s) (hs : Step k m w m' w') {base : Nat} {v : Value} {xs : List Value} (hv : rowV w base 9 v xs) : rowV w' base 9 v xs := by
  refine ⟨hv.1, ?_⟩
  rcases hv.2 with h0 | ⟨g, cap, cur, e, hb, hh, hr⟩
  · exact .inl h0
  · refine .inr ⟨g, cap, cur, e, hb, ?_, hr⟩
    rw [hs.block g (Array.getElem?_eq_some_iff.1 hh).1 ?_ ?_]
    · exact hh
    · intro e
      have hi := h.is
      unfold blockIs at hi
      rw [← e, hh] at hi
      cases hi
    · intro e
      obtain ⟨-, es, clock, hm, -⟩ := h.map g e
      rw [hh] at hm
      cases hm
theorem Four.step {w w' : World} {base B k : Nat} {m m' : Option Nat} {s : Sh} {v5 v6 v7 v8 : Value} {K A N X : List (List UInt8)} (h : Four w base v5 v6 v7 v8 K A N X) (hS : ShAt w B k m s) (hs : Step k m w m' w') : Four w' base v5 v6 v7 v8 K A N X :=
  ⟨hS.keeps_strs hs h.k, hS.keeps_strs hs h.a, hS.keeps_strs hs h.n, hS.keeps_strs hs h.x, h.ka, h.kn, h.kx, h.an, h.ax, h.nx⟩
theorem ShAt.grown_str {w w' : World} {B k : Nat} {m : Option Nat} {s : Sh} (h : ShAt w B k m s) {base : Nat} {v : Value} {xs : List Value} (hv : rowV w base 9 v xs) (hg : w.grownBy w' v.ownBlock) : ShAt w' B k m s := by
  have hne : ∀ b, b < w.heap.size → (∀ cs f, w.heap[b]? ≠ some (.cells cs 9 f)) → w'.heap[b]? = w.heap[b]? := fun b hb hc => hg.block b hb fun e => by
    rcases hv.2 with ⟨rfl, h0⟩ | ⟨g', cap, cur, rfl, hba, hh, -⟩
    · cases e
    · cases e
      exact hc _ _ hh
  have hk : w'.heap[k]? = w.heap[k]? := hne k h.is.lt fun cs f e => by
    have hi := h.is
    unfold blockIs at hi
    rw [e] at hi
    cases hi
  refine ⟨h.lo, ?_, h.nil, fun g e => ?_⟩
  · have hi := h.is
    unfold blockIs at hi ⊢
    rw [hk]
    exact hi
  · obtain ⟨h1, h2⟩ := h.map g e
    refine ⟨h1, h2.of_block (hne g h2.lt fun cs f e2 => ?_)⟩
    obtain ⟨es, clock, hm, -⟩ := h2
    rw [e2] at hm
    cases hm
theorem run_storeVar_one {P : Program} (w : World) (g j : Nat) (ty : TypeId) (cur : List Value) (v : Value) (t : TypeId) (hg : blockIs w g cur t) (hi : (P.info? ty).map (·.size) = some 1) (hj : j < cur.length) (hc : v.cells = #[v]) (h1 : v.oneCell' = true) :
    (storeVar ty ⟨g, j, none⟩ v).run P w = .ok () (w.setRow g (cur.set j v).toArray) := by
  have := run_storeCells_at P g j t [v] 0 cur.toArray w hg (by simp; omega) (by simpa using h1)
  have e : cur.set j v = cur.take j ++ v :: cur.drop (j + 1) := by rw [List.set_eq_take_append_cons_drop, if_pos hj]
  cases hq : P.info? ty with
  | none => simp [hq] at hi
  | some i =>
    have hs : i.size = 1 := by simpa [hq] using hi
    simp only [Nat.add_zero, List.length_cons, List.length_nil, Nat.zero_add, List.append_assoc, List.singleton_append] at this
    simp [storeVar, sizeOf, typeInfo, hq, hc, hs, this, e]
/-- A text is stored into a row of one's own. -/
theorem store_str {w : World} {ops : Array Oper} {rest : List Oper} {o : Oper} {a : Act} {Q : Exit → Act → World → Prop} (hgd : o.guard = none) (x y : Operand) (ho : o.op = .store 9 x y)
    (base g j n c : Nat) (u : List UInt8) (l : List (List UInt8)) (hx : a.eval x = .pointer (some ⟨g, j, none⟩)) (hy : a.eval y = .string (str u)) (hown : rowV w base 9 (.slice (some ⟨g, 0, none⟩) n c) (svals l)) (hj : j < l.length)
    (h : ∀ w', Hid (rowV w' base 9 (.slice (some ⟨g, 0, none⟩) n c) (svals (l.set j u))) → Hid (w.grownBy w' (some g)) → wpList Try.prog ops Q rest (a.put o.dst undef) w') : wpList Try.prog ops Q (o :: rest) a w := by
  obtain ⟨h0, h1⟩ := hown
  rcases h1 with ⟨hn, -⟩ | ⟨g', cap', cur, he, hb, hh, hn, hc, hs, ht⟩
  · cases hn
  · cases he
    rw [svals_length] at hn
    have hsz : j < cur.toList.length := by simp; omega
    have hr := run_storeVar_one (P := Try.prog) w g j 9 cur.toList (.string (str u)) 9 (show w.heap[g]? = some (.cells cur.toList.toArray 9 (0, 0)) by simpa using hh) (by kernel_rfl) hsz rfl rfl
    refine wpList_plain hgd fun K hK => ?_
    unfold Oper.wp execOp
    simp only [ho, hx, hy, Instr.storeAt, Instr.sureAddr, Sem.run_bind, Sem.run_pure, Result.andThen_ok, hr]
    refine hK _ _ (h _ (Lib.hid ?_) (Lib.hid ⟨rfl, rfl, rfl, by simp [World.setRow], fun k _ hk => setRow_other w g k _ (fun e => hk (by rw [e]))⟩))
    have hsv : (svals l).set j (.string (str u)) = svals (l.set j u) := by simp [svals, List.map_set]
    refine ⟨by simp, Or.inr ⟨g, c, (cur.toList.set j (.string (str u))).toArray, by simp [svals_length], hb, setRow_heap w g cur _ 9 (0, 0) hh, by rw [svals_length, List.length_set]; exact hn, hc, by simpa using hs, ?_⟩⟩
    rw [← hsv, ← ht]
    simp [svals_length, List.take_set]
    rw [Nat.min_eq_left (by omega)]
def cW (X : World) (y : List UInt8) : World := Lib.bytesWorld X 5 (str y)
def cC (X : World) (y : List UInt8) : Nat := grownCap X (str y).size 0 5
theorem run_cW (X : World) (y : List UInt8) : (convert 9 34 (.string (str y))).run Try.prog X = .ok (.slice (some ⟨X.heap.size, 0, none⟩) y.length (cC X y)) (cW X y) := by
  have r := Lib.run_convert_string_bytes (P := Try.prog) X 9 34 5 (str y) Try.underlying9 Try.underlying34 Try.underlying5
  rw [r]
  unfold cC cW
  rw [str_size]
theorem cW_below (X : World) (y : List UInt8) : Below X.heap.size X (cW X y) :=
  ⟨by simp [cW, Lib.bytesWorld, World.freeze, World.alloc, World.drew, -World.alloc_eq, -World.drew_eq], by simp [cW, Lib.bytesWorld, World.freeze, World.alloc, World.drew, -World.alloc_eq, -World.drew_eq], by simp [cW, Lib.bytesWorld, World.freeze, World.alloc, World.drew, -World.alloc_eq, -World.drew_eq],
    by unfold cW; rw [Lib.bytesWorld_size]; omega, fun k hk => Lib.bytesWorld_at_old X _ _ k hk⟩
theorem cW_size (X : World) (y : List UInt8) : (cW X y).heap.size = X.heap.size + 1 := Lib.bytesWorld_size _ _ _
theorem cW_cell (X : World) (y : List UInt8) (p : Addr) (h : p.block < X.heap.size) : (cW X y).cell? p = X.cell? p := (cW_below X y).cell h
theorem cW_in (X : World) (y : List UInt8) : bytesIn (cW X y) (some ⟨X.heap.size, 0, none⟩) y := by
  refine Or.inr ⟨_, _, rfl, fun j hj => ?_⟩
  unfold cW
  rw [Nat.zero_add, Lib.bytesWorld_cell _ _ _ _ (by rw [str_size]; exact hj)]
  simp [str, V]
theorem conv_len (X : World) (y : List UInt8) : y.length ≤ cC X y ∨ True := .inr True.intro
/-- One part, converted. -/
theorem parts_one {W : World} {B k g h c : Nat} {m : Option Nat} {s : Sh} {y : List UInt8} (H : ShAt W B k m s) (hy : bytesIn W (some ⟨g, 0, none⟩) y) (hv : valsIn W (some ⟨h, 0, none⟩) [.slice (some ⟨g, 0, none⟩) y.length c]) (hg : g ≠ k) (hh : h ≠ k) :
    ∀ m' w', Step k m W m' w' → partsIn w' (some ⟨h, 0, none⟩) [(some ⟨g, 0, none⟩, c, y)] := fun m' w' hs => by
  refine ⟨H.keeps_vals hs hv (fun p hp => by cases hp; exact hh), fun p hp => ?_⟩
  simp only [List.mem_cons, List.not_mem_nil, or_false] at hp
  subst hp
  refine ⟨?_, fun h => by cases h⟩
  rcases hy with h0 | ⟨b, o, ha, hc⟩
  · exact Or.inl h0
  · refine Or.inr ⟨b, o, ha, fun j hj => H.keeps_cell hs (hc j hj) ?_⟩
    cases ha
    exact hg
/-- What the loop over the texts keeps. -/
def KpAt (b0 k : Nat) (v5 v6 v7 v8 : Value) (i : Nat) (X : World) : Prop := ∃ m L A Xn K N t left off, KpOk L A Xn K N i ∧ t ≤ 3 * i ∧ left ≤ 60 ∧ ShAt X b0 k m (sK L t off left) ∧ Four X b0 v5 v6 v7 v8 K A N Xn
theorem cat_str (x : UInt8) (l : List UInt8) : (⟨#[x]⟩ : ByteArray) ++ str l = str (x :: l) := by
  apply ByteArray.ext
  simp [str]
theorem armed_K (left : Nat) : armedSh (newSh 1048576) (left : Int) = sK [] 0 false left := by
  unfold armedSh newSh sK
  simp
theorem str_cell (w : World) (y : List UInt8) : (w.alloc (.cells #[.string (str y)] 9 (0, 0))).cell? ⟨w.heap.size, 0, none⟩ = some (.string (str y)) := (blockIs.new w [.string (str y)] 9).cell 0
theorem set_last (X : List (List UInt8)) (u v : List UInt8) : (X ++ [u]).set X.length v = X ++ [v] := by simp
theorem not_key {L : List Ent} {A X K N : List (List UInt8)} {i : Nat} (h : KpOk L A X K N i) (hi : i < 20) (y z : List UInt8) : rn i ∉ (put (L ++ [(pn i, (y, false))]) (pn i) (z, true)).map Prod.fst := by
  intro hm
  rcases put_keys _ _ _ _ hm with e | e
  · exact pn_rn i i e.symm
  · rw [List.map_append] at e
    rcases List.mem_append.1 e with e | e
    · exact (h.new hi).2 e
    · have e : rn i = pn i := by simpa using e
      exact pn_rn i i e.symm
theorem row_some {w : World} {base : Nat} {e : TypeId} {v : Value} {xs : List Value} (h : rowV w base e v xs) (h0 : xs.length ≠ 0) : ∃ g c, v = .slice (some ⟨g, 0, none⟩) xs.length c := by
  rcases h.2 with ⟨rfl, hn⟩ | ⟨g, cap, cur, rfl, -⟩
  · exact absurd hn h0
  · exact ⟨g, cap, rfl⟩
theorem wrap_few (n : Nat) (h : n ≤ 100000) : wrap64 (n : Int) = (n : Int) := by unfold wrap64; omega
theorem wrap_pred (n m : Nat) (h : m ≤ 100000) (e : n = m + 1) : wrap64 ((n : Int) - 1) = (m : Int) := by unfold wrap64; omega
theorem last_facts (n m : Nat) (h : m ≤ 100000) (e : n = m + 1) : wrap64 ((n : Int) - 1) = (m : Int) ∧ wrap64 (m : Int) = (m : Int) ∧ (n : Int) - 1 = (m : Int) ∧ (m : Int) < (n : Int) ∧ (0 : Int) ≤ (m : Int) :=
  ⟨wrap_pred n m h e, wrap_few m h, by omega, by omega, by omega⟩
theorem small_of : ∀ {L : List Ent} {M : Nat}, sizeSum L ≤ M → Small L M
  | [], _, _ => fun p hp => by cases hp
  | q :: r, M, h => fun p hp => by
    have h : q.2.1.length + sizeSum r ≤ M := by rw [← sizeSum_cons]; exact h
    rcases List.mem_cons.1 hp with e | e
    · rw [e]; omega
    · exact small_of (L := r) (M := M) (by omega) p e
end Go.Proofs.Ythefledeoiegjaa
