/- Decode, in plain words; rows of nodes that lie apart. -/
import Derived.Test.YtjgmhaajcglpmaaNra
import Derived.Test.YtjgmhaajcglpmaaNso
namespace Go.Proofs.Ytjgmhaajcglpmaa
open Go.RowKit

theorem rows_det : ∀ (S S' : List Nd), (∀ n ∈ S, n.Shape) → (∀ n ∈ S', n.Shape) → S.length ≤ S'.length → ∀ X Y, S.flatMap ndBytes ++ X = S'.flatMap ndBytes ++ Y → S = S'.take S.length ∧ X = (S'.drop S.length).flatMap ndBytes ++ Y
  | [], S', _, _, _, X, Y, h => ⟨rfl, h⟩
  | _ :: _, [], _, _, h, _, _, _ => by simp at h
  | n :: S, m :: S', h1, h2, h3, X, Y, h => by
    rw [List.flatMap_cons, List.flatMap_cons, List.append_assoc, List.append_assoc] at h
    obtain ⟨rfl, e⟩ := NdIs.det n m _ _ ⟨h1 n (by simp), rfl⟩ ⟨h2 m (by simp), h⟩
    obtain ⟨e1, e2⟩ := rows_det S S' (fun x hx => h1 x (by simp [hx])) (fun x hx => h2 x (by simp [hx])) (by simpa using h3) X Y e
    exact ⟨by rw [List.length_cons, List.take_succ_cons, ← e1], by rw [List.length_cons, List.drop_succ_cons]; exact e2⟩
/-- What these bytes are of. -/
def DecIs (L : List UInt8) (S : List Nd) : Prop := checkL S = 0 ∧ (∀ n ∈ S, n.Wf) ∧ L = encBytes S
theorem DecIs.shape {L : List UInt8} {S : List Nd} (h : DecIs L S) : S.length ≤ 2000 ∧ ∀ n ∈ S, n.Shape := by
  obtain ⟨h1, h2, -⟩ := checkL_zero h.1
  exact ⟨h1, fun n hn => shape_of_check (h2 n hn) (h.2.1 n hn)⟩
theorem DecIs.det {L : List UInt8} {S S' : List Nd} (h : DecIs L S) (g : DecIs L S') : S = S' := by
  have e := h.2.2.symm.trans g.2.2
  unfold encBytes at e
  rw [List.append_assoc, List.append_assoc] at e
  obtain ⟨e1, e2⟩ := num_prefix _ _ _ _ (List.append_cancel_left e)
  have e2 : S.flatMap ndBytes ++ [] = S'.flatMap ndBytes ++ [] := by rw [e2]
  obtain ⟨e3, -⟩ := rows_det S S' h.shape.2 g.shape.2 (Nat.le_of_eq e1) [] [] e2
  rw [e3, e1, List.take_length]
section
variable {L F L1 : List UInt8} {e0 e1 c : Int}
def OpenIs (x : UInt8) (L F : List UInt8) (e0 : Int) : Prop := (e0 = 0 ∧ L = [72, 89, x] ++ F) ∨ (e0 ≠ 0 ∧ ∀ F', L ≠ [72, 89, x] ++ F')
theorem dec_head (ho : OpenIs 110 L F e0) (hn : Rd (NumIs 2000) 0 F e0 c L1 e1) {S : List Nd} (h : DecIs L S) : e1 = 0 ∧ c = S.length ∧ L1 = S.flatMap ndBytes := by
  have h2 := h.shape.1
  have e := h.2.2
  unfold encBytes at e
  rw [List.append_assoc] at e
  rcases ho with ⟨h0, h1⟩ | ⟨-, h1⟩
  · have e3 : F = numBytes S.length ++ S.flatMap ndBytes := List.append_cancel_left (h1.symm.trans e)
    exact hn.step h0 ⟨by omega, by omega, by omega, by rw [Int.toNat_natCast]; exact e3⟩ NumIs.det
  · exact absurd e (h1 _)
theorem dec_no (ho : OpenIs 110 L F e0) (hn : Rd (NumIs 2000) 0 F e0 c L1 e1) (h1 : e1 ≠ 0) : ∀ S, ¬ DecIs L S := fun _ h => h1 (dec_head ho hn h).1
theorem dec_no_read (ho : OpenIs 110 L F e0) (hn : Rd (NumIs 2000) 0 F e0 c L1 e1) {S : List Nd} {Lj : List UInt8} (hs : ∀ n ∈ S, n.Shape) (hL : L1 = S.flatMap ndBytes ++ Lj) (hc : (S.length : Int) < c) (hf : ∀ m R, ¬ NdIs Lj m R) : ∀ S, ¬ DecIs L S := fun S' h => by
  obtain ⟨-, h2, h3⟩ := dec_head ho hn h
  have hlt : S.length < S'.length := by omega
  obtain ⟨-, e⟩ := rows_det S S' hs h.shape.2 (by omega) Lj [] (by rw [← hL, h3, List.append_nil])
  rw [List.drop_eq_getElem_cons hlt, List.flatMap_cons, List.append_nil] at e
  exact hf _ _ ⟨h.shape.2 _ (List.getElem_mem hlt), e⟩
theorem dec_no_end (ho : OpenIs 110 L F e0) (hn : Rd (NumIs 2000) 0 F e0 c L1 e1) {S : List Nd} {Lj : List UInt8} (hs : ∀ n ∈ S, n.Shape) (hL : L1 = S.flatMap ndBytes ++ Lj) (hc : (S.length : Int) = c) (hf : Lj ≠ []) : ∀ S, ¬ DecIs L S := fun S' h => by
  obtain ⟨-, h2, h3⟩ := dec_head ho hn h
  have hle : S.length = S'.length := by omega
  obtain ⟨-, e⟩ := rows_det S S' hs h.shape.2 (by omega) Lj [] (by rw [← hL, h3, List.append_nil])
  rw [hle, List.drop_length] at e
  exact hf e
theorem dec_no_check (ho : OpenIs 110 L F e0) (hn : Rd (NumIs 2000) 0 F e0 c L1 e1) {S : List Nd} (hs : ∀ n ∈ S, n.Shape) (hL : L1 = S.flatMap ndBytes ++ []) (hc : (S.length : Int) = c) (hf : checkL S ≠ 0) : ∀ S, ¬ DecIs L S := fun S' h => by
  obtain ⟨-, h2, h3⟩ := dec_head ho hn h
  have hle : S.length = S'.length := by omega
  obtain ⟨e, -⟩ := rows_det S S' hs h.shape.2 (by omega) [] [] (by rw [← hL, h3, List.append_nil])
  rw [hle, List.take_length] at e
  rw [e] at hf
  exact hf h.1
theorem dec_yes (ho : OpenIs 110 L F e0) (hn : Rd (NumIs 2000) 0 F e0 c L1 e1) (h1 : e1 = 0) {S : List Nd} (hw : ∀ n ∈ S, n.Wf) (hL : L1 = S.flatMap ndBytes ++ []) (hc : (S.length : Int) = c) (hf : checkL S = 0) : DecIs L S := by
  refine ⟨hf, hw, ?_⟩
  obtain ⟨h0, -, -, -, h2⟩ := hn.fine h1
  rcases ho with ⟨-, h3⟩ | ⟨h3, -⟩
  · unfold encBytes
    rw [h3, h2, hL, show c.toNat = S.length by omega, List.append_nil, List.append_assoc]
  · exact absurd h0 h3
end
/-- Rows of nodes of one's own, the lists of names apart from one another. -/
def ownA (w : World) (B : Nat) (v : Value) (Q : List (Nd × Value)) : Prop := w.ownsRow B 33 39 v Q.length (qcells Q) ∧ (∀ q ∈ Q, q.1.Wf ∧ w.ownsRow B 24 32 q.2 q.1.parts.length (idcells q.1.parts)) ∧
  Q.Pairwise fun p q => p.2.ownBlock = none ∨ p.2.ownBlock ≠ q.2.ownBlock
theorem row_below {w w' : World} {base n s : Nat} {v : Value} {cs : List Value} {t : TypeId} (h : w.ownsRow base t s v n cs) (hb : Below w.heap.size w w') : w'.ownsRow base t s v n cs := by
  have hg : w.grownBy w' none := ⟨hb.os, hb.tape, hb.output, hb.size, fun k hk _ => hb.block k hk⟩
  refine World.ownsRow.kept h hg ?_
  cases hv : v.ownBlock with
  | none => exact Or.inl rfl
  | some g => exact Or.inr (fun e => by cases e)
theorem ownA.nil (w : World) (B : Nat) : ownA w B (.slice none 0 0) [] := ⟨World.ownsRow_nil _ _ _ _, (fun q hq => absurd hq List.not_mem_nil), .nil⟩
theorem ownA.below {w w' : World} {B : Nat} {v : Value} {Q : List (Nd × Value)} (h : ownA w B v Q) (hb : Below w.heap.size w w') : ownA w' B v Q := ⟨row_below h.1 hb, fun q hq => ⟨(h.2.1 q hq).1, row_below (h.2.1 q hq).2 hb⟩, h.2.2⟩
theorem ownA.but {w w' : World} {B k : Nat} {v : Value} {Q : List (Nd × Value)} (h : ownA w B v Q) (hb : But k w w') (hk : k < B) : ownA w' B v Q := ⟨own_but h.1 hb hk, fun q hq => ⟨(h.2.1 q hq).1, own_but (h.2.1 q hq).2 hb hk⟩, h.2.2⟩
theorem ownA.R {w : World} {B : Nat} {v : Value} {Q : List (Nd × Value)} (h : ownA w B v Q) : ownR w B B 33 v Q := ⟨h.1, fun q hq => by
  obtain ⟨h1, h2⟩ := h.2.1 q hq
  obtain ⟨g1, g2, -⟩ := own_ids h2 h1.part B
  exact ⟨h1, g1, g2⟩⟩
theorem own_apart {w : World} {B B' n m s s' : Nat} {t t' : TypeId} {u v : Value} {xs ys : List Value} (h : w.ownsRow B t s u n xs) (g : w.ownsRow B' t' s' v m ys) (ht : t ≠ t') : v.ownBlock = none ∨ v.ownBlock ≠ u.ownBlock := by
  rcases g.2 with ⟨rfl, -⟩ | ⟨b, cap, cur, rfl, -, hb, -⟩
  · exact Or.inl rfl
  · refine Or.inr fun e => ?_
    rcases h.2 with ⟨rfl, -⟩ | ⟨b', cap', cur', rfl, -, hb', -⟩
    · cases e
    · cases e
      rw [hb] at hb'
      cases hb'
      exact ht rfl
section
variable {w : World} {ops : Array Oper} {rest : List Oper} {o : Oper} {a : Act} {Q' : Exit → Act → World → Prop}
/-- A node goes to the others. -/
theorem append_A (hw : Region.wanted o (yielded ops a.tmps) = true) (s x : Operand) (ho : o.op = .call { callee := .builtin .append, args := #[s, x], argTypes := #[27, 27] })
    (B : Nat) (v : Value) (Q : List (Nd × Value)) (hs : a.eval s = v) (hown : ownA w B v Q) (g : Nat) (n : Nd) (pv : Value) (hx : a.eval x = .slice (some ⟨g, 0, none⟩) 1 1) (hb : blockIs w g (n.cells pv) 33) (hwf : n.Wf)
    (hrow : w.ownsRow B 24 32 pv n.parts.length (idcells n.parts)) (hap : ∀ q ∈ Q, q.2.ownBlock = none ∨ q.2.ownBlock ≠ pv.ownBlock) (hn : Q.length ≤ 100000) (hbase : B ≤ w.heap.size)
    (h : ∀ v' w', Hid (ownA w' B v' (Q ++ [(n, pv)])) → Hid (Below B w w') → Hid (w.grownBy w' v.ownBlock) → wpList Try.prog ops Q' rest (a.put o.dst v') w') : wpList Try.prog ops Q' (o :: rest) a w := by
  obtain ⟨i1, i2, -⟩ := own_ids hrow hwf.part B
  refine wpList_step fun K hK => step_append_rows hw 33 27 ntN s x ho B B (Nat.le_refl _) v Q hs hown.R (some ⟨g, 0, none⟩) 1 1 [(n, pv)] rfl hx (Nat.le_refl _) (fun h => by cases h)
    ⟨fun q hq => by rw [List.mem_singleton.1 hq]; exact ⟨hwf, i1, i2⟩, .inr ⟨g, 0, rfl, by rw [show qcells [(n, pv)] = n.cells pv by simp [qcells]]; exact block_range hb⟩⟩ (by simp; omega) hbase (fun v' w' h1 h2 h3 => hK _ _ (h v' w' (Lib.hid ?_) h3 h2))
  refine ⟨h1.out.1, fun q hq => ?_, ?_⟩
  · rcases List.mem_append.1 hq with hq | hq
    · exact ⟨(hown.2.1 q hq).1, (hown.2.1 q hq).2.kept h2.out (own_apart hown.1 (hown.2.1 q hq).2 (by decide))⟩
    · rw [List.mem_singleton.1 hq]
      exact ⟨hwf, hrow.kept h2.out (own_apart hown.1 hrow (by decide))⟩
  · rw [List.pairwise_append]
    refine ⟨hown.2.2, List.pairwise_singleton _ _, fun p hp q hq => ?_⟩
    rw [List.mem_singleton.1 hq]
    exact hap p hp
end
end Go.Proofs.Ytjgmhaajcglpmaa
