/- Nodes read back, in plain words. -/
import Derived.Test.YtjgmhaajcglpmaaNrd
namespace Go.Proofs.Ytjgmhaajcglpmaa
open Go.RowKit

/-- Two numbers' bytes at the beginning of one row are the same. -/
theorem num_prefix (m n : Nat) (P Q : List UInt8) (h : numBytes m ++ P = numBytes n ++ Q) : m = n ∧ P = Q := by
  obtain ⟨D, z, h1, h2, h3, -⟩ := numBytes_form m
  obtain ⟨E, y, g1, g2, g3, -⟩ := numBytes_form n
  rw [h1, g1] at h
  have key : ∀ (D E : List UInt8), (∀ x ∈ D, 128 ≤ x.toNat) → (∀ x ∈ E, 128 ≤ x.toNat) → (D ++ [z]) ++ P = (E ++ [y]) ++ Q → D ++ [z] = E ++ [y] ∧ P = Q := by
    intro D
    induction D with
    | nil =>
      intro E _ hE h
      cases E with
      | nil =>
        simp at h
        exact ⟨by rw [h.1], h.2⟩
      | cons x E =>
        simp at h
        have := hE x (by simp)
        rw [← h.1] at this
        omega
    | cons d D ih =>
      intro E hD hE h
      cases E with
      | nil =>
        simp at h
        have := hD d (by simp)
        rw [h.1] at this
        omega
      | cons x E =>
        simp only [List.cons_append, List.cons.injEq] at h
        obtain ⟨h5, h6⟩ := ih E (fun x hx => hD x (by simp [hx])) (fun x hx => hE x (by simp [hx])) h.2
        exact ⟨by rw [List.cons_append, List.cons_append, h.1, h5], h6⟩
  obtain ⟨h5, h6⟩ := key D E h2 g2 h
  exact ⟨numBytes_inj m n (by rw [h1, g1, h5]), h6⟩

/-- A reader gave a, and has L1 left; or there is nothing of the kind. -/
def Rd {α : Type} (Is : List UInt8 → α → List UInt8 → Prop) (z : α) (L : List UInt8) (e : Int) (a : α) (L1 : List UInt8) (e1 : Int) : Prop :=
  (e1 = 0 ∧ e = 0 ∧ Is L a L1) ∨ (e1 ≠ 0 ∧ a = z ∧ (e = 0 → ∀ x R, ¬ Is L x R))
theorem Rd.step {α : Type} {Is : List UInt8 → α → List UInt8 → Prop} {z : α} {L : List UInt8} {e : Int} {a : α} {L1 : List UInt8} {e1 : Int} (h : Rd Is z L e a L1 e1) (he : e = 0) {x : α} {R : List UInt8} (hx : Is L x R)
    (hd : ∀ a b R R', Is L a R → Is L b R' → a = b ∧ R = R') : e1 = 0 ∧ a = x ∧ L1 = R := by
  rcases h with ⟨h1, -, h3⟩ | ⟨-, -, h3⟩
  · obtain ⟨g1, g2⟩ := hd _ _ _ _ h3 hx
    exact ⟨h1, g1, g2⟩
  · exact absurd hx (h3 he x R)
theorem Rd.fine {α : Type} {Is : List UInt8 → α → List UInt8 → Prop} {z : α} {L : List UInt8} {e : Int} {a : α} {L1 : List UInt8} {e1 : Int} (h : Rd Is z L e a L1 e1) (h1 : e1 = 0) : e = 0 ∧ Is L a L1 := by
  rcases h with ⟨-, h2, h3⟩ | ⟨h2, -⟩
  · exact ⟨h2, h3⟩
  · exact absurd h1 h2
def NumIs (most : Int) (L : List UInt8) (n : Int) (R : List UInt8) : Prop := 0 ≤ n ∧ n ≤ most ∧ n < 4611686018427387904 ∧ L = numBytes n.toNat ++ R
theorem NumIs.det {most : Int} {L : List UInt8} (a b : Int) (R R' : List UInt8) (h : NumIs most L a R) (g : NumIs most L b R') : a = b ∧ R = R' := by
  obtain ⟨h0, -, -, h1⟩ := h
  obtain ⟨g0, -, -, g1⟩ := g
  obtain ⟨e1, e2⟩ := num_prefix _ _ _ _ (h1.symm.trans g1)
  exact ⟨by omega, e2⟩
theorem rd_num {L : List UInt8} {e most n : Int} {L1 : List UInt8} {e1 : Int} (h : NumTo L e most n L1 e1) : Rd (NumIs most) 0 L e n L1 e1 := by
  rcases h with ⟨he, rfl, rfl, rfl⟩ | ⟨he, hb, rfl, rfl⟩ | ⟨he, N, s, hN, hs, hnb, ⟨hm, rfl, rfl, rfl⟩ | ⟨hm, rfl, rfl, rfl⟩⟩
  · exact .inr ⟨he, rfl, fun h => absurd h he⟩
  · refine .inr ⟨bad_ne hb, rfl, fun _ x R hx => ?_⟩
    obtain ⟨-, -, h3, rfl⟩ := hx
    exact not_bad _ (by omega) R _ hb
  · refine .inr ⟨by decide, rfl, fun _ x R hx => ?_⟩
    obtain ⟨h1, h2, h3, h4⟩ := hx
    have := (num_prefix N x.toNat (L1.drop s) R (by rw [hnb, List.take_append_drop, h4])).1
    omega
  · exact .inl ⟨rfl, he, by omega, hm, by omega, by rw [Int.toNat_natCast, hnb, List.take_append_drop]⟩
def RawIs (n : Int) (L : List UInt8) (t R : List UInt8) : Prop := (t.length : Int) = n ∧ L = t ++ R
theorem RawIs.det {n : Int} {L : List UInt8} (a b R R' : List UInt8) (h : RawIs n L a R) (g : RawIs n L b R') : a = b ∧ R = R' :=
  List.append_inj (h.2.symm.trans g.2) (by have := h.1; have := g.1; omega)
theorem rd_raw (L : List UInt8) (e n : Int) : Rd (RawIs n) [] L e (tOut L e n) (tLeft L e n) (tErr L e n) := by
  unfold tOut tLeft tErr
  by_cases h : e = 0 ∧ 0 ≤ n ∧ n ≤ (L.length : Int)
  · rw [if_pos h, if_pos h]
    obtain ⟨rfl, h1, h2⟩ := h
    refine .inl ⟨by rw [if_neg (by decide), if_neg (by omega), if_neg (by omega)], rfl, by rw [List.length_take]; omega, (List.take_append_drop _ _).symm⟩
  · rw [if_neg h, if_neg h]
    refine .inr ⟨?_, rfl, fun he x R hx => ?_⟩
    · by_cases he : e = 0
      · subst he
        rw [if_neg (by decide)]
        by_cases h1 : n < 0
        · rw [if_pos h1]; decide
        · rw [if_neg h1, if_pos (by simp at h; omega)]; decide
      · rw [if_pos he]; exact he
    · obtain ⟨h1, h2⟩ := hx
      exact h ⟨he, by omega, by rw [h2, List.length_append]; omega⟩
def TextIs (most : Int) (L : List UInt8) (t R : List UInt8) : Prop := (t.length : Int) ≤ most ∧ t.length < 131073 ∧ L = numBytes t.length ++ (t ++ R)
theorem TextIs.det {most : Int} {L : List UInt8} (a b R R' : List UInt8) (h : TextIs most L a R) (g : TextIs most L b R') : a = b ∧ R = R' := by
  obtain ⟨h1, h2⟩ := num_prefix _ _ _ _ (h.2.2.symm.trans g.2.2)
  exact List.append_inj h2 h1
theorem rd_text {L : List UInt8} {e most n : Int} {L1 : List UInt8} {e1 : Int} (h : NumTo L e (min most 131072) n L1 e1) : Rd (TextIs most) [] L e (tOut L1 e1 n) (tLeft L1 e1 n) (tErr L1 e1 n) := by
  rcases rd_raw L1 e1 n with ⟨h1, h2, h3⟩ | ⟨h1, h2, h3⟩
  · subst h2
    obtain ⟨h4, h5, h6, h7, h8⟩ := (rd_num h).fine rfl
    refine .inl ⟨h1, h4, by rw [h3.1]; omega, by have := h3.1; omega, ?_⟩
    have hn : n.toNat = (tOut L1 0 n).length := by have := h3.1; omega
    exact h8.trans (by rw [← hn, ← h3.2])
  · refine .inr ⟨h1, h2, fun he x R hx => ?_⟩
    obtain ⟨g1, g2, g3⟩ := hx
    obtain ⟨k1, k2, k3⟩ := (rd_num h).step he (x := (x.length : Int)) (R := x ++ R) ⟨by omega, by omega, by omega, by rw [Int.toNat_natCast]; exact g3⟩ NumIs.det
    exact h3 k1 x R ⟨k2.symm, k3⟩
def IdsIs (c : Int) (L : List UInt8) (P : List (List UInt8)) (R : List UInt8) : Prop := (P.length : Int) = c ∧ (∀ p ∈ P, p.length = 32) ∧ L = P.flatten ++ R
theorem flat32 : ∀ (P P' : List (List UInt8)), (∀ p ∈ P, p.length = 32) → (∀ p ∈ P', p.length = 32) → P.length = P'.length → ∀ R R', P.flatten ++ R = P'.flatten ++ R' → P = P' ∧ R = R'
  | [], [], _, _, _, R, R', h => ⟨rfl, h⟩
  | [], _ :: _, _, _, h, _, _, _ => by simp at h
  | _ :: _, [], _, _, h, _, _, _ => by simp at h
  | p :: P, q :: Q, h1, h2, h3, R, R', h => by
    rw [List.flatten_cons, List.flatten_cons, List.append_assoc, List.append_assoc] at h
    obtain ⟨e1, e2⟩ := List.append_inj h (by rw [h1 p (by simp), h2 q (by simp)])
    obtain ⟨e3, e4⟩ := flat32 P Q (fun x hx => h1 x (by simp [hx])) (fun x hx => h2 x (by simp [hx])) (by simpa using h3) R R' e2
    exact ⟨by rw [e1, e3], e4⟩
theorem IdsIs.det {c : Int} {L : List UInt8} (a b : List (List UInt8)) (R R' : List UInt8) (h : IdsIs c L a R) (g : IdsIs c L b R') : a = b ∧ R = R' :=
  flat32 a b h.2.1 g.2.1 (by have := h.1; have := g.1; omega) R R' (h.2.2.symm.trans g.2.2)
theorem chunks_rec : ∀ (m : Nat) (O : List UInt8), O.length = 32 * m → (rowOf O (List.finRange m)).flatten = O
  | 0, O, h => by
    have : O = [] := List.eq_nil_of_length_eq_zero (by omega)
    rw [this]; rfl
  | m + 1, O, h => by
    have ih := chunks_rec m (O.drop 32) (by rw [List.length_drop]; omega)
    unfold rowOf at ih ⊢
    rw [List.finRange_succ, List.map_cons, List.map_map, List.flatten_cons]
    have e : (List.map ((fun x : Fin (m + 1) => (O.drop (32 * x.1)).take 32) ∘ Fin.succ) (List.finRange m)) = (List.finRange m).map fun x => ((O.drop 32).drop (32 * x.1)).take 32 := by
      refine List.map_congr_left fun x _ => ?_
      show (O.drop (32 * (x.1 + 1))).take 32 = _
      rw [List.drop_drop]
      congr 2
      omega
    rw [e, ih]
    show (O.drop (32 * 0)).take 32 ++ O.drop 32 = O
    rw [Nat.mul_zero, List.drop_zero, List.take_append_drop]
theorem chunks_flat (O : List UInt8) (m : Nat) (h : O.length = 32 * m) : (chunksOf O).flatten = O ∧ (chunksOf O).length = m ∧ ∀ p ∈ chunksOf O, p.length = 32 := by
  have hq : O.length / 32 = m := by omega
  have hch : chunksOf O = rowOf O (List.finRange m) := by unfold chunksOf rowOf; rw [hq]
  rw [hch]
  refine ⟨chunks_rec m O h, by unfold rowOf; rw [List.length_map, List.length_finRange], fun p hp => ?_⟩
  obtain ⟨y, -, rfl⟩ := List.mem_map.1 hp
  have := y.2
  rw [List.length_take, List.length_drop]
  omega
theorem rd_ids (L : List UInt8) (e c : Int) (h0 : 0 ≤ c) : Rd (IdsIs c) [] L e (chunksOf (tOut L e (c * 32))) (tLeft L e (c * 32)) (tErr L e (c * 32)) := by
  rcases rd_raw L e (c * 32) with ⟨h1, h2, h3, h4⟩ | ⟨h1, h2, h3⟩
  · obtain ⟨g1, g2, g3⟩ := chunks_flat (tOut L e (c * 32)) c.toNat (by omega)
    exact .inl ⟨h1, h2, by omega, g3, by rw [g1]; exact h4⟩
  · refine .inr ⟨h1, by rw [h2]; rfl, fun he x R hx => ?_⟩
    obtain ⟨g1, g2, g3⟩ := hx
    have hl : ∀ P : List (List UInt8), (∀ p ∈ P, p.length = 32) → P.flatten.length = 32 * P.length := fun P => by
      induction P with
      | nil => intro _; rfl
      | cons p P ih =>
        intro hp
        rw [List.flatten_cons, List.length_append, ih (fun x hx => hp x (by simp [hx])), hp p (by simp), List.length_cons]
        omega
    exact h3 he x.flatten R ⟨by rw [hl x g2]; omega, g3⟩

/-- What a node that can be read has. -/
structure Nd.Shape (n : Nd) : Prop where
  name : n.name.length ≤ 255
  kind : 0 ≤ n.kind ∧ n.kind ≤ 2
  mode : 0 ≤ n.mode ∧ n.mode ≤ 4095
  time : 0 ≤ n.time ∧ n.time ≤ 1099511627776
  file : n.kind = 0 → n.target = [] ∧ n.tree = noughts ∧ 0 ≤ n.size ∧ n.size ≤ 1048576 ∧ (n.parts.length : Int) ≤ n.size ∧ ∀ p ∈ n.parts, p.length = 32
  dir : n.kind = 1 → n.target = [] ∧ n.tree.length = 32 ∧ n.size = 0 ∧ n.parts = []
  link : n.kind = 2 → n.target.length ≤ 4095 ∧ n.tree = noughts ∧ n.size = 0 ∧ n.parts = []
def NdIs (L : List UInt8) (n : Nd) (R : List UInt8) : Prop := n.Shape ∧ L = ndBytes n ++ R
theorem shape_of_check {n : Nd} (h : n.check = 0) (hw : n.Wf) : n.Shape := by
  unfold Nd.check at h
  split at h
  · rename_i hn
    split at h
    · rename_i hk
      obtain ⟨h1, h2, h3⟩ := hk
      unfold Nd.kindOk at h3
      have hnm : n.name.length ≤ 255 := by
        unfold nameOk at hn
        simp at hn
        exact hn.2.1
      split at h3
      · rename_i k0
        simp [Nd.partsOk] at h3
        exact ⟨hnm, by omega, h1, h2, fun _ => ⟨h3.1, h3.2.1, h3.2.2.1.1, h3.2.2.1.2, h3.2.2.2.1, hw.part⟩, fun h => by omega, fun h => by omega⟩
      · rename_i k0
        split at h3
        · rename_i k1
          simp at h3
          exact ⟨hnm, by omega, h1, h2, fun h => by omega, fun _ => ⟨h3.1, hw.tree, h3.2.1, h3.2.2⟩, fun h => by omega⟩
        · rename_i k1
          split at h3
          · rename_i k2
            simp at h3
            exact ⟨hnm, by omega, h1, h2, fun h => by omega, fun h => by omega, fun _ => ⟨h3.2.1, h3.2.2.1, h3.2.2.2.1, h3.2.2.2.2⟩⟩
          · cases h3
    · cases h
  · cases h
/-- The four things that all nodes have. -/
theorem nd_head {n : Nd} (hs : n.Shape) (R : List UInt8) : ∃ L1 L2 L3 L4, TextIs 255 (ndBytes n ++ R) n.name L1 ∧ NumIs 2 L1 n.kind L2 ∧ NumIs 4095 L2 n.mode L3 ∧ NumIs 1099511627776 L3 n.time L4 ∧
    L4 = (if n.kind = 0 then (numBytes n.size.toNat ++ numBytes n.parts.length) ++ n.parts.flatten else if n.kind = 1 then n.tree else numBytes n.target.length ++ n.target) ++ R := by
  have h1 := hs.name
  have h2 := hs.kind
  have h3 := hs.mode
  have h4 := hs.time
  refine ⟨_, _, _, _, ⟨by omega, by omega, ?_⟩, ⟨h2.1, h2.2, by omega, rfl⟩, ⟨h3.1, h3.2, by omega, rfl⟩, ⟨h4.1, h4.2, by omega, rfl⟩, rfl⟩
  unfold ndBytes
  simp only [List.append_assoc]
theorem NdIs.det {L : List UInt8} (a b : Nd) (R R' : List UInt8) (h : NdIs L a R) (g : NdIs L b R') : a = b ∧ R = R' := by
  obtain ⟨hs, h⟩ := h
  obtain ⟨gs, g⟩ := g
  obtain ⟨L1, L2, L3, L4, a1, a2, a3, a4, a5⟩ := nd_head hs R
  obtain ⟨K1, K2, K3, K4, b1, b2, b3, b4, b5⟩ := nd_head gs R'
  rw [← h] at a1
  rw [← g] at b1
  obtain ⟨e1, rfl⟩ := TextIs.det _ _ _ _ a1 b1
  obtain ⟨e2, rfl⟩ := NumIs.det _ _ _ _ a2 b2
  obtain ⟨e3, rfl⟩ := NumIs.det _ _ _ _ a3 b3
  obtain ⟨e4, rfl⟩ := NumIs.det _ _ _ _ a4 b4
  have e := a5.symm.trans b5
  have f1 := hs.file; have f2 := hs.dir; have f3 := hs.link
  have g1 := gs.file; have g2 := gs.dir; have g3 := gs.link
  have hk := hs.kind
  obtain ⟨an, ak, am, at_, as_, atg, ap, atr⟩ := a
  obtain ⟨bn, bk, bm, bt, bs, btg, bp, btr⟩ := b
  dsimp only at *
  subst e1 e2 e3 e4
  by_cases k0 : ak = 0
  · obtain ⟨p1, p2, p3, p4, p5, p6⟩ := f1 k0
    obtain ⟨q1, q2, q3, q4, q5, q6⟩ := g1 k0
    rw [if_pos k0, if_pos k0] at e
    simp only [List.append_assoc] at e
    obtain ⟨r1, z1⟩ := num_prefix _ _ _ _ e
    obtain ⟨r2, z2⟩ := num_prefix _ _ _ _ z1
    obtain ⟨r3, z3⟩ := flat32 _ _ p6 q6 r2 _ _ z2
    have : as_ = bs := by omega
    subst p1 p2 q1 q2 r3 this
    exact ⟨rfl, z3⟩
  · rw [if_neg k0, if_neg k0] at e
    by_cases k1 : ak = 1
    · obtain ⟨p1, p2, p3, p4⟩ := f2 k1
      obtain ⟨q1, q2, q3, q4⟩ := g2 k1
      rw [if_pos k1, if_pos k1] at e
      obtain ⟨r1, z1⟩ := List.append_inj e (by rw [p2, q2])
      subst p1 p3 p4 q1 q3 q4 r1
      exact ⟨rfl, z1⟩
    · obtain ⟨p1, p2, p3, p4⟩ := f3 (by omega)
      obtain ⟨q1, q2, q3, q4⟩ := g3 (by omega)
      rw [if_neg k1, if_neg k1] at e
      simp only [List.append_assoc] at e
      obtain ⟨r1, z1⟩ := num_prefix _ _ _ _ e
      obtain ⟨r2, z2⟩ := List.append_inj z1 r1
      subst p2 p3 p4 q2 q3 q4 r2
      exact ⟨rfl, z2⟩
/-- What a read that came to an end tells of a node. -/
def NdRd (L : List UInt8) (n : Nd) (L1 : List UInt8) (e1 : Int) : Prop := (e1 = 0 ∧ NdIs L n L1) ∨ (e1 ≠ 0 ∧ ∀ m R, ¬ NdIs L m R)
section
variable {L L1 L2 L3 L4 : List UInt8} {e1 e2 e3 e4 : Int} {t : List UInt8} {k m i : Int}
/-- The head of a node was read. -/
structure HdRd (L : List UInt8) (t : List UInt8) (k m i : Int) (L4 : List UInt8) (e4 : Int) : Prop where
  fine : e4 = 0 → t.length ≤ 255 ∧ (0 ≤ k ∧ k ≤ 2) ∧ (0 ≤ m ∧ m ≤ 4095) ∧ (0 ≤ i ∧ i ≤ 1099511627776) ∧ L = (numBytes t.length ++ t) ++ ((numBytes k.toNat ++ (numBytes m.toNat ++ numBytes i.toNat)) ++ L4)
  step : ∀ n R, NdIs L n R → e4 = 0 ∧ t = n.name ∧ k = n.kind ∧ m = n.mode ∧ i = n.time ∧ L4 = (if n.kind = 0 then (numBytes n.size.toNat ++ numBytes n.parts.length) ++ n.parts.flatten else if n.kind = 1 then n.tree else numBytes n.target.length ++ n.target) ++ R
theorem hd_rd (h1 : Rd (TextIs 255) [] L 0 t L1 e1) (h2 : Rd (NumIs 2) 0 L1 e1 k L2 e2) (h3 : Rd (NumIs 4095) 0 L2 e2 m L3 e3) (h4 : Rd (NumIs 1099511627776) 0 L3 e3 i L4 e4) : HdRd L t k m i L4 e4 := by
  refine ⟨fun h => ?_, fun n R hn => ?_⟩
  · obtain ⟨g4, i1, i2, i3, i4⟩ := h4.fine h
    obtain ⟨g3, m1, m2, m3, m4⟩ := h3.fine g4
    obtain ⟨g2, k1, k2, k3, k4⟩ := h2.fine g3
    obtain ⟨-, t1, t2, t3⟩ := h1.fine g2
    refine ⟨by omega, ⟨k1, k2⟩, ⟨m1, m2⟩, ⟨i1, i2⟩, ?_⟩
    rw [t3, k4, m4, i4]
    simp only [List.append_assoc]
  · obtain ⟨hs, rfl⟩ := hn
    obtain ⟨A1, A2, A3, A4, a1, a2, a3, a4, a5⟩ := nd_head hs R
    obtain ⟨g1, rfl, rfl⟩ := h1.step rfl a1 TextIs.det
    obtain ⟨g2, rfl, rfl⟩ := h2.step g1 a2 NumIs.det
    obtain ⟨g3, rfl, rfl⟩ := h3.step g2 a3 NumIs.det
    obtain ⟨g4, rfl, rfl⟩ := h4.step g3 a4 NumIs.det
    exact ⟨g4, rfl, rfl, rfl, rfl, a5⟩
theorem rd_file (h : HdRd L t k m i L4 e4) (hk : k = 0) {L5 L6 L7 : List UInt8} {e5 e6 e7 : Int} {sz c : Int} {P : List (List UInt8)} (h5 : Rd (NumIs 1048576) 0 L4 e4 sz L5 e5) (h6 : Rd (NumIs sz) 0 L5 e5 c L6 e6) (h7 : Rd (IdsIs c) [] L6 e6 P L7 e7) :
    NdRd L ⟨t, k, m, i, sz, [], P, noughts⟩ L7 e7 := by
  by_cases h0 : e7 = 0
  · refine .inl ⟨h0, ?_⟩
    obtain ⟨g7, p1, p2, p3⟩ := h7.fine h0
    obtain ⟨g6, c1, c2, c3, c4⟩ := h6.fine g7
    obtain ⟨g5, s1, s2, s3, s4⟩ := h5.fine g6
    obtain ⟨f1, f2, f3, f4, f5⟩ := h.fine g5
    refine ⟨⟨f1, f2, f3, f4, fun _ => ⟨rfl, rfl, s1, s2, ?_, p2⟩, fun h => ?_, fun h => ?_⟩, ?_⟩
    · show (P.length : Int) ≤ sz; omega
    · have h : k = 1 := h; omega
    · have h : k = 2 := h; omega
    · unfold ndBytes
      dsimp only
      rw [if_pos hk, f5, s4, c4, p3, show c.toNat = P.length by omega]
      simp only [List.append_assoc]
  · refine .inr ⟨h0, fun n R hn => ?_⟩
    obtain ⟨g4, -, rfl, -, -, rfl⟩ := h.step n R hn
    obtain ⟨-, -, q3, q4, q5, q6⟩ := hn.1.file hk
    rw [if_pos hk] at h5
    obtain ⟨g5, rfl, rfl⟩ := h5.step g4 (x := n.size) (R := numBytes n.parts.length ++ (n.parts.flatten ++ R)) ⟨q3, q4, by omega, by simp only [List.append_assoc]⟩ NumIs.det
    obtain ⟨g6, rfl, rfl⟩ := h6.step g5 (x := (n.parts.length : Int)) (R := n.parts.flatten ++ R) ⟨by omega, q5, by omega, by rw [Int.toNat_natCast]⟩ NumIs.det
    obtain ⟨g7, -, -⟩ := h7.step g6 (x := n.parts) (R := R) ⟨rfl, q6, rfl⟩ IdsIs.det
    exact h0 g7
theorem rd_dir (h : HdRd L t k m i L4 e4) (hk : k = 1) {L5 : List UInt8} {e5 : Int} {tr : List UInt8} (h5 : Rd (RawIs 32) [] L4 e4 tr L5 e5) (tr' : List UInt8) (htr : e5 = 0 → tr' = tr) :
    NdRd L ⟨t, k, m, i, 0, [], [], tr'⟩ L5 e5 := by
  by_cases h0 : e5 = 0
  · refine .inl ⟨h0, ?_⟩
    obtain rfl := htr h0
    obtain ⟨g5, p1, p2⟩ := h5.fine h0
    obtain ⟨f1, f2, f3, f4, f5⟩ := h.fine g5
    refine ⟨⟨f1, f2, f3, f4, fun h => ?_, fun _ => ⟨rfl, ?_, rfl, rfl⟩, fun h => ?_⟩, ?_⟩
    · have h : k = 0 := h; omega
    · show tr'.length = 32; omega
    · have h : k = 2 := h; omega
    · unfold ndBytes
      dsimp only
      rw [if_neg (by omega), if_pos hk, f5, p2]
      simp only [List.append_assoc]
  · refine .inr ⟨h0, fun n R hn => ?_⟩
    obtain ⟨g4, -, rfl, -, -, rfl⟩ := h.step n R hn
    obtain ⟨-, q2, -, -⟩ := hn.1.dir hk
    rw [if_neg (by omega), if_pos hk] at h5
    obtain ⟨g7, -, -⟩ := h5.step g4 (x := n.tree) (R := R) ⟨by omega, rfl⟩ RawIs.det
    exact h0 g7
theorem rd_link (h : HdRd L t k m i L4 e4) (hk : k = 2) {L5 : List UInt8} {e5 : Int} {tg : List UInt8} (h5 : Rd (TextIs 4095) [] L4 e4 tg L5 e5) :
    NdRd L ⟨t, k, m, i, 0, tg, [], noughts⟩ L5 e5 := by
  by_cases h0 : e5 = 0
  · refine .inl ⟨h0, ?_⟩
    obtain ⟨g5, p1, p2, p3⟩ := h5.fine h0
    obtain ⟨f1, f2, f3, f4, f5⟩ := h.fine g5
    refine ⟨⟨f1, f2, f3, f4, fun h => ?_, fun h => ?_, fun _ => ⟨?_, rfl, rfl, rfl⟩⟩, ?_⟩
    · have h : k = 0 := h; omega
    · have h : k = 1 := h; omega
    · show tg.length ≤ 4095; omega
    · unfold ndBytes
      dsimp only
      rw [if_neg (by omega), if_neg (by omega), f5, p3]
      simp only [List.append_assoc]
  · refine .inr ⟨h0, fun n R hn => ?_⟩
    obtain ⟨g4, -, rfl, -, -, rfl⟩ := h.step n R hn
    obtain ⟨q1, -, -, -⟩ := hn.1.link hk
    rw [if_neg (by omega), if_neg (by omega)] at h5
    obtain ⟨g7, -, -⟩ := h5.step g4 (x := n.target) (R := R) ⟨by omega, by omega, by simp only [List.append_assoc]⟩ TextIs.det
    exact h0 g7
end
end Go.Proofs.Ytjgmhaajcglpmaa
