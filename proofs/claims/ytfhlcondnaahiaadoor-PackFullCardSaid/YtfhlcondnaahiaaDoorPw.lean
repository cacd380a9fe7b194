/- pack.Writer: what it holds; Count and Size; what Add answers, in plain words. -/
import Derived.Test.YtfhlcondnaahiaaDoorPt
import Derived.Test.YtfhlcondnaahiaaDoorPa
import Derived.Test.YtfhlcondnaahiaaDoorHex
namespace Go.Proofs.YtfhlcondnaahiaaDoor
open Go.RowKit Sha

theorem row_slice {w : World} {base n sz : Nat} {t : TypeId} {v : Value} {xs : List Value} (h : w.ownsRow base t sz v n xs) : ∃ A c, v = .slice A n c := by
  rcases h.2 with ⟨rfl, h0⟩ | ⟨g, cap, cur, rfl, -⟩
  · rw [h0]; exact ⟨_, _, rfl⟩
  · exact ⟨_, _, rfl⟩
set_option maxRecDepth 100000 in
theorem count_any (wb : Nat) (PC : List Value) (v1 v2 m : Value) (base n : Nat) (xs : List Value) (X : World) (hPC : PC.length = 97) (hI : blockIs X wb (PC ++ [v1, v2, m]) 80) (h : X.ownsRow base 66 35 v2 n xs) :
    Calls Tryd.prog 11 #[.pointer (some ⟨wb, 0, none⟩)] X fun e w' => e = .returned (.int .i64 (n : Int)) ∧ X = w' := by
  obtain ⟨A, c, rfl⟩ := row_slice h
  have e1 := get98 hPC hI
  clear h
  go_enter Tryd.func11, Tryd.ntmps11
  go_wp2_with fail
  go_ret
  exact ⟨rfl, rfl⟩
set_option maxRecDepth 100000 in
theorem size_any (wb : Nat) (PC : List Value) (v1 v2 m : Value) (base n : Nat) (xs : List Value) (X : World) (hPC : PC.length = 97) (hI : blockIs X wb (PC ++ [v1, v2, m]) 80) (h : X.ownsRow base 5 1 v1 n xs) :
    Calls Tryd.prog 12 #[.pointer (some ⟨wb, 0, none⟩)] X fun e w' => e = .returned (.int .i64 (n : Int)) ∧ X = w' := by
  obtain ⟨A, c, rfl⟩ := row_slice h
  have e1 := get97 hPC hI
  clear h
  go_enter Tryd.func12, Tryd.ntmps12
  go_wp2_with fail
  go_ret
  exact ⟨rfl, rfl⟩

/-- A writer in memory. -/
structure WrAt (X : World) (base wb tb : Nat) (fa : Option Addr) (fc : Nat) (F : List UInt8) (told : Nat) (PC : List Value) (B : List UInt8) (L : List En) (v1 v2 : Value) (gm : Option Nat) : Prop where
  i : blockIs X wb (PC ++ [v1, v2, .map gm]) 80
  t : tapeAt X tb fa fc F told
  a : X.ownsRow base 5 1 v1 B.length (byteCells B)
  e : X.ownsRow base 66 35 v2 L.length (enCells L)
  s : (gm = none ∧ L = []) ∨ ∃ g, gm = some g ∧ base ≤ g ∧ setIs X g (L.map En.id)
  f : ∀ x, fa = some x → x.block < base ∧ x.block ≠ wb
  w : wb < base
  tl : tb < base
  g : 1 ≠ wb ∧ 0 ≠ wb ∧ 1 ≠ tb ∧ 0 ≠ tb ∧ 1 < base ∧ 0 < base
  b : base ≤ X.heap.size
def wF (wb tb : Nat) (v1 v2 : Value) (gm : Option Nat) (k : Nat) : Prop := k = wb ∨ k = tb ∨ v1.ownBlock = some k ∨ v2.ownBlock = some k ∨ gm = some k
section
variable {X Y : World} {base wb tb : Nat} {fa : Option Addr} {fc : Nat} {F : List UInt8} {told : Nat} {PC : List Value} {B : List UInt8} {L : List En} {v1 v2 : Value} {gm : Option Nat}
theorem WrAt.ne (h : WrAt X base wb tb fa fc F told PC B L v1 v2 gm) : wb ≠ tb := by
  intro e
  have h1 := h.i
  have h2 := h.t.is
  rw [← e] at h2
  unfold blockIs at h1 h2
  rw [h1] at h2
  injection h2 with h2
  injection h2 with _ h3 _
  exact absurd h3 (by decide)
theorem WrAt.below (h : WrAt X base wb tb fa fc F told PC B L v1 v2 gm) (k : Below X.heap.size X Y) : WrAt Y base wb tb fa fc F told PC B L v1 v2 gm := by
  have kk : Kp (fun _ => False) X Y := Kp.below k
  refine ⟨kk.is h.i id, h.t.below k, row_kp h.a kk fun _ _ => id, row_kp h.e kk fun _ _ => id, ?_, h.f, h.w, h.tl, h.g, Nat.le_trans h.b kk.size⟩
  rcases h.s with h1 | ⟨g, h1, h2, h3⟩
  · exact Or.inl h1
  · exact Or.inr ⟨g, h1, h2, set_kp h3 kk id⟩
theorem WrAt.tell (h : WrAt X base wb tb fa fc F told PC B L v1 v2 gm) (k : But tb X Y) {t2 : Nat} (ht : tapeAt Y tb fa fc F t2) : WrAt Y base wb tb fa fc F t2 PC B L v1 v2 gm := by
  have kk : Kp (fun i => i = tb) X Y := Kp.but k (Or.inl rfl)
  refine ⟨kk.is h.i h.ne, ht, row_kp h.a kk fun i hi q => row_type h.a h.t.is (by decide) (q ▸ hi), row_kp h.e kk fun i hi q => row_type h.e h.t.is (by decide) (q ▸ hi), ?_, h.f, h.w, h.tl, h.g, Nat.le_trans h.b kk.size⟩
  rcases h.s with h1 | ⟨g, h1, h2, h3⟩
  · exact Or.inl h1
  · exact Or.inr ⟨g, h1, h2, set_kp h3 kk fun q => h3.ne_cells h.t.is q⟩
theorem WrAt.tabs (h : WrAt X base wb tb fa fc F told PC B L v1 v2 gm) (ht : tables X) (k : Kp (wF wb tb v1 v2 gm) X Y) : tables Y := by
  have hn : ∀ i, i ≠ wb → i ≠ tb → i < base → ¬ wF wb tb v1 v2 gm i := fun i h1 h2 h3 q => by
    rcases q with q | q | q | q | q
    · exact h1 q
    · exact h2 q
    · have := (h.a.lt _ q).1; omega
    · have := (h.e.lt _ q).1; omega
    · rcases h.s with ⟨e, -⟩ | ⟨g, e, hb, -⟩
      · rw [e] at q; cases q
      · rw [e] at q; cases q; omega
  have n1 := hn _ h.g.1 h.g.2.2.1 h.g.2.2.2.2.1
  have n2 := hn _ h.g.2.1 h.g.2.2.2.1 h.g.2.2.2.2.2
  exact ⟨fun j hj => k.cell (ht.1 j hj) n1, fun j x hj => k.cell (ht.2.1 j x hj) n2, Nat.lt_of_lt_of_le ht.2.2.1 k.size, Nat.lt_of_lt_of_le ht.2.2.2 k.size⟩
/-- Behind take. -/
theorem WrAt.took (h : WrAt X base wb tb fa fc F told PC B L v1 v2 gm) {u1 u2 : Value} {g : Nat} {B' : List UInt8} {L' : List En} (k : Kp (tkF wb v1 v2 gm) X Y) (hi : blockIs Y wb (PC ++ [u1, u2, .map (some g)]) 80) (ha : Y.ownsRow base 5 1 u1 B'.length (byteCells B')) (he : Y.ownsRow base 66 35 u2 L'.length (enCells L')) (hg : base ≤ g) (hs : setIs Y g (L'.map En.id)) : WrAt Y base wb tb fa fc F told PC B' L' u1 u2 (some g) := by
  refine ⟨hi, ⟨k.is h.t.is ?_, ?_, h.t.apart, h.t.len, h.t.cap, h.t.most⟩, ha, he, Or.inr ⟨g, rfl, hg, hs⟩, h.f, h.w, h.tl, h.g, Nat.le_trans h.b k.size⟩
  · rintro (q | q | q | q)
    · exact h.ne q.symm
    · exact row_type h.a h.t.is (by decide) q
    · exact row_type h.e h.t.is (by decide) q
    · rcases h.s with ⟨e, -⟩ | ⟨g, e, hb, -⟩
      · rw [e] at q; cases q
      · rw [e] at q; cases q; have := h.tl; omega
  · rcases h.t.row with e | ⟨b, o, e, hc⟩
    · exact Or.inl e
    · refine Or.inr ⟨b, o, e, fun j hj => k.cell (hc j hj) ?_⟩
      have f0 := h.f _ e
      have f1 : b < base := f0.1
      have f2 : b ≠ wb := f0.2
      intro q
      have q : tkF wb v1 v2 gm b := q
      rcases q with q | q | q | q
      · exact f2 q
      · have := (h.a.lt _ q).1; omega
      · have := (h.e.lt _ q).1; omega
      · rcases h.s with ⟨e, -⟩ | ⟨g, e, hb, -⟩
        · rw [e] at q; cases q
        · rw [e] at q; cases q; omega
end
/-- What Add answers, and what the writer holds then. -/
structure AddOut where
  id : List UInt8
  yes : Bool
  er : Int
  told : Nat
  B : List UInt8
  L : List En
def zero32 : List UInt8 := List.replicate 32 0
def addR (H M C F : List UInt8) (told : Nat) (B : List UInt8) (L : List En) (k8 : UInt8) (b : List UInt8) : AddOut :=
  if 131072 < b.length then ⟨zero32, false, 4, told, B, L⟩
  else if hmac C (k8 :: b) ∈ L.map En.id then ⟨hmac C (k8 :: b), false, 0, told, B, L⟩
  else if L.length = 1000 ∨ 900000 < B.length + b.length + 48 then ⟨zero32, false, 8, told, B, L⟩
  else ⟨hmac C (k8 :: b), true, 0, told + 16, B ++ wseal H M k8 (hexL (hmac C (k8 :: b))) (tbytes F told 16) b, L ++ [⟨hmac C (k8 :: b), V k8, B.length, b.length + 48⟩]⟩
theorem zeros_zero32 : zeros 32 = byteCells zero32 := by
  simp [zeros, byteCells, zero32]
  rfl
theorem results_cell_two {fn : Func} {p t u : Tmp} {ty : TypeId} (h : fn.results = #[.cell p ty, .tmp t, .tmp u]) (tmps : Array Value) (w : World) (g : Nat) (cs : Array Value)
    (hp : tmps.getD p undef = .pointer (some ⟨g, 0, none⟩)) (hl : (loadVar ty ⟨g, 0, none⟩).run Tryd.prog w = .ok (.agg cs) w) :
    (results fn tmps).run Tryd.prog w = .ok (.tuple #[.agg cs, tmps.getD t undef, tmps.getD u undef]) w := by
  have hp' : tmps[p]?.getD undef = .pointer (some ⟨g, 0, none⟩) := by simpa using hp
  simp [results, h, hp', asAddr, hl]
end Go.Proofs.YtfhlcondnaahiaaDoor
