/- Parts laid by a call's own literal; parts of parts. -/
import Derived.Test.YtfhlcondnaahiaaDoorGf
import Derived.Test.YtfhlcondnaahiaaDoorGe
section
namespace Go.Proofs.YtfhlcondnaahiaaDoor
open Go.RowKit Sha

structure Pt where
  a : Option Addr
  c : Nat
  l : List UInt8
def Pt.val (p : Pt) : Value := .slice p.a p.l.length p.c
def Pt.ok (w : World) (p : Pt) : Prop := p.l.length ≤ p.c ∧ p.c ≤ 9223372036854775807 ∧ bytesIn w p.a p.l
theorem parts_lit (w : World) (ps : List Pt) (h : ∀ p ∈ ps, p.ok w) (cs : Array Value) (hcs : cs = (ps.map Pt.val).toArray) :
    partsIn (w.alloc (.cells cs 30 (0, 0))) (some ⟨w.heap.size, 0, none⟩) (ps.map Pt.l) := by
  subst hcs
  refine Or.inr ⟨_, _, rfl, fun j hj => ?_⟩
  rw [List.length_map] at hj
  have hb := blockIs.new w (ps.map Pt.val) 30
  obtain ⟨h1, h2, h3⟩ := h ps[j] (List.getElem_mem hj)
  have e : (ps.map Pt.l).getD j [] = ps[j].l := by simp [hj]
  rw [e]
  refine ⟨ps[j].a, ps[j].c, ?_, h1, h2, h3.below (alloc_below w _)⟩
  rw [Nat.zero_add, hb.cell]
  simp [hj, Pt.val]
theorem of_lit (W : World) (ps : List Pt) (hW : tables W) (h : ∀ p ∈ ps, p.ok W) (hm : (ps.map Pt.l).flatten.length ≤ 1000000) (hn : ps.length ≤ 1000000) (n : Nat) (hnn : n = ps.length) (cs : Array Value) (hcs : cs = (ps.map Pt.val).toArray) (X : World) (hX : Below W.heap.size W X) :
    Calls Tryd.prog 46 #[.slice (some ⟨X.heap.size, 0, none⟩) n n] (X.alloc (.cells cs 30 (0, 0))) fun e w' => e = .returned (.agg (byteCells (sha (ps.map Pt.l).flatten)).toArray) ∧ Below W.heap.size W w' := by
  subst hnn
  have hp := parts_lit X ps (fun p hp => ⟨(h p hp).1, (h p hp).2.1, (h p hp).2.2.below hX⟩) cs hcs
  have hb : Below W.heap.size W (X.alloc (.cells cs 30 (0, 0))) := hX.alloc hX.size _
  have := of_any ps.length (some ⟨X.heap.size, 0, none⟩) (ps.map Pt.l) (X.alloc (.cells cs 30 (0, 0))) (by simpa using hn) (by simp) hm (hW.below hb hW.2.2.1 hW.2.2.2) hp
  rw [List.length_map] at this
  exact this.mono fun e w' ⟨h1, h2⟩ => ⟨h1, hb.trans (h2.mono hb.size)⟩
theorem below_alloc' {W X : World} (h : Below W.heap.size W X) (o : Obj) : Below W.heap.size W (X.alloc o) := h.alloc h.size o
theorem below_drew' {W X : World} (h : Below W.heap.size W X) : Below W.heap.size W X.drew := below_drewN' h 1
theorem cut_in {w : World} {a : Option Addr} {l : List UInt8} (h : bytesIn w a l) (c i : Nat) (hc : l.length ≤ c) : bytesIn w (if c = i then a else a.map (fun x => x.add i)) (l.drop i) := by
  by_cases e : c = i
  · left
    rw [List.drop_eq_nil_iff]
    omega
  · rw [if_neg e]
    rcases h with h | ⟨bb, bo, rfl, h2⟩
    · exact Or.inl (by rw [h, List.drop_nil])
    · refine Or.inr ⟨bb, bo + i, by show some (Addr.add _ i) = _; rw [Addr.add_lit], fun j hj => ?_⟩
      rw [List.length_drop] at hj
      rw [show bo + i + j = bo + (i + j) by omega, h2 (i + j) (by omega)]
      simp [List.getD_eq_getElem?_getD, List.getElem?_drop]
theorem drop_take_len (l : List UInt8) (i k : Nat) (hk : k ≤ l.length) : ((l.take k).drop i).length = k - i := by
  rw [List.length_drop, List.length_take]; omega
def Pt.sub (p : Pt) (i k : Nat) : Pt := ⟨if p.c = i then p.a else p.a.map (fun x => x.add i), p.c - i, (p.l.take k).drop i⟩
theorem Pt.sub_ok {w : World} {p : Pt} (h : p.ok w) (i k : Nat) (hik : i ≤ k) (hk : k ≤ p.l.length) : (p.sub i k).ok w := by
  obtain ⟨h1, h2, h3⟩ := h
  refine ⟨?_, ?_, ?_⟩
  · show ((p.l.take k).drop i).length ≤ p.c - i
    rw [drop_take_len _ _ _ hk]; omega
  · show p.c - i ≤ _
    omega
  · exact cut_in (h3.take k) p.c i (by rw [List.length_take]; omega)
theorem slice22 : Tryd.prog.underlying 30 = some (.slice (Tryd.prog.elem 30)) := by kernel_rfl
theorem sz22 (w : World) : (sizeOf (Tryd.prog.elem 30)).run Tryd.prog w = .ok 1 w := by kernel_rfl
theorem Pt.run_lh (p : Pt) (i k : Nat) (hik : i ≤ k) (hk : k ≤ p.l.length) (hc : p.l.length ≤ p.c) (w : World) :
    (Instr.slice 30 (.slice p.a p.l.length p.c) (some (.int .i64 (i : Int))) (some (.int .i64 (k : Int))) none).run Tryd.prog w = .ok (.slice (p.sub i k).a (p.sub i k).l.length (p.sub i k).c) w := by
  rw [run_slice_lh w 30 p.a p.l.length p.c slice22 .i64 .i64 (i : Int) (k : Int) (by omega) (by omega) (by omega), sz22]
  show Result.ok (sliced p.a (i : Int).toNat (k : Int).toNat p.c 1) w = _
  rw [Int.toNat_natCast, Int.toNat_natCast]
  unfold sliced Pt.sub
  rw [drop_take_len _ _ _ hk, Nat.mul_one]
theorem Pt.run_h (p : Pt) (k : Nat) (hk : k ≤ p.l.length) (hc : p.l.length ≤ p.c) (w : World) :
    (Instr.slice 30 (.slice p.a p.l.length p.c) none (some (.int .i64 (k : Int))) none).run Tryd.prog w = .ok (.slice (p.sub 0 k).a (p.sub 0 k).l.length (p.sub 0 k).c) w := by
  rw [run_slice_h w 30 p.a p.l.length p.c slice22 .i64 (k : Int) (by omega) (by omega), sz22]
  show Result.ok (sliced p.a 0 (k : Int).toNat p.c 1) w = _
  rw [Int.toNat_natCast]
  unfold sliced Pt.sub
  rw [drop_take_len _ _ _ hk, Nat.mul_one]
theorem Pt.run_l (p : Pt) (i : Nat) (hi : i ≤ p.l.length) (_hc : p.l.length ≤ p.c) (w : World) :
    (Instr.slice 30 (.slice p.a p.l.length p.c) (some (.int .i64 (i : Int))) none none).run Tryd.prog w = .ok (.slice (p.sub i p.l.length).a (p.sub i p.l.length).l.length (p.sub i p.l.length).c) w := by
  rw [run_slice_l w 30 p.a p.l.length p.c slice22 .i64 (i : Int) (by omega) (by omega), sz22]
  show Result.ok (sliced p.a (i : Int).toNat p.l.length p.c 1) w = _
  rw [Int.toNat_natCast]
  unfold sliced Pt.sub
  rw [drop_take_len _ _ _ (Nat.le_refl _), Nat.mul_one]
end Go.Proofs.YtfhlcondnaahiaaDoor
end
section
/- Calls of Of and Keyed whose parts lie in a literal that was laid at some time before. -/
namespace Go.Proofs.YtfhlcondnaahiaaDoor
open Go.RowKit Sha

def cellsAt (X : World) (g : Nat) (vs : List Value) : Prop := ∀ j v, vs[j]? = some v → X.cell? ⟨g, j, none⟩ = some v
theorem cellsAt.new (w : World) (cs : Array Value) (g : Nat) (t : TypeId) (vs : List Value) (hg : g = w.heap.size) (h : vs = cs.toList) : cellsAt (w.alloc (.cells cs t (0, 0))) g vs := by
  subst hg h
  intro j v hj
  have hb : blockIs (w.alloc (.cells cs t (0, 0))) w.heap.size cs.toList t := by
    have := blockIs.new w cs.toList t
    rwa [Array.toArray_toList] at this
  rw [hb.cell]
  exact hj
theorem cellsAt.keep {X w' : World} {g : Nat} {vs : List Value} (h : cellsAt X g vs) (hb : Below X.heap.size X w') : cellsAt w' g vs := fun j v hj => (hb.cell (p := ⟨g, j, none⟩) (block_lt_of_cell (h j v hj))).trans (h j v hj)
theorem cellsAt.parts {W X : World} {g : Nat} {ps : List Pt} (h : cellsAt X g (ps.map Pt.val)) (hX : Below W.heap.size W X) (hp : ∀ p ∈ ps, p.ok W) : partsIn X (some ⟨g, 0, none⟩) (ps.map Pt.l) := by
  refine Or.inr ⟨_, _, rfl, fun j hj => ?_⟩
  rw [List.length_map] at hj
  obtain ⟨h1, h2, h3⟩ := hp ps[j] (List.getElem_mem hj)
  have e : (ps.map Pt.l).getD j [] = ps[j].l := by simp [hj]
  rw [e]
  refine ⟨ps[j].a, ps[j].c, ?_, h1, h2, h3.below hX⟩
  rw [Nat.zero_add]
  exact h j _ (by simp [hj, Pt.val])
theorem of_at (W : World) (ps : List Pt) (vs : List Value) (hvs : vs = ps.map Pt.val) (hW : tables W) (hp : ∀ p ∈ ps, p.ok W) (L : List UInt8) (hL : (ps.map Pt.l).flatten = L) (hm : L.length ≤ 1000000) (n : Nat) (hn : n = ps.length) (hn2 : n ≤ 1000000) (X : World) (g : Nat) (hX : Below W.heap.size W X) (hc : cellsAt X g vs) :
    Calls Tryd.prog 46 #[.slice (some ⟨g, 0, none⟩) n n] X fun e w' => e = .returned (.agg (byteCells (sha L)).toArray) ∧ Below W.heap.size W w' ∧ Below X.heap.size X w' := by
  subst hvs hn hL
  have := of_any ps.length (some ⟨g, 0, none⟩) (ps.map Pt.l) X (by simpa using hn2) (by simp) hm (hW.below hX hW.2.2.1 hW.2.2.2) (hc.parts hX hp)
  rw [List.length_map] at this
  exact this.mono fun e w' ⟨h1, h2⟩ => ⟨h1, hX.trans (h2.mono hX.size), h2⟩
theorem kf_at (W : World) (ps : List Pt) (vs : List Value) (hvs : vs = ps.map Pt.val) (hW : tables W) (hp : ∀ p ∈ ps, p.ok W) (L : List UInt8) (hL : (ps.map Pt.l).flatten = L) (hm : L.length ≤ 900000) (n : Nat) (hn : n = ps.length) (hn2 : n ≤ 1000000) (k : Pt) (hk : k.ok W) (hkl : k.l.length ≤ 900000) (X : World) (g : Nat) (hX : Below W.heap.size W X) (hc : cellsAt X g vs) :
    Calls Tryd.prog 44 #[.slice k.a k.l.length k.c, .slice (some ⟨g, 0, none⟩) n n] X fun e w' => e = .returned (.agg (byteCells (hmac k.l L)).toArray) ∧ Below W.heap.size W w' ∧ Below X.heap.size X w' := by
  subst hvs hn hL
  have := kf_any k.a (some ⟨g, 0, none⟩) k.c ps.length k.l (ps.map Pt.l) X hkl hk.1 hk.2.1 (hk.2.2.below hX) (by simpa using hn2) (by simp) hm (hW.below hX hW.2.2.1 hW.2.2.2) (hc.parts hX hp)
  rw [List.length_map] at this
  exact this.mono fun e w' ⟨h1, h2⟩ => ⟨h1, hX.trans (h2.mono hX.size), h2⟩
end Go.Proofs.YtfhlcondnaahiaaDoor
end
section
/- sum.Stretch: a key of a word, so many steps far. -/
namespace Go.Proofs.YtfhlcondnaahiaaDoor
open Go.RowKit Sha

def xorL (a b : List UInt8) : List UInt8 := (List.range 32).map fun i => a.getD i 0 ^^^ b.getD i 0
def stretch (K s : List UInt8) : Nat → List UInt8
  | 0 => hmac K s
  | n + 1 => xorL (stretch K s n) (hmac K (stretch K s n))
theorem range_of {w : World} {g : Nat} {cs : List Value} {t : TypeId} (hg : blockIs w g cs t) : w.rangeAt g 0 cs := by
  intro j v hj
  rw [Nat.zero_add, hg.cell]
  exact hj
attribute [local go_sem] V_xor

end Go.Proofs.YtfhlcondnaahiaaDoor
end
