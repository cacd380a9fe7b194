/- Parts laid by a call's own literal; parts of parts. -/
import Derived.Test.YtjemgniochjgmaaDoorRof
import Derived.Test.YtjemgniochjgmaaDoorKf
namespace Go.Proofs.YtjemgniochjgmaaDoor
open Go.RowKit Sha

/-- A list of slices, each with its bytes. -/
structure Pt where
  a : Option Addr
  c : Nat
  l : List UInt8
def Pt.val (p : Pt) : Value := .slice p.a p.l.length p.c
def Pt.ok (w : World) (p : Pt) : Prop := p.l.length ≤ p.c ∧ p.c ≤ 9223372036854775807 ∧ bytesIn w p.a p.l
theorem parts_lit (w : World) (ps : List Pt) (h : ∀ p ∈ ps, p.ok w) (cs : Array Value) (hcs : cs = (ps.map Pt.val).toArray) :
    partsIn (w.alloc (.cells cs 22 (0, 0))) (some ⟨w.heap.size, 0, none⟩) (ps.map Pt.l) := by
  subst hcs
  refine Or.inr ⟨_, _, rfl, fun j hj => ?_⟩
  rw [List.length_map] at hj
  have hb := blockIs.new w (ps.map Pt.val) 22
  obtain ⟨h1, h2, h3⟩ := h ps[j] (List.getElem_mem hj)
  have e : (ps.map Pt.l).getD j [] = ps[j].l := by simp [hj]
  rw [e]
  refine ⟨ps[j].a, ps[j].c, ?_, h1, h2, h3.below (alloc_below w _)⟩
  rw [Nat.zero_add, hb.cell]
  simp [hj, Pt.val]
/-- Of, called with a literal of parts. -/
theorem of_lit (W : World) (ps : List Pt) (hW : tables W) (h : ∀ p ∈ ps, p.ok W) (hm : (ps.map Pt.l).flatten.length ≤ 1000000) (hn : ps.length ≤ 1000000) (n : Nat) (hnn : n = ps.length) (cs : Array Value) (hcs : cs = (ps.map Pt.val).toArray) (X : World) (hX : Below W.heap.size W X) :
    Calls Tryd.prog 22 #[.slice (some ⟨X.heap.size, 0, none⟩) n n] (X.alloc (.cells cs 22 (0, 0))) fun e w' => e = .returned (.agg (byteCells (sha (ps.map Pt.l).flatten)).toArray) ∧ Below W.heap.size W w' := by
  subst hnn
  have hp := parts_lit X ps (fun p hp => ⟨(h p hp).1, (h p hp).2.1, (h p hp).2.2.below hX⟩) cs hcs
  have hb : Below W.heap.size W (X.alloc (.cells cs 22 (0, 0))) := hX.alloc hX.size _
  have := of_any ps.length (some ⟨X.heap.size, 0, none⟩) (ps.map Pt.l) (X.alloc (.cells cs 22 (0, 0))) (by simpa using hn) (by simp) hm (hW.below hb hW.2.2.1 hW.2.2.2) hp
  rw [List.length_map] at this
  exact this.mono fun e w' ⟨h1, h2⟩ => ⟨h1, hb.trans (h2.mono hb.size)⟩
/-- Keyed, called with a literal of parts. -/
theorem kf_lit (W : World) (ps : List Pt) (hW : tables W) (h : ∀ p ∈ ps, p.ok W) (hm : (ps.map Pt.l).flatten.length ≤ 900000) (hn : ps.length ≤ 1000000) (n : Nat) (hnn : n = ps.length) (cs : Array Value) (hcs : cs = (ps.map Pt.val).toArray)
    (k : Pt) (hk : k.ok W) (hkm : k.l.length ≤ 900000) (X : World) (hX : Below W.heap.size W X) :
    Calls Tryd.prog 12 #[k.val, .slice (some ⟨X.heap.size, 0, none⟩) n n] (X.alloc (.cells cs 22 (0, 0))) fun e w' => e = .returned (.agg (byteCells (hmac k.l (ps.map Pt.l).flatten)).toArray) ∧ Below W.heap.size W w' := by
  subst hnn
  have hp := parts_lit X ps (fun p hp => ⟨(h p hp).1, (h p hp).2.1, (h p hp).2.2.below hX⟩) cs hcs
  have hb : Below W.heap.size W (X.alloc (.cells cs 22 (0, 0))) := hX.alloc hX.size _
  have := kf_any k.a (some ⟨X.heap.size, 0, none⟩) k.c ps.length k.l (ps.map Pt.l) (X.alloc (.cells cs 22 (0, 0))) hkm hk.1 hk.2.1 (hk.2.2.below hb) (by simpa using hn) (by simp) hm (hW.below hb hW.2.2.1 hW.2.2.2) hp
  rw [List.length_map] at this
  exact this.mono fun e w' ⟨h1, h2⟩ => ⟨h1, hb.trans (h2.mono hb.size)⟩
theorem below_alloc' {W X : World} (h : Below W.heap.size W X) (o : Obj) : Below W.heap.size W (X.alloc o) := h.alloc h.size o
theorem below_drew' {W X : World} (h : Below W.heap.size W X) : Below W.heap.size W X.drew := below_drewN' h 1
theorem cut_in {w : World} {a : Option Addr} {l : List UInt8} (h : bytesIn w a l) (c i : Nat) (hc : l.length ≤ c) : bytesIn w (if c = i then a else a.map (fun x => x.add i)) (l.drop i) := by
  by_cases e : c = i
  · left
    rw [List.drop_eq_nil_iff]
    omega
  · rw [if_neg e]
    rcases h with h | ⟨bb, bo, rfl, h2⟩
    · exact Or.inl (by rw [h, List.drop_nil])
    · refine Or.inr ⟨bb, bo + i, by show some (Addr.add _ i) = _; rw [Addr.add_lit], fun j hj => ?_⟩
      rw [List.length_drop] at hj
      rw [show bo + i + j = bo + (i + j) by omega, h2 (i + j) (by omega)]
      simp [List.getD_eq_getElem?_getD, List.getElem?_drop]
theorem drop_take_len (l : List UInt8) (i k : Nat) (hk : k ≤ l.length) : ((l.take k).drop i).length = k - i := by
  rw [List.length_drop, List.length_take]; omega
/-- A part of a slice, from i to k. -/
def Pt.sub (p : Pt) (i k : Nat) : Pt := ⟨if p.c = i then p.a else p.a.map (fun x => x.add i), p.c - i, (p.l.take k).drop i⟩
theorem Pt.sub_ok {w : World} {p : Pt} (h : p.ok w) (i k : Nat) (hik : i ≤ k) (hk : k ≤ p.l.length) : (p.sub i k).ok w := by
  obtain ⟨h1, h2, h3⟩ := h
  refine ⟨?_, ?_, ?_⟩
  · show ((p.l.take k).drop i).length ≤ p.c - i
    rw [drop_take_len _ _ _ hk]; omega
  · show p.c - i ≤ _
    omega
  · exact cut_in (h3.take k) p.c i (by rw [List.length_take]; omega)
theorem slice22 : Tryd.prog.underlying 22 = some (.slice (Tryd.prog.elem 22)) := by kernel_rfl
theorem sz22 (w : World) : (sizeOf (Tryd.prog.elem 22)).run Tryd.prog w = .ok 1 w := by kernel_rfl
/-- What the three forms of a slice's slice answer. -/
theorem Pt.run_lh (p : Pt) (i k : Nat) (hik : i ≤ k) (hk : k ≤ p.l.length) (hc : p.l.length ≤ p.c) (w : World) :
    (Instr.slice 22 (.slice p.a p.l.length p.c) (some (.int .i64 (i : Int))) (some (.int .i64 (k : Int))) none).run Tryd.prog w = .ok (.slice (p.sub i k).a (p.sub i k).l.length (p.sub i k).c) w := by
  rw [run_slice_lh w 22 p.a p.l.length p.c slice22 .i64 .i64 (i : Int) (k : Int) (by omega) (by omega) (by omega), sz22]
  show Result.ok (sliced p.a (i : Int).toNat (k : Int).toNat p.c 1) w = _
  rw [Int.toNat_natCast, Int.toNat_natCast]
  unfold sliced Pt.sub
  rw [drop_take_len _ _ _ hk, Nat.mul_one]
theorem Pt.run_h (p : Pt) (k : Nat) (hk : k ≤ p.l.length) (hc : p.l.length ≤ p.c) (w : World) :
    (Instr.slice 22 (.slice p.a p.l.length p.c) none (some (.int .i64 (k : Int))) none).run Tryd.prog w = .ok (.slice (p.sub 0 k).a (p.sub 0 k).l.length (p.sub 0 k).c) w := by
  rw [run_slice_h w 22 p.a p.l.length p.c slice22 .i64 (k : Int) (by omega) (by omega), sz22]
  show Result.ok (sliced p.a 0 (k : Int).toNat p.c 1) w = _
  rw [Int.toNat_natCast]
  unfold sliced Pt.sub
  rw [drop_take_len _ _ _ hk, Nat.mul_one]
theorem Pt.run_l (p : Pt) (i : Nat) (hi : i ≤ p.l.length) (hc : p.l.length ≤ p.c) (w : World) :
    (Instr.slice 22 (.slice p.a p.l.length p.c) (some (.int .i64 (i : Int))) none none).run Tryd.prog w = .ok (.slice (p.sub i p.l.length).a (p.sub i p.l.length).l.length (p.sub i p.l.length).c) w := by
  rw [run_slice_l w 22 p.a p.l.length p.c slice22 .i64 (i : Int) (by omega) (by omega), sz22]
  show Result.ok (sliced p.a (i : Int).toNat p.l.length p.c 1) w = _
  rw [Int.toNat_natCast]
  unfold sliced Pt.sub
  rw [drop_take_len _ _ _ (Nat.le_refl _), Nat.mul_one]
theorem parts3 (l : List UInt8) (i k : Nat) (hik : i ≤ k) (hk : k ≤ l.length) : [(l.take i).drop 0, (l.take k).drop i, (l.take l.length).drop k].flatten = l := by
  rw [List.take_length]
  simp only [List.flatten_cons, List.flatten_nil, List.append_nil, List.drop_zero]
  rw [← List.append_assoc]
  conv => rhs; rw [← List.take_append_drop k l]
  congr 1
  conv => rhs; rw [← List.take_append_drop i (l.take k), List.take_take, Nat.min_eq_left hik]
end Go.Proofs.YtjemgniochjgmaaDoor
