/- Parts laid by a call's own literal; parts of parts. -/
import Derived.Test.YtjkhokholcchfaaDoorGf
import Derived.Test.YtjkhokholcchfaaDoorGe
section
namespace Go.Proofs.YtjkhokholcchfaaDoor
open Go.RowKit Sha

/-- A list of slices, each with its bytes. -/
structure Pt where
  a : Option Addr
  c : Nat
  l : List UInt8
def Pt.val (p : Pt) : Value := .slice p.a p.l.length p.c
def Pt.ok (w : World) (p : Pt) : Prop := p.l.length ≤ p.c ∧ p.c ≤ 9223372036854775807 ∧ bytesIn w p.a p.l
theorem parts_lit (w : World) (ps : List Pt) (h : ∀ p ∈ ps, p.ok w) (cs : Array Value) (hcs : cs = (ps.map Pt.val).toArray) :
    partsIn (w.alloc (.cells cs 22 (0, 0))) (some ⟨w.heap.size, 0, none⟩) (ps.map Pt.l) := by
  subst hcs
  refine Or.inr ⟨_, _, rfl, fun j hj => ?_⟩
  rw [List.length_map] at hj
  have hb := blockIs.new w (ps.map Pt.val) 22
  obtain ⟨h1, h2, h3⟩ := h ps[j] (List.getElem_mem hj)
  have e : (ps.map Pt.l).getD j [] = ps[j].l := by simp [hj]
  rw [e]
  refine ⟨ps[j].a, ps[j].c, ?_, h1, h2, h3.below (alloc_below w _)⟩
  rw [Nat.zero_add, hb.cell]
  simp [hj, Pt.val]
/-- Of, called with a literal of parts. -/
theorem of_lit (W : World) (ps : List Pt) (hW : tables W) (h : ∀ p ∈ ps, p.ok W) (hm : (ps.map Pt.l).flatten.length ≤ 1000000) (hn : ps.length ≤ 1000000) (n : Nat) (hnn : n = ps.length) (cs : Array Value) (hcs : cs = (ps.map Pt.val).toArray) (X : World) (hX : Below W.heap.size W X) :
    Calls Tryd.prog 54 #[.slice (some ⟨X.heap.size, 0, none⟩) n n] (X.alloc (.cells cs 22 (0, 0))) fun e w' => e = .returned (.agg (byteCells (sha (ps.map Pt.l).flatten)).toArray) ∧ Below W.heap.size W w' := by
  subst hnn
  have hp := parts_lit X ps (fun p hp => ⟨(h p hp).1, (h p hp).2.1, (h p hp).2.2.below hX⟩) cs hcs
  have hb : Below W.heap.size W (X.alloc (.cells cs 22 (0, 0))) := hX.alloc hX.size _
  have := of_any ps.length (some ⟨X.heap.size, 0, none⟩) (ps.map Pt.l) (X.alloc (.cells cs 22 (0, 0))) (by simpa using hn) (by simp) hm (hW.below hb hW.2.2.1 hW.2.2.2) hp
  rw [List.length_map] at this
  exact this.mono fun e w' ⟨h1, h2⟩ => ⟨h1, hb.trans (h2.mono hb.size)⟩
/-- Keyed, called with a literal of parts. -/
theorem kf_lit (W : World) (ps : List Pt) (hW : tables W) (h : ∀ p ∈ ps, p.ok W) (hm : (ps.map Pt.l).flatten.length ≤ 900000) (hn : ps.length ≤ 1000000) (n : Nat) (hnn : n = ps.length) (cs : Array Value) (hcs : cs = (ps.map Pt.val).toArray)
    (k : Pt) (hk : k.ok W) (hkm : k.l.length ≤ 900000) (X : World) (hX : Below W.heap.size W X) :
    Calls Tryd.prog 49 #[k.val, .slice (some ⟨X.heap.size, 0, none⟩) n n] (X.alloc (.cells cs 22 (0, 0))) fun e w' => e = .returned (.agg (byteCells (hmac k.l (ps.map Pt.l).flatten)).toArray) ∧ Below W.heap.size W w' := by
  subst hnn
  have hp := parts_lit X ps (fun p hp => ⟨(h p hp).1, (h p hp).2.1, (h p hp).2.2.below hX⟩) cs hcs
  have hb : Below W.heap.size W (X.alloc (.cells cs 22 (0, 0))) := hX.alloc hX.size _
  have := kf_any k.a (some ⟨X.heap.size, 0, none⟩) k.c ps.length k.l (ps.map Pt.l) (X.alloc (.cells cs 22 (0, 0))) hkm hk.1 hk.2.1 (hk.2.2.below hb) (by simpa using hn) (by simp) hm (hW.below hb hW.2.2.1 hW.2.2.2) hp
  rw [List.length_map] at this
  exact this.mono fun e w' ⟨h1, h2⟩ => ⟨h1, hb.trans (h2.mono hb.size)⟩
theorem below_alloc' {W X : World} (h : Below W.heap.size W X) (o : Obj) : Below W.heap.size W (X.alloc o) := h.alloc h.size o
theorem below_drew' {W X : World} (h : Below W.heap.size W X) : Below W.heap.size W X.drew := below_drewN' h 1
theorem cut_in {w : World} {a : Option Addr} {l : List UInt8} (h : bytesIn w a l) (c i : Nat) (hc : l.length ≤ c) : bytesIn w (if c = i then a else a.map (fun x => x.add i)) (l.drop i) := by
  by_cases e : c = i
  · left
    rw [List.drop_eq_nil_iff]
    omega
  · rw [if_neg e]
    rcases h with h | ⟨bb, bo, rfl, h2⟩
    · exact Or.inl (by rw [h, List.drop_nil])
    · refine Or.inr ⟨bb, bo + i, by show some (Addr.add _ i) = _; rw [Addr.add_lit], fun j hj => ?_⟩
      rw [List.length_drop] at hj
      rw [show bo + i + j = bo + (i + j) by omega, h2 (i + j) (by omega)]
      simp [List.getD_eq_getElem?_getD, List.getElem?_drop]
theorem drop_take_len (l : List UInt8) (i k : Nat) (hk : k ≤ l.length) : ((l.take k).drop i).length = k - i := by
  rw [List.length_drop, List.length_take]; omega
/-- A part of a slice, from i to k. -/
def Pt.sub (p : Pt) (i k : Nat) : Pt := ⟨if p.c = i then p.a else p.a.map (fun x => x.add i), p.c - i, (p.l.take k).drop i⟩
theorem Pt.sub_ok {w : World} {p : Pt} (h : p.ok w) (i k : Nat) (hik : i ≤ k) (hk : k ≤ p.l.length) : (p.sub i k).ok w := by
  obtain ⟨h1, h2, h3⟩ := h
  refine ⟨?_, ?_, ?_⟩
  · show ((p.l.take k).drop i).length ≤ p.c - i
    rw [drop_take_len _ _ _ hk]; omega
  · show p.c - i ≤ _
    omega
  · exact cut_in (h3.take k) p.c i (by rw [List.length_take]; omega)
theorem slice22 : Tryd.prog.underlying 22 = some (.slice (Tryd.prog.elem 22)) := by kernel_rfl
theorem sz22 (w : World) : (sizeOf (Tryd.prog.elem 22)).run Tryd.prog w = .ok 1 w := by kernel_rfl
/-- What the three forms of a slice's slice answer. -/
theorem Pt.run_lh (p : Pt) (i k : Nat) (hik : i ≤ k) (hk : k ≤ p.l.length) (hc : p.l.length ≤ p.c) (w : World) :
    (Instr.slice 22 (.slice p.a p.l.length p.c) (some (.int .i64 (i : Int))) (some (.int .i64 (k : Int))) none).run Tryd.prog w = .ok (.slice (p.sub i k).a (p.sub i k).l.length (p.sub i k).c) w := by
  rw [run_slice_lh w 22 p.a p.l.length p.c slice22 .i64 .i64 (i : Int) (k : Int) (by omega) (by omega) (by omega), sz22]
  show Result.ok (sliced p.a (i : Int).toNat (k : Int).toNat p.c 1) w = _
  rw [Int.toNat_natCast, Int.toNat_natCast]
  unfold sliced Pt.sub
  rw [drop_take_len _ _ _ hk, Nat.mul_one]
theorem Pt.run_h (p : Pt) (k : Nat) (hk : k ≤ p.l.length) (hc : p.l.length ≤ p.c) (w : World) :
    (Instr.slice 22 (.slice p.a p.l.length p.c) none (some (.int .i64 (k : Int))) none).run Tryd.prog w = .ok (.slice (p.sub 0 k).a (p.sub 0 k).l.length (p.sub 0 k).c) w := by
  rw [run_slice_h w 22 p.a p.l.length p.c slice22 .i64 (k : Int) (by omega) (by omega), sz22]
  show Result.ok (sliced p.a 0 (k : Int).toNat p.c 1) w = _
  rw [Int.toNat_natCast]
  unfold sliced Pt.sub
  rw [drop_take_len _ _ _ hk, Nat.mul_one]
theorem Pt.run_l (p : Pt) (i : Nat) (hi : i ≤ p.l.length) (_hc : p.l.length ≤ p.c) (w : World) :
    (Instr.slice 22 (.slice p.a p.l.length p.c) (some (.int .i64 (i : Int))) none none).run Tryd.prog w = .ok (.slice (p.sub i p.l.length).a (p.sub i p.l.length).l.length (p.sub i p.l.length).c) w := by
  rw [run_slice_l w 22 p.a p.l.length p.c slice22 .i64 (i : Int) (by omega) (by omega), sz22]
  show Result.ok (sliced p.a (i : Int).toNat p.l.length p.c 1) w = _
  rw [Int.toNat_natCast]
  unfold sliced Pt.sub
  rw [drop_take_len _ _ _ (Nat.le_refl _), Nat.mul_one]
theorem parts3 (l : List UInt8) (i k : Nat) (hik : i ≤ k) (_hk : k ≤ l.length) : [(l.take i).drop 0, (l.take k).drop i, (l.take l.length).drop k].flatten = l := by
  rw [List.take_length]
  simp only [List.flatten_cons, List.flatten_nil, List.append_nil, List.drop_zero]
  rw [← List.append_assoc]
  conv => rhs; rw [← List.take_append_drop k l]
  congr 1
  conv => rhs; rw [← List.take_append_drop i (l.take k), List.take_take, Nat.min_eq_left hik]
end Go.Proofs.YtjkhokholcchfaaDoor
end
section
/- Calls of Of and Keyed whose parts lie in a literal that was laid at some time before. -/
namespace Go.Proofs.YtjkhokholcchfaaDoor
open Go.RowKit Sha

def cellsAt (X : World) (g : Nat) (vs : List Value) : Prop := ∀ j v, vs[j]? = some v → X.cell? ⟨g, j, none⟩ = some v
theorem cellsAt.new (w : World) (cs : Array Value) (g : Nat) (t : TypeId) (vs : List Value) (hg : g = w.heap.size) (h : vs = cs.toList) : cellsAt (w.alloc (.cells cs t (0, 0))) g vs := by
  subst hg h
  intro j v hj
  have hb : blockIs (w.alloc (.cells cs t (0, 0))) w.heap.size cs.toList t := by
    have := blockIs.new w cs.toList t
    rwa [Array.toArray_toList] at this
  rw [hb.cell]
  exact hj
theorem cellsAt.keep {X w' : World} {g : Nat} {vs : List Value} (h : cellsAt X g vs) (hb : Below X.heap.size X w') : cellsAt w' g vs := fun j v hj => (hb.cell (p := ⟨g, j, none⟩) (block_lt_of_cell (h j v hj))).trans (h j v hj)
theorem cellsAt.old {w : World} {g : Nat} {vs : List Value} (h : cellsAt w g vs) (o : Obj) : cellsAt (w.alloc o) g vs := h.keep (alloc_below w o)
theorem cellsAt.parts {W X : World} {g : Nat} {ps : List Pt} (h : cellsAt X g (ps.map Pt.val)) (hX : Below W.heap.size W X) (hp : ∀ p ∈ ps, p.ok W) : partsIn X (some ⟨g, 0, none⟩) (ps.map Pt.l) := by
  refine Or.inr ⟨_, _, rfl, fun j hj => ?_⟩
  rw [List.length_map] at hj
  obtain ⟨h1, h2, h3⟩ := hp ps[j] (List.getElem_mem hj)
  have e : (ps.map Pt.l).getD j [] = ps[j].l := by simp [hj]
  rw [e]
  refine ⟨ps[j].a, ps[j].c, ?_, h1, h2, h3.below hX⟩
  rw [Nat.zero_add]
  exact h j _ (by simp [hj, Pt.val])
theorem of_at (W : World) (ps : List Pt) (vs : List Value) (hvs : vs = ps.map Pt.val) (hW : tables W) (hp : ∀ p ∈ ps, p.ok W) (L : List UInt8) (hL : (ps.map Pt.l).flatten = L) (hm : L.length ≤ 1000000) (n : Nat) (hn : n = ps.length) (hn2 : n ≤ 1000000) (X : World) (g : Nat) (hX : Below W.heap.size W X) (hc : cellsAt X g vs) :
    Calls Tryd.prog 54 #[.slice (some ⟨g, 0, none⟩) n n] X fun e w' => e = .returned (.agg (byteCells (sha L)).toArray) ∧ Below W.heap.size W w' ∧ Below X.heap.size X w' := by
  subst hvs hn hL
  have := of_any ps.length (some ⟨g, 0, none⟩) (ps.map Pt.l) X (by simpa using hn2) (by simp) hm (hW.below hX hW.2.2.1 hW.2.2.2) (hc.parts hX hp)
  rw [List.length_map] at this
  exact this.mono fun e w' ⟨h1, h2⟩ => ⟨h1, hX.trans (h2.mono hX.size), h2⟩
theorem kf_at (W : World) (ps : List Pt) (vs : List Value) (hvs : vs = ps.map Pt.val) (hW : tables W) (hp : ∀ p ∈ ps, p.ok W) (L : List UInt8) (hL : (ps.map Pt.l).flatten = L) (hm : L.length ≤ 900000) (n : Nat) (hn : n = ps.length) (hn2 : n ≤ 1000000) (k : Pt) (hk : k.ok W) (hkl : k.l.length ≤ 900000) (X : World) (g : Nat) (hX : Below W.heap.size W X) (hc : cellsAt X g vs) :
    Calls Tryd.prog 49 #[.slice k.a k.l.length k.c, .slice (some ⟨g, 0, none⟩) n n] X fun e w' => e = .returned (.agg (byteCells (hmac k.l L)).toArray) ∧ Below W.heap.size W w' ∧ Below X.heap.size X w' := by
  subst hvs hn hL
  have := kf_any k.a (some ⟨g, 0, none⟩) k.c ps.length k.l (ps.map Pt.l) X hkl hk.1 hk.2.1 (hk.2.2.below hX) (by simpa using hn2) (by simp) hm (hW.below hX hW.2.2.1 hW.2.2.2) (hc.parts hX hp)
  rw [List.length_map] at this
  exact this.mono fun e w' ⟨h1, h2⟩ => ⟨h1, hX.trans (h2.mono hX.size), h2⟩
end Go.Proofs.YtjkhokholcchfaaDoor
end
section
/- sum.Stretch: a key of a word, so many steps far. -/
namespace Go.Proofs.YtjkhokholcchfaaDoor
open Go.RowKit Sha

/-- Two sums put together byte by byte. -/
def xorL (a b : List UInt8) : List UInt8 := (List.range 32).map fun i => a.getD i 0 ^^^ b.getD i 0
theorem xorL_length (a b : List UInt8) : (xorL a b).length = 32 := by simp [xorL]
theorem xorL_comm (a b : List UInt8) : xorL a b = xorL b a := by
  unfold xorL
  exact List.map_congr_left fun i _ => UInt8.xor_comm _ _
/-- A word, stretched n steps far. -/
def stretch (K s : List UInt8) : Nat → List UInt8
  | 0 => hmac K s
  | n + 1 => xorL (stretch K s n) (hmac K (stretch K s n))
theorem stretch_zero (K s : List UInt8) : stretch K s 0 = hmac K s := by rw [stretch]
theorem stretch_succ (K s : List UInt8) (n : Nat) : stretch K s (n + 1) = xorL (stretch K s n) (hmac K (stretch K s n)) := by rw [stretch]
theorem stretch_length (K s : List UInt8) (n : Nat) : (stretch K s n).length = 32 := by
  cases n with
  | zero => rw [stretch_zero]; exact hmac_length K s
  | succ n => rw [stretch_succ]; exact xorL_length _ _
def mixF (X M : List UInt8) (k j : Nat) : UInt8 := if j < k then X.getD j 0 ^^^ M.getD j 0 else X.getD j 0
theorem range_of {w : World} {g : Nat} {cs : List Value} {t : TypeId} (hg : blockIs w g cs t) : w.rangeAt g 0 cs := by
  intro j v hj
  rw [Nat.zero_add, hg.cell]
  exact hj
theorem mixF_zero (X M : List UInt8) (h : X.length = 32) : cells8 (mixF X M 0) 32 = byteCells X := by
  apply List.ext_getElem?
  intro i
  by_cases hi : i < 32
  · rw [cells8_get _ _ _ hi, byteCells_get _ _ (by omega)]
    rfl
  · rw [List.getElem?_eq_none (by rw [cells8_length]; omega), List.getElem?_eq_none (by rw [byteCells_length]; omega)]
theorem mixF_succ (X M : List UInt8) (k : Nat) (h : k < 32) : (cells8 (mixF X M k) 32).set k (.int .u8 (V (X.getD k 0 ^^^ M.getD k 0))) = cells8 (mixF X M (k + 1)) 32 := by
  rw [cells8_set _ _ _ h]
  congr 1
  funext j
  unfold mixF
  by_cases e : j = k
  · rw [if_pos e, if_pos (by omega), e]
  · rw [if_neg e]
    by_cases h2 : j < k
    · rw [if_pos h2, if_pos (by omega)]
    · rw [if_neg h2, if_neg (by omega)]
theorem mixF_all (X M : List UInt8) : cells8 (mixF X M 32) 32 = byteCells (xorL X M) := by
  unfold cells8 byteCells xorL
  rw [List.map_map]
  apply List.map_congr_left
  intro j hj
  have := List.mem_range.1 hj
  simp [mixF, this]
attribute [local go_sem] V_xor

set_option maxRecDepth 100000 in
set_option maxHeartbeats 2000000 in
theorem stretch_any (a a2 : Option Addr) (c c2 : Nat) (K S0 : List UInt8) (z : Int) (w : World) (hKm : K.length ≤ 800000) (hKc : K.length ≤ c) (hcm : c ≤ 9223372036854775807) (hin : bytesIn w a K)
    (hSm : S0.length ≤ 800000) (hSc : S0.length ≤ c2) (hcm2 : c2 ≤ 9223372036854775807) (hin2 : bytesIn w a2 S0) (hz : z ≤ 100000) (ht : tables w) :
    Calls Tryd.prog 48 #[.slice a K.length c, .slice a2 S0.length c2, .int .i64 z] w fun e w' => e = .returned (.agg (byteCells (stretch K S0 z.toNat)).toArray) ∧ Below w.heap.size w w' := by
  have hz28 := zero28
  have hz54 := zero54
  have D0 : Hid (blockIs (w.alloc (.cells (zeros 32).toArray 34 (0, 0))) w.heap.size (zeros 32) 34) := Lib.hid (blockIs.new w _ _)
  have hbb := alloc_below w (.cells (zeros 32).toArray 34 (0, 0))
  have B0 := Lib.hid hbb
  have S1 : Hid (w.heap.size + 1 = (w.alloc (.cells (zeros 32).toArray 34 (0, 0))).heap.size) := Lib.hid (by simp)
  have H1 := Lib.hid (hin.below hbb)
  have H2 := Lib.hid (hin2.below hbb)
  have HT := Lib.hid ht
  have HT1 := Lib.hid (ht.below hbb ht.2.2.1 ht.2.2.2)
  clear hin hin2 ht hbb
  go_enter Tryd.func48, Tryd.ntmps48
  go_wp2_with fail
  generalize w.alloc (.cells (zeros 32).toArray 34 (0, 0)) = w1 at *
  with_reducible refine (ready_any a c K w1 (by omega) hKc hcm H1.out HT1.out).mono ?_
  rintro e w2 ⟨si, so, h1, h2, rfl, h3⟩
  have Z1 := Lib.hid h1
  have Z2 := Lib.hid h2
  have Z3 := Lib.hid h3
  clear h1 h2 h3
  have hks : ∀ x, (padKey (shortKey K) x).length = 64 := fun x => by simp [padKey]
  have hlen : (runCells (regAfter (padKey (shortKey K) 0x36)) si 64 ++ runCells (regAfter (padKey (shortKey K) 0x5c)) so 64).length = 146 := by
    rw [List.length_append, runCells_length _ _ _ Z1.out, runCells_length _ _ _ Z2.out]
  have hone : ∀ v ∈ runCells (regAfter (padKey (shortKey K) 0x36)) si 64 ++ runCells (regAfter (padKey (shortKey K) 0x5c)) so 64, v.oneCell' = true := fun v hv => by
    rcases List.mem_append.1 hv with h | h
    · exact runCells_one _ _ _ v h
    · exact runCells_one _ _ _ v h
  have HK : Hid (∀ (X : World) (c2 : Nat) (a2 : Option Addr) (ls : List (List UInt8)), tables X → ls.length ≤ 1000000 → ls.length ≤ c2 → ls.flatten.length ≤ 900000 → partsIn X a2 ls →
      Calls Tryd.prog 67 #[.agg (runCells (regAfter (padKey (shortKey K) 0x36)) si 64 ++ runCells (regAfter (padKey (shortKey K) 0x5c)) so 64).toArray, .slice a2 ls.length c2] X fun e w' => e = .returned (.agg (byteCells (hmac K ls.flatten)).toArray) ∧ Below X.heap.size X w') :=
    Lib.hid fun X c2 a2 ls hX h1 h2 h3 h4 => keyed_any c2 a2 ls (padKey (shortKey K) 0x36) (padKey (shortKey K) 0x5c) si so X (hks _) (hks _) Z1.out Z2.out h1 h2 h3 hX h4
  have HL := Lib.hid hlen
  have HO := Lib.hid hone
  clear hks hlen hone
  generalize runCells (regAfter (padKey (shortKey K) 0x36)) si 64 ++ runCells (regAfter (padKey (shortKey K) 0x5c)) so 64 = C at *
  have N1 := Lib.hid (blockIs.new w2 zeroTwo 134)
  go_wp2_with (refine wpList_store_block rfl 134 _ _ rfl w2.heap.size 0 C rfl rfl zeroTwo 134 N1.out (by rw [info54, HL.out]) (by rw [HL.out, len_two.2.2.2]; omega) HO.out ?_)
  intro w3 h1 h2 h3
  have h1 := h1.out
  rw [splice_all _ _ (by rw [HL.out, len_two.2.2.2])] at h1
  have hsz1 := S1.out
  have hsz2 := Z3.out.size
  have G1 := Lib.hid h1
  have G2 : Hid (Below w1.heap.size w1 w3) := Lib.hid ((Z3.out.alloc Z3.out.size _).trans (h2.out.below hsz2 (by simp; omega)))
  have G3 := Lib.hid (B0.out.trans (G2.out.mono (by omega)))
  have G4 := Lib.hid (HT.out.below G3.out HT.out.2.2.1 HT.out.2.2.2)
  have G5 := Lib.hid (D0.out.below G2.out (by omega))
  have G6 := Lib.hid (H2.out.below G2.out)
  have G7 : Hid (w.heap.size < w2.heap.size ∧ w3.heap.size = w2.heap.size + 1) := Lib.hid ⟨by omega, h3.out⟩
  clear h1 h2 h3 N1 B0 D0 H1 H2 HT1 Z1 Z2 Z3 hsz1 hsz2 S1 G2 hz54
  have R1 : Hid (w3.rangeAt w2.heap.size 0 C) := Lib.hid (range_of G1.out)
  go_wp2_with (refine wpList_load_mid rfl 134 _ rfl w2.heap.size 0 rfl C _ R1.out Tryd.underlying134 rfl (by rw [info54, HL.out]) ?_)
  have hlit := parts_lit w3 [⟨a2, c2, S0⟩] (by simp only [List.mem_singleton]; rintro p rfl; exact ⟨hSc, hcm2, G6.out⟩) #[.slice a2 S0.length c2] rfl
  have ha3 := alloc_below w3 (.cells #[.slice a2 S0.length c2] 22 (0, 0))
  have hk := HK.out _ 1 _ _ (HT.out.below (G3.out.trans (ha3.mono G3.out.size)) HT.out.2.2.1 HT.out.2.2.2) (by simp) (by simp) (by simp; omega) hlit
  rw [show [(⟨a2, c2, S0⟩ : Pt)].map Pt.l = [S0] from rfl, show [S0].flatten = S0 by simp, show [S0].length = 1 from rfl] at hk
  have HKS := Lib.hid hk
  have A3 := Lib.hid ha3
  clear hk ha3 hlit
  go_wp2_with fail
  with_reducible refine HKS.out.mono ?_
  rintro e w4 ⟨rfl, h4⟩
  have hX : Hid ((hmac K S0).length = 32) := Lib.hid (hmac_length K S0)
  have T2 : Hid (Below w3.heap.size w3 w4) := Lib.hid (A3.out.trans (h4.mono (by simp)))
  have N4 := Lib.hid (blockIs.new w4 (zeros 32) 34)
  clear h4 HKS A3
  rw [← stretch_zero] at hX ⊢
  generalize hX0 : stretch K S0 0 = X0 at *
  have HX0 := Lib.hid hX0
  clear hX0
  go_wp2_with (refine wpList_store_block rfl 34 _ _ rfl w4.heap.size 0 (byteCells X0) rfl rfl (zeros 32) 34 N4.out (by rw [info28, byteCells_length, hX.out]) (by simp [zeros, byteCells_length, hX.out]) (byteCells_one _) ?_)
  intro w5 h1 h2 h3
  have h1 := h1.out
  rw [splice_all _ _ (by simp [zeros, byteCells_length, hX.out]), ← HX0.out] at h1
  have hsz := T2.out.size
  have hg7 := G7.out
  have hw3 := G3.out.size
  have U0 : Below w3.heap.size w3 w5 := (T2.out.alloc T2.out.size _).trans (h2.out.below hsz (by simp; omega))
  have U1 := Lib.hid h1
  have U2 := Lib.hid (G3.out.trans (U0.mono hw3))
  have U3 := Lib.hid (G1.out.below U0 (by omega))
  have U4 := Lib.hid (G5.out.below U0 (by omega))
  have U5 : Hid (w2.heap.size < w4.heap.size ∧ w4.heap.size < w5.heap.size ∧ w.heap.size < w2.heap.size) := Lib.hid ⟨by omega, U1.out.lt, hg7.1⟩
  clear h1 h2 h3 U0 hsz hg7 hw3 N4 T2 hX G1 G3 G4 G5 G6 G7 R1 hz28 hSm hSc hcm2
  generalize w2.heap.size = kb at *
  generalize w4.heap.size = xb at *
  have m1 : min z 100000 = z := by omega
  go_wp2_with fail
  go_loopw [19] (fun i wr => ∃ j : Nat, (j : Int) ≤ max z 0 ∧ i = .int .i64 (j : Int) ∧ Hid (blockIs wr xb (byteCells (stretch K S0 j)) 34) ∧ Hid (blockIs wr kb C 134) ∧ Hid (blockIs wr w.heap.size (zeros 32) 34) ∧ Hid (Below w.heap.size w wr) ∧ Hid (xb < wr.heap.size)) (fun i _ => (z - intOf i).toNat)
  case atStart => exact ⟨0, by omega, rfl, U1, U3, U4, U2, Lib.hid U5.out.2.1⟩
  case round =>
    clear U1 U3 U4 U2
    obtain ⟨j, hj, rfl, U1, U3, U4, U2, U6⟩ := hrel
    by_cases hlt : (j : Int) < z
    · have R1 : Hid (wr.rangeAt kb 0 C) := Lib.hid (range_of U3.out)
      have HX : Hid ((stretch K S0 j).length = 32) := Lib.hid (stretch_length K S0 j)
      have hXs : Hid (xorL (stretch K S0 j) (hmac K (stretch K S0 j)) = stretch K S0 (j + 1)) := Lib.hid (stretch_succ K S0 j).symm
      generalize stretch K S0 j = X at *
      have HM : Hid ((hmac K X).length = 32) := Lib.hid (hmac_length K X)
      have PK : Hid (∀ Y : World, Below wr.heap.size wr Y → Calls Tryd.prog 67 #[.agg C.toArray, .slice (some ⟨Y.heap.size, 0, none⟩) 1 1] (Y.alloc (.cells #[.slice (some ⟨xb, 0, none⟩) 32 32] 22 (0, 0))) fun e w' => e = .returned (.agg (byteCells (hmac K X)).toArray) ∧ Below wr.heap.size wr w') := Lib.hid (fun Y hY => by
        have hb1 : Below wr.heap.size wr (Y.alloc (.cells #[.slice (some ⟨xb, 0, none⟩) 32 32] 22 (0, 0))) := below_alloc' hY _
        have hin : bytesIn Y (some ⟨xb, 0, none⟩) X := by
          refine Or.inr ⟨_, _, rfl, fun i hi => ?_⟩
          rw [Nat.zero_add, (U1.out.below hY U6.out).cell]
          exact byteCells_get _ _ hi
        have hlit := parts_lit Y [⟨some ⟨xb, 0, none⟩, 32, X⟩] (by simp only [List.mem_singleton]; rintro p rfl; exact ⟨by show X.length ≤ 32; rw [HX.out]; exact Nat.le_refl _, by show (32 : Nat) ≤ 9223372036854775807; omega, hin⟩) #[.slice (some ⟨xb, 0, none⟩) 32 32] (by show _ = (#[Value.slice (some ⟨xb, 0, none⟩) X.length 32] : Array Value); rw [HX.out])
        have hk := HK.out _ 1 _ _ (HT.out.below (U2.out.trans (hb1.mono U2.out.size)) HT.out.2.2.1 HT.out.2.2.2) (by simp) (by simp) (by have := HX.out; simp; omega) hlit
        rw [show [(⟨some ⟨xb, 0, none⟩, 32, X⟩ : Pt)].map Pt.l = [X] from rfl, show [X].flatten = X by simp, show [X].length = 1 from rfl] at hk
        exact hk.mono fun e w' ⟨h1, h2⟩ => ⟨h1, hb1.trans (h2.mono hb1.size)⟩)
      generalize hmac K X = M at *
      have BB := Below.refl wr.heap.size wr
      go_wp2_with fail
      refine wp_region_noPanic ?_
      refine wp_region_held_drew (S := fun w' => Below wr.heap.size wr w') (by kernel_rfl) (below_drew' BB) (fun hH => ?_)
      refine wpAnyH_take (i := 0) (oi := { dst := some 21, op := Op.load 134 (Operand.tmp 7), type := 134, pos := "sum.go:76", after := #[], guard := none }) (v := .agg C.toArray) rfl (by kernel_rfl) (by kernel_rfl) (by kernel_rfl) (fun _ _ _ h => h) (yieldsIf_load_mid (by rfl) 134 _ rfl kb 0 rfl C _ (fun wx hx => range_of (U3.out.below hx U3.out.lt)) Tryd.underlying134 rfl (by rw [info54, HL.out])) hH ?_
      simp only [Act.put, List.setIfInBounds_toArray, List.set_cons_zero, List.set_cons_succ]
      refine wpAnyH_take (i := 1) (oi := { dst := some 22, op := Op.slice 34 (Operand.tmp 8) none none none, type := 22, pos := "sum.go:76", after := #[], guard := none }) (v := .slice (some ⟨xb, 0, none⟩) 32 32) rfl (by kernel_rfl) (by kernel_rfl) (by kernel_rfl) (fun _ _ _ h => h) (Or.inl ⟨by rfl, fun wx _ => ?_⟩) hH ?_
      · go_simp
      simp only [Act.put, List.setIfInBounds_toArray, List.set_cons_zero, List.set_cons_succ]
      refine wpAnyH_take (i := 4) (oi := { dst := some 25, op := Op.move (Operand.const (Value.int IntKind.i64 0)), type := 3, pos := "sum.go:76", after := #[], guard := none }) (v := .int .i64 0) rfl (by kernel_rfl) (by kernel_rfl) (by kernel_rfl) (fun _ _ _ h => h) (Or.inl ⟨by rfl, fun wx _ => ?_⟩) hH ?_
      · go_simp
      simp only [Act.put, List.setIfInBounds_toArray, List.set_cons_zero, List.set_cons_succ]
      refine wpAnyH_ready (rs := [2]) (by kernel_rfl) (by simp) ?_
      refine AllReadyH.cons (o := { dst := some 23, op := Op.buildSlice 54 1 #[(0, Operand.tmp 22)], type := 54, pos := "sum.go:76", after := #[{ on := 1, ground := Ground.data }], guard := none }) rfl (fun KK hKK => ?_) AllReadyH.nil
      go_simp
      refine hKK.out _ _ (below_alloc' hH _) (fun hH2 => ?_)
      clear hKK KK
      try simp only [Act.put, List.setIfInBounds_toArray, List.set_cons_zero, List.set_cons_succ]
      refine wpAnyH_ready (rs := [3]) (by kernel_rfl) (by simp) ?_
      refine AllReadyH.cons (o := { dst := some 24, op := Op.call { callee := Callee.value (Operand.func 67), args := #[Operand.tmp 21, Operand.tmp 23], argTypes := #[134, 54] }, type := 34, pos := "sum.go:76", after := #[{ on := 0, ground := Ground.data }, { on := 2, ground := Ground.data }], guard := none }) rfl (fun KK hKK => ?_) AllReadyH.nil
      go_simp
      refine (PK.out wr.drew hH).mono ?_
      rintro e w6 ⟨rfl, k6⟩
      refine hKK.out _ _ k6 (fun _ => ?_)
      clear hKK KK hH2 hH
      refine wpAnyH_done (by kernel_rfl) ?_ _
      refine NoPanic.normal ?_
      have K6 := Lib.hid k6
      have E2 := Lib.hid (U2.out.trans (K6.out.mono U2.out.size))
      have E3 := Lib.hid (U3.out.below K6.out U3.out.lt)
      have E4 := Lib.hid (U4.out.below K6.out U4.out.lt)
      clear PK BB k6
      have V1 : Hid (blockIs w6 xb (cells8 (mixF X M 0) 32) 34) := Lib.hid (by rw [mixF_zero _ _ HX.out]; exact U1.out.below K6.out U6.out)
      go_wp2_with fail
      go_loopw [25, 9, 10] (fun i _ _ wy => ∃ k : Nat, k ≤ 32 ∧ i = .int .i64 (k : Int) ∧ blockIs wy xb (cells8 (mixF X M k) 32) 34 ∧ But xb w6 wy) (fun i _ _ _ => 32 - (intOf i).toNat)
      case atStart => exact ⟨0, by omega, rfl, V1.out, But.refl _ _⟩
      case round =>
        clear V1
        obtain ⟨k, hk, rfl, h1, h2⟩ := hrel
        by_cases hlt2 : k < 32
        · have c1 : wr.cell? ⟨xb, k, none⟩ = some (.int .u8 (V (X.getD k 0))) := by
            rw [h1.cell, cells8_get _ _ _ hlt2]; unfold mixF; rw [if_neg (by omega)]
          have c2 : wr.frozen? ⟨xb, k, none⟩ = false := h1.free _
          have ix : ∀ wx, (Instr.index 34 (.agg (byteCells M).toArray) (.int .i64 (k : Int))).run Tryd.prog wx = .ok (.int .u8 (V (M.getD k 0))) wx :=
            fun wx => run_index_agg Tryd.underlying34 (by kernel_rfl) (by kernel_rfl) (by kernel_rfl) hlt2 (by rw [List.getElem?_toArray]; exact byteCells_get _ _ (by rw [HM.out]; omega)) wx
          have n1 := h1.set k (.int .u8 (V (X.getD k 0 ^^^ M.getD k 0)))
          rw [mixF_succ _ _ _ hlt2] at n1
          have NN1 := Lib.hid n1
          have H2 := Lib.hid h2
          clear h1 h2 n1
          have p : 0 ≤ (k : Int) := by omega
          have q : (k : Int) < 32 := by omega
          generalize X.getD k 0 = xk at *
          generalize M.getD k 0 = mk at *
          go_wp2_with fail
          go_roundw
          case rel => exact ⟨k + 1, by omega, by go_num, NN1.out, H2.out.setCell _ _ (Or.inl rfl)⟩
          case measure => simp [intOf]; omega
        · obtain rfl : k = 32 := by omega
          rw [show ((32 : Nat) : Int) = 32 from rfl]
          rw [mixF_all, hXs.out] at h1
          have hu := U5.out
          have F1 := Lib.hid h1
          have F2 : Hid (Below w.heap.size w wr) := Lib.hid (E2.out.trans (h2.below (by omega) E2.out.size))
          have F3 := Lib.hid (h2.is E3.out (by omega))
          have F4 := Lib.hid (h2.is E4.out (by omega))
          have F5 := Lib.hid h1.lt
          clear h1 h2 hu E2 E3 E4 K6
          go_wp2_with fail
          go_roundw
          case rel => exact ⟨j + 1, by omega, by go_num, F1, F3, F4, F2, F5⟩
          case measure => simp [intOf]; omega
    · have hjz : j = z.toNat := by omega
      have HX : Hid ((stretch K S0 j).length = 32) := Lib.hid (stretch_length K S0 j)
      have M1 := Lib.hid (range_of U1.out)
      have HJ : Hid (stretch K S0 j = stretch K S0 z.toNat) := Lib.hid (by rw [hjz])
      clear hjz
      generalize stretch K S0 j = M at *
      go_wp2_with (first | (refine wpList_load_mid rfl 34 _ rfl xb 0 rfl (byteCells M) _ M1.out Tryd.underlying34 rfl (by rw [info28, byteCells_length, HX.out]) ?_) | (refine wpList_store_block rfl 34 _ _ rfl w.heap.size 0 (byteCells M) rfl rfl (zeros 32) 34 U4.out (by rw [info28, byteCells_length, HX.out]) (by simp [zeros, byteCells_length, HX.out]) (byteCells_one _) ?_))
      intro w7 h1 h2 h3
      have h1 := h1.out
      rw [splice_all _ _ (by simp [zeros, byteCells_length, HX.out])] at h1
      have P1 := Lib.hid h1
      have P2 := Lib.hid (U2.out.trans (h2.out.below (Nat.le_refl _) U2.out.size))
      clear h1 h2 h3
      go_wp2_with fail
      refine bodyPost_ret (v := .agg (byteCells M).toArray) (results_cell_row rfl _ _ w.heap.size 34 _ (0, 0) _ rfl P1.out Tryd.underlying34 rfl (by rw [info28]; simp [byteCells_length, HX.out])) rfl ?_
      exact ⟨by rw [HJ.out], P2.out⟩
end Go.Proofs.YtjkhokholcchfaaDoor
end
