/- Rows of bytes of the call's own; arguments, read. -/
import Derived.Test.YtaohbpmefcdipaaDoorCtDoc
import Derived.Laws.AppendOwnNone
import Derived.Carry
import Derived.SizedLaws
import Derived.ProofKit
import Derived.OpenShut
namespace Go.Proofs.YtaohbpmefcdipaaDoor.Ct
open Go.RowKit

/-- Bytes as cells. -/
def bvals (l : List UInt8) : List Value := l.map fun x => .int .u8 (V x)
theorem bvals_append (l m : List UInt8) : bvals (l ++ m) = bvals l ++ bvals m := by simp [bvals]
theorem bvals_length (l : List UInt8) : (bvals l).length = l.length := by simp [bvals]
theorem info_u8 : (Tryd.prog.info? 5).map (fun i => (i.zero, i.size, i.bytes)) = some (some (.int .u8 0), 1, 1) := by kernel_rfl
/-- A row of bytes of the call's own. -/
def rowIs (w : World) (base : Nat) (v : Value) (l : List UInt8) : Prop := w.ownsRow base 5 1 v l.length (bvals l)
theorem rowIs.bytes {w : World} {base : Nat} {v : Value} {l : List UInt8} (h : rowIs w base v l) : ∃ a c, v = .slice a l.length c ∧ l.length ≤ c ∧ bytesIn w a l ∧ (a = none → c = 0) := by
  rcases h.2 with ⟨rfl, h0⟩ | ⟨g, cap, cur, rfl, hb, hh, hn, hc, hs, ht⟩
  · have : l = [] := List.eq_nil_of_length_eq_zero h0
    subst this
    exact ⟨none, 0, rfl, Nat.le_refl _, Or.inl rfl, fun _ => rfl⟩
  · refine ⟨some ⟨g, 0, none⟩, cap, rfl, hn, Or.inr ⟨g, 0, rfl, fun j hj => ?_⟩, fun h => by cases h⟩
    rw [Nat.zero_add, World.ownsRow.cellAt h j (by omega)]
    simp [bvals, hj]
theorem rowIs.below {w w' : World} {base : Nat} {v : Value} {l : List UInt8} (h : rowIs w base v l) {B : Nat} (hb : Below B w w') (hB : w.heap.size ≤ B) : rowIs w' base v l := by
  have hg : w.grownBy w' none := ⟨hb.os, hb.tape, hb.output, hb.size, fun k hk _ => hb.block k (by omega)⟩
  refine World.ownsRow.kept h hg ?_
  cases v.ownBlock with
  | none => exact Or.inl rfl
  | some g => exact Or.inr (by simp)
theorem rowIs.lit (w : World) (base : Nat) (l : List UInt8) (cs : Array Value) (hcs : cs = (bvals l).toArray) (n : Nat) (hn : n = l.length) (hb : base ≤ w.heap.size) (hl : l.length ≤ 1000000) : rowIs (w.alloc (.cells cs 5)) base (.slice (some ⟨w.heap.size, 0, none⟩) n n) l := by
  subst hcs hn
  have := World.ownsRow_lit (base := base) (e := 5) (size := 1) w (bvals l).toArray l.length hb (by unfold maxLen; omega) (by simp [bvals])
  simpa [rowIs] using this
/-- Bytes put behind a row of the call's own. -/
theorem append_bytes {w : World} {ops : Array Oper} {rest : List Oper} {o : Oper} {a : Act} {Q : Exit → Act → World → Prop} (hgd : o.guard = none) (s x : Operand)
    (ho : o.op = .call { callee := .builtin .append, args := #[s, x], argTypes := #[22, 22] })
    (base : Nat) (v : Value) (xs : List UInt8) (hs : a.eval s = v) (hown : rowIs w base v xs) (A : Option Addr) (n c : Nat) (l : List UInt8) (hnl : n = l.length) (hx : a.eval x = .slice A n c)
    (hz : A = none → c = 0) (hb : bytesIn w A l) (hn : xs.length + l.length ≤ 1000000) (hbase : base ≤ w.heap.size)
    (h : ∀ v' w', rowIs w' base v' (xs ++ l) → w.grownBy w' v.ownBlock → wpList Tryd.prog ops Q rest (a.put o.dst v') w') : wpList Tryd.prog ops Q (o :: rest) a w := by
  subst hnl
  obtain ⟨i0, hi, hz0, hz1, hz2⟩ := info_parts info_u8
  cases A with
  | none =>
    have hl : l = [] := by
      rcases hb with h0 | ⟨b, o', h1, _⟩
      · exact h0
      · cases h1
    subst hl
    obtain rfl := hz rfl
    exact wpList_append_own_none hgd s x 22 ho base 5 i0 1 Tryd.underlying22 hi v _ _ hs hown hx (h v w (by simpa using hown) (World.grownBy.refl w _))
  | some ad =>
    refine wpList_append_own w hgd s x 22 ho base 5 i0 (.int .u8 0) 1 1 Tryd.underlying22 hi hz0 hz1 hz2 rfl (by decide) v _ _ hs hown ad l.length c (bvals l) hx (by simp [bvals]) ?_ ?_ ?_ ?_ hbase ?_
    · intro j u hj
      have hjn : j < l.length := by
        have := (List.getElem?_eq_some_iff.1 hj).1
        simpa [bvals] using this
      rcases hb with h0 | ⟨b, o', h1, hc⟩
      · rw [h0] at hjn; simp at hjn
      · cases h1
        rw [Addr.add_lit, hc j hjn, ← hj]
        simp [bvals, hjn]
    · intro u hu
      obtain ⟨q, _, rfl⟩ := List.mem_map.1 hu
      rfl
    · unfold maxLen; omega
    · omega
    · intro v' w' h1 h2 _
      refine h v' w' ?_ h2
      unfold rowIs
      rw [List.length_append, bvals_append]
      exact h1
theorem bytesIn.take {w : World} {a : Option Addr} {l : List UInt8} (h : bytesIn w a l) (n : Nat) : bytesIn w a (l.take n) := by
  rcases h with rfl | ⟨pb, po, h1, h2⟩
  · left; simp
  · right
    refine ⟨pb, po, h1, fun j hj => ?_⟩
    rw [List.length_take] at hj
    rw [h2 j (by omega), List.getD_eq_getElem?_getD, List.getD_eq_getElem?_getD, List.getElem?_take, if_pos (by omega)]

/- Arguments. -/
open Go.ChangeShapes Go.WideShapes Go.ChangeAt
theorem own : ownKnob Tryd.prog.godebug = none := by kernel_rfl
theorem laidOut : laidOutB Tryd.prog = true := by kernel_rfl
theorem cells_u8 : Tryd.prog.cellsOf 5 = 1 := by kernel_rfl
theorem word_of (a : Int) (h : (Lit.int .u64 a).wf = true) : ∃ x : W, a = U x := by
  have h' : 0 ≤ a ∧ a < 18446744073709551616 := by
    simp [Lit.wf, IntKind.min, IntKind.max, IntKind.signed, IntKind.bits] at h
    omega
  exact ⟨BitVec.ofNat 64 a.toNat, by rw [U_of _ (by omega)]; omega⟩
/-- Numbers that are bytes, as bytes. -/
def toBytes (zs : List Int) : List UInt8 := zs.map fun n => UInt8.ofNat n.toNat
theorem toBytes_get {zs : List Int} (hw : ∀ n ∈ zs, (Lit.int .u8 n).wf = true) (n j : Nat) (hj : j < (toBytes (zs.take n)).length) : zs.getD j 0 = V ((toBytes (zs.take n)).getD j 0) := by
  have hj2 : j < (zs.take n).length := by simpa [toBytes] using hj
  rw [List.length_take] at hj2
  have hj3 : j < zs.length := by omega
  have hb := bounds_u8 (hw zs[j] (List.getElem_mem hj3))
  have e : (toBytes (zs.take n)).getD j 0 = UInt8.ofNat (zs[j]).toNat := by
    simp [toBytes, hj3, show j < n by omega]
  rw [e]
  unfold V
  rw [UInt8.toNat_ofNat']
  simp [hj3]
  omega
section
variable {H : Type} {enc : TypeId × Value → H} {w : World} {base : Nat}
/-- A slice of bytes that came in. -/
theorem open_bytes {fuel : Nat} {v : Value} {x : DataW H × List MemPlace} (h : DataW.trod enc Tryd.prog w base (fun _ => true) true fuel 22 [v] = some x) :
    ∃ (a : Option Addr) (c : Nat) (F : List UInt8), v = .slice a F.length c ∧ F.length ≤ c ∧ bytesIn w a F ∧ (a = none → c = 0) := by
  rcases open_ints Tryd.underlying22 Tryd.underlying5 cells_u8 h with ⟨hcs, hx⟩ | ⟨a, len, cap, zs, hcs, _, hl, hm, hz, hx, hcell, hw⟩
  · obtain rfl : v = .slice none 0 0 := by simpa using hcs
    exact ⟨none, 0, [], rfl, by simp, Or.inl rfl, fun _ => rfl⟩
  · obtain rfl : v = .slice (some a) len cap := by simpa using hcs
    simp only [if_true] at hz
    have hlen : (toBytes (zs.take len)).length = len := by simp [toBytes]; omega
    refine ⟨some a, cap, toBytes (zs.take len), by rw [hlen], by omega, ?_, fun h => by cases h⟩
    by_cases h0 : len = 0
    · left
      subst h0
      simp [toBytes]
    · obtain ⟨b, off, rfl, hc⟩ := ints_at hcell (by omega)
      right
      refine ⟨b, off, rfl, fun j hj => ?_⟩
      rw [hc j (by rw [hlen] at hj; omega), toBytes_get hw len j hj]
end
end Go.Proofs.YtaohbpmefcdipaaDoor.Ct
