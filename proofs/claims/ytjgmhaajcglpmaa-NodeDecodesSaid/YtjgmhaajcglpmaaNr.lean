/- Rows of nodes in memory; checkAll. -/
import Derived.Test.YtjgmhaajcglpmaaNk
namespace Go.Proofs.Ytjgmhaajcglpmaa
open Go.RowKit

/-- Names of blobs as cells. -/
def idcells (P : List (List UInt8)) : List Value := P.flatMap bvals
/-- A slice of names of blobs. -/
def idsIn (w : World) (v : Value) (P : List (List UInt8)) : Prop := ∃ a c, v = .slice a P.length c ∧ P.length ≤ c ∧ c ≤ 9223372036854775807 ∧ (a = none → c = 0) ∧ (∀ p ∈ P, p.length = 32) ∧ valsIn w a (idcells P)
theorem idsIn.below {w w' : World} {v : Value} {P : List (List UInt8)} (h : idsIn w v P) {B : Nat} (hb : Below B w w') (hB : w.heap.size ≤ B) : idsIn w' v P := by
  obtain ⟨a, c, e, h1, h2, h3, h4, h5⟩ := h
  exact ⟨a, c, e, h1, h2, h3, h4, h5.below hb hB⟩
/-- A node that may be: its numbers are numbers, its tree has 32 bytes. -/
structure Nd.Wf (n : Nd) : Prop where
  tree : n.tree.length = 32
  kind : (Lit.int .i64 n.kind).wf = true
  mode : (Lit.int .i64 n.mode).wf = true
  time : (Lit.int .i64 n.time).wf = true
  size : (Lit.int .i64 n.size).wf = true
  name : n.name.length ≤ 9223372036854775807
  target : n.target.length ≤ 9223372036854775807
  part : ∀ p ∈ n.parts, p.length = 32
/-- A node lies in block b from o on. -/
def ndIn (w : World) (b o : Nat) (n : Nd) : Prop := n.Wf ∧ ∃ pv, idsIn w pv n.parts ∧ w.rangeAt b o (n.cells pv)
theorem ndIn.lt {w : World} {b o : Nat} {n : Nd} (h : ndIn w b o n) : b < w.heap.size := by
  obtain ⟨-, pv, -, h⟩ := h
  exact block_lt_of_cell (h 0 (.string (str n.name)) rfl)
theorem range_below {w w' : World} {b o : Nat} {cs : List Value} (h : w.rangeAt b o cs) {B : Nat} (hb : Below B w w') (hB : w.heap.size ≤ B) : w'.rangeAt b o cs := by
  intro j v hj
  have := h j v hj
  exact (hb.cell (p := ⟨b, o + j, none⟩) (Nat.lt_of_lt_of_le (block_lt_of_cell this) hB)).trans this
theorem ndIn.below {w w' : World} {b o : Nat} {n : Nd} (h : ndIn w b o n) {B : Nat} (hb : Below B w w') (hB : w.heap.size ≤ B) : ndIn w' b o n := by
  obtain ⟨h0, pv, h1, h2⟩ := h
  exact ⟨h0, pv, h1.below hb hB, range_below h2 hb hB⟩
/-- A slice of nodes. -/
def rowN (w : World) (a : Option Addr) (L : List Nd) : Prop := L = [] ∨ ∃ b o, a = some ⟨b, o, none⟩ ∧ ∀ i (h : i < L.length), ndIn w b (o + i * 39) L[i]
theorem rowN.below {w w' : World} {a : Option Addr} {L : List Nd} (h : rowN w a L) {B : Nat} (hb : Below B w w') (hB : w.heap.size ≤ B) : rowN w' a L := by
  rcases h with h | ⟨b, o, e, h⟩
  · exact Or.inl h
  · exact Or.inr ⟨b, o, e, fun i hi => (h i hi).below hb hB⟩
theorem rowN.at {w : World} {a : Option Addr} {L : List Nd} (h : rowN w a L) (i : Nat) (hi : i < L.length) : ∃ b o, a = some ⟨b, o, none⟩ ∧ ndIn w b (o + i * 39) L[i] := by
  rcases h with h | ⟨b, o, e, h⟩
  · subst h; exact absurd hi (Nat.not_lt_zero i)
  · exact ⟨b, o, e, h i hi⟩
theorem ndIn.name {w : World} {b o : Nat} {n : Nd} (h : ndIn w b o n) : w.cell? ⟨b, o, none⟩ = some (.string (str n.name)) := by
  obtain ⟨-, pv, -, h⟩ := h
  exact h 0 (.string (str n.name)) rfl
theorem cells_one (n : Nd) (pv : Value) (hp : pv.oneCell' = true) : ∀ v ∈ n.cells pv, v.oneCell' = true := by
  intro v hv
  rw [Nd.cells, List.mem_append] at hv
  rcases hv with hv | hv
  · simp only [Nd.head, List.mem_cons, List.not_mem_nil, or_false] at hv
    rcases hv with rfl | rfl | rfl | rfl | rfl | rfl | rfl <;> first | rfl | exact hp
  · obtain ⟨q, -, rfl⟩ := List.mem_map.1 hv
    rfl
def zeroNd : Nd := ⟨[], 0, 0, 0, 0, [], [], noughts⟩
theorem zero_nd (w : World) : (zeroValue 33).run Try.prog w = .ok (.agg (zeroNd.cells (.slice none 0 0)).toArray) w := by kernel_rfl
theorem zero_rn (w : World) : (zeroValue 26).run Try.prog w = .ok (.agg (zeroNd.cells (.slice none 0 0)).toArray) w := by kernel_rfl
theorem info_nd : (Try.prog.info? 33).map (·.size) = some 39 := by kernel_rfl
theorem info_rn : (Try.prog.info? 26).map (·.size) = some 39 := by kernel_rfl
/-- Names rise. -/
def risesN : List Nd → Bool
  | a :: b :: l => !(Op.bytesLess b.name a.name || b.name == a.name) && risesN (b :: l)
  | _ => true
/-- The first error of any. -/
def firstE : List Nd → Int
  | [] => 0
  | n :: l => if n.check = 0 then firstE l else n.check
def checkL (L : List Nd) : Int := if 2000 < L.length then 4 else if firstE L ≠ 0 then firstE L else if risesN L then 0 else 2
theorem firstE_drop (L : List Nd) (j : Nat) (h : j < L.length) : firstE (L.drop j) = if L[j].check = 0 then firstE (L.drop (j + 1)) else L[j].check := by
  rw [List.drop_eq_getElem_cons h]
  rfl
def leN (a b : Nd) : Bool := Op.bytesLess b.name a.name || b.name == a.name
theorem risesN_drop (L : List Nd) (j : Nat) (h : j + 1 < L.length) : risesN (L.drop j) = (!leN L[j] L[j + 1] && risesN (L.drop (j + 1))) := by
  rw [List.drop_eq_getElem_cons (show j < L.length by omega), List.drop_eq_getElem_cons h]
  rfl
theorem risesN_last (L : List Nd) (j : Nat) (h : L.length ≤ j + 1) : risesN (L.drop j) = true := by
  have : (L.drop j).length ≤ 1 := by rw [List.length_drop]; omega
  match hL : L.drop j with
  | [] => rfl
  | [x] => rfl
  | x :: y :: l => rw [hL] at this; simp at this
/-- A new variable of many cells, and what it is. -/
theorem store_new {w : World} {ops : Array Oper} {rest : List Oper} {o : Oper} {a : Act} {Q : Exit → Act → World → Prop} (t : TypeId) (ht : (Try.prog.info? t).map (·.size) = some 39) (hgd : o.guard = none) (x y : Operand) (ho : o.op = .store t x y)
    (cs zs : List Value) (hx : a.eval x = .pointer (some ⟨w.heap.size, 0, none⟩)) (hy : a.eval y = .agg cs.toArray) (hc : cs.length = 39) (hz : zs.length = 39) (h1 : ∀ v ∈ cs, v.oneCell' = true)
    (h : ∀ w', Hid (blockIs w' w.heap.size cs t) → Hid (Below w.heap.size w w') → wpList Try.prog ops Q rest (a.put o.dst undef) w') : wpList Try.prog ops Q (o :: rest) a (w.alloc (.cells zs.toArray t (0, 0))) := by
  refine wpList_store_block hgd t x y ho w.heap.size 0 cs hx hy zs t (blockIs.new w zs t) (by rw [hc]; exact ht) (by omega) h1 ?_
  intro w' g1 g2 g3
  refine h w' (Lib.hid ?_) (Lib.hid ?_)
  · have := g1.out
    rw [splice_all zs cs (by omega)] at this
    exact this
  · exact ((Below.refl w.heap.size w).alloc (Nat.le_refl _) _).trans (g2.out.below (Nat.le_refl _) (by simp))
theorem block_range {w : World} {b : Nat} {cs : List Value} {t : TypeId} (h : blockIs w b cs t) : w.rangeAt b 0 cs := by
  intro j v hj
  rw [Nat.zero_add, h.cell]
  exact hj
set_option maxRecDepth 100000 in
set_option maxHeartbeats 4000000 in
theorem checkAll_any (a : Option Addr) (c : Nat) (L : List Nd) (w : World) (hl : L.length ≤ 9223372036854775807) (h : rowN w a L) :
    Calls Try.prog 32 #[.slice a L.length c] w fun e w' => e = .returned (.int .i64 (checkL L)) ∧ Below w.heap.size w w' := by
  have H := Lib.hid h
  clear h
  unfold checkL
  by_cases hbig : 2000 < L.length
  · rw [if_pos hbig]
    have hb : (2000 : Int) < (L.length : Int) := by omega
    go_enter Try.func32, Try.ntmps32
    go_wp2_with fail
    go_ret
    exact ⟨rfl, Below.refl _ _⟩
  · rw [if_neg hbig]
    have hb : ¬ (2000 : Int) < (L.length : Int) := by omega
    obtain ⟨FE, hFE⟩ : ∃ FE, FE = firstE L := ⟨_, rfl⟩
    rw [← hFE]
    have HFE := Lib.hid hFE
    clear hFE
    obtain ⟨RS, hRS⟩ : ∃ RS : Int, RS = (if FE ≠ 0 then FE else if risesN L then 0 else 2) := ⟨_, rfl⟩
    rw [← hRS]
    have HRS := Lib.hid hRS
    clear hRS
    go_enter Try.func32, Try.ntmps32
    go_wp2_with fail
    go_loopw [12] (fun i wr => ∃ j : Nat, j ≤ L.length ∧ i = .int .i64 j ∧ Hid (FE = firstE (L.drop j)) ∧ Hid (Below w.heap.size w wr)) (fun i _ => L.length - (intOf i).toNat)
    case atStart => exact ⟨0, Nat.zero_le _, rfl, Lib.hid (by rw [HFE.out]; rfl), Lib.hid (Below.refl _ _)⟩
    case round =>
      obtain ⟨j, hj, rfl, HE, HB⟩ := hrel
      have p0 : 0 ≤ (j : Int) := by omega
      by_cases hlt : j < L.length
      · have q0 : (j : Int) < (L.length : Int) := by omega
        obtain ⟨b, o, rfl, hn⟩ := (H.out.below HB.out (Nat.le_refl _)).at j hlt
        have HD := Lib.hid (firstE_drop L j hlt)
        obtain ⟨n, hnn⟩ : ∃ n, n = L[j] := ⟨_, rfl⟩
        rw [← hnn] at hn HD
        clear hnn
        obtain ⟨wf, pv, hid, hr⟩ := hn
        obtain ⟨pa, pc, rfl, -, -, -, -, -⟩ := hid
        have R1 := Lib.hid hr
        have HT := Lib.hid wf.tree
        clear hr wf
        have HCL := Lib.hid (n.cells_length (.slice pa n.parts.length pc) HT.out)
        have HC1 := Lib.hid (cells_one n (.slice pa n.parts.length pc) rfl)
        have HZ := Lib.hid (zeroNd.cells_length (.slice none 0 0) rfl)
        have hz := zero_nd
        have CK := fun w => Lib.hid (check_any n pa pc w HT.out)
        generalize n.cells (.slice pa n.parts.length pc) = cs at *
        generalize zeroNd.cells (.slice none 0 0) = zs at *
        go_wp2_with (first | (refine load_nd (by rfl) _ rfl b (o + j * 39) rfl cs R1.out HCL.out ?_) | (refine store_new 33 info_nd rfl _ _ rfl cs zs rfl rfl HCL.out HZ.out HC1.out ?_))
        intro w5 h1 h2
        have R5 := Lib.hid (block_range h1.out)
        have B5 := Lib.hid (HB.out.trans (h2.out.mono HB.out.size))
        clear h1 h2 hz HB R1
        generalize wr.heap.size = g at *
        go_wp2_with (refine load_nd (by rfl) _ rfl g 0 rfl cs R5.out HCL.out ?_)
        with_reducible refine (CK _).out.mono ?_
        rintro e w6 ⟨rfl, b6⟩
        have B6 := Lib.hid (B5.out.trans (b6.mono B5.out.size))
        clear b6 R5 B5 CK
        generalize n.check = E at *
        by_cases h0 : E = 0
        · have hb0 : (E != 0) = false := by simp [h0]
          have HN : Hid (FE = firstE (L.drop (j + 1))) := Lib.hid (by rw [HE.out, HD.out, if_pos h0])
          clear h0
          go_wp2_with fail
          go_roundw
          case rel => exact ⟨j + 1, by omega, by go_num, HN, B6⟩
          case measure => simp [intOf]; omega
        · have hb0 : (E != 0) = true := by simp [h0]
          have HN : Hid (FE = E) := Lib.hid (by rw [HE.out, HD.out, if_neg h0])
          have HNZ := Lib.hid h0
          clear h0
          go_wp2_with fail
          go_ret
          exact ⟨by rw [HRS.out, HN.out, if_pos HNZ.out]; rfl, B6.out⟩
      · obtain rfl : j = L.length := by omega
        have H0 : Hid (FE = 0) := Lib.hid (by rw [HE.out, List.drop_length]; rfl)
        have q0 : ¬ ((L.length : Int) < (L.length : Int)) := by omega
        have HR2 : Hid (RS = if risesN L then 0 else 2) := Lib.hid (by rw [HRS.out, if_neg (by rw [H0.out]; simp)])
        go_wp2_with fail
        have HB0 := HB
        clear HE HB hj p0 q0
        go_loopw [6] (fun i wr => ∃ j : Nat, 1 ≤ j ∧ (j ≤ L.length ∨ j = 1) ∧ i = .int .i64 j ∧ Hid (risesN L = risesN (L.drop (j - 1))) ∧ Hid (Below w.heap.size w wr)) (fun i _ => L.length + 1 - (intOf i).toNat)
        case atStart => exact ⟨1, by omega, Or.inr rfl, rfl, Lib.hid rfl, HB0⟩
        case round =>
          obtain ⟨j, h1, hj, rfl, HE, HB⟩ := hrel
          have p0 : 0 ≤ (j : Int) := by omega
          by_cases hlt : j < L.length
          · have q0 : (j : Int) < (L.length : Int) := by omega
            obtain ⟨m, rfl⟩ : ∃ m, j = m + 1 := ⟨j - 1, by omega⟩
            have HD := Lib.hid (risesN_drop L m hlt)
            obtain ⟨b, o, rfl, hn⟩ := (H.out.below HB.out (Nat.le_refl _)).at (m + 1) hlt
            have c1 := hn.name
            obtain ⟨b', o', e', hn2⟩ := (H.out.below HB.out (Nat.le_refl _)).at m (by omega)
            obtain ⟨rfl, rfl⟩ : b = b' ∧ o = o' := by
              injection e' with e'
              injection e' with e1 e2
              exact ⟨e1, e2⟩
            have c2 := hn2.name
            have cmp : (Op.bytesLess (str L[m + 1].name).toList (str L[m].name).toList || (str L[m + 1].name).toList == (str L[m].name).toList) = leN L[m] L[m + 1] := by
              rw [Lib.toList_data, Lib.toList_data]
              rfl
            have ew : IntKind.i64.wrap (((m + 1 : Nat) : Int) - 1) = (m : Int) := by rw [IntWalk.i64_in _ (by omega)]; omega
            generalize L[m + 1].name = N1 at *
            generalize L[m].name = N0 at *
            generalize leN L[m] L[m + 1] = q at *
            clear hn hn2 e'
            obtain ⟨t, ht⟩ : ∃ t : Nat, t = m + 1 := ⟨_, rfl⟩
            rw [← ht] at c1 ew hlt q0 p0 ⊢
            have HT := Lib.hid ht
            have hm0 : (m : Int) < (L.length : Int) := by omega
            have hm1 : 0 ≤ (m : Int) := by omega
            clear ht
            go_upto_region 13 with fail
            go_quiet (fail)
            have B2 := Lib.hid (HB.out.trans (below_drewN (Below.refl wr.heap.size wr) nq |>.mono HB.out.size))
            generalize wr.drewN nq = w2 at *
            cases q with
            | true =>
              have HR : Hid (risesN L = false) := Lib.hid (by rw [HE.out]; exact HD.out)
              go_wp2_with fail
              go_ret
              exact ⟨by rw [HR2.out, HR.out]; rfl, B2.out⟩
            | false =>
              have HR : Hid (risesN L = risesN (L.drop (m + 1))) := Lib.hid (by rw [HE.out]; exact HD.out)
              go_wp2_with fail
              go_roundw
              case rel => exact ⟨t + 1, by omega, Or.inl (by omega), by go_num, Lib.hid (by rw [HR.out, HT.out]; rfl), B2⟩
              case measure => simp [intOf]; omega
          · have HR : Hid (risesN L = true) := Lib.hid (by rw [HE.out]; exact risesN_last L _ (by omega))
            have q0 : ¬ ((j : Int) < (L.length : Int)) := by omega
            go_wp2_with fail
            go_ret
            exact ⟨by rw [HR2.out, HR.out]; rfl, HB.out⟩
end Go.Proofs.Ytjgmhaajcglpmaa
