/- All that nodes name. -/
import Derived.Test.YtjgmhaajcglpmaaNfi
import Derived.Maps.AppendAt
namespace Go.Proofs.Ytjgmhaajcglpmaa
open Go.RowKit

theorem fill_id (cs : List Value) (hc : cs.length = 32) (w : World) : (Instr.buildSlice 22 1 #[(0, .agg cs.toArray)]).run Try.prog w = .ok (.slice (some ⟨w.heap.size, 0, none⟩) 1 1) (w.alloc (.cells cs.toArray 24)) := by
  obtain ⟨i0, hi, hz0, hz1, hz2⟩ := info_parts info_ids
  have hzl : (bvals noughts).length = 32 := by rw [bvals_length]; rfl
  generalize bvals noughts = zs at *
  have h := Great.fill_whole (s := 32) (by decide) [.agg cs.toArray] ((Array.range (1 * 32)).map ((Value.agg zs.toArray).cells[· % (Value.agg zs.toArray).cells.size]!)) (fun v hv => by rw [List.mem_singleton.1 hv]; simp [Value.cells, hc]) (by simp)
  have e : (List.flatMap (fun v => v.cells.toList) [Value.agg cs.toArray]).toArray = cs.toArray := by simp [Value.cells]
  refine run_buildSlice w _ _ 1 _ _ i0 _ Try.underlying22 hi hz0 (by rw [hz1]; decide) (by rw [hz1]; decide) ?_
  rw [hz1]
  rw [e] at h
  exact h
section
variable {w : World} {ops : Array Oper} {rest : List Oper} {o : Oper} {a : Act} {Q : Exit → Act → World → Prop}
theorem build_ids1 (hw : Region.wanted o (yielded ops a.tmps) = true) (x : Operand) (ho : o.op = .buildSlice 22 1 #[(0, x)]) (cs : List Value) (hc : cs.length = 32) (hx : a.eval x = .agg cs.toArray)
    (h : wpList Try.prog ops Q rest (a.put o.dst (.slice (some ⟨w.heap.size, 0, none⟩) 1 1)) (w.alloc (.cells cs.toArray 24))) : wpList Try.prog ops Q (o :: rest) a w :=
  BigFrame.wpList_want hw fun _ hK => by
    have e : (#[((0 : Nat), x)].map fun (i, x) => (i, a.eval x)) = #[(0, .agg cs.toArray)] := by simp [hx]
    unfold Oper.wp execOp
    simp only [ho, Sem.run_bind, e, fill_id cs hc, Result.andThen_ok]
    exact hK _ _ h
theorem append_ids_at (hgd : o.guard = none) (s x : Operand) (ho : o.op = .call { callee := .builtin .append, args := #[s, x], argTypes := #[22, 22] })
    (base : Nat) (v : Value) (P0 P : List (List UInt8)) (hs : a.eval s = v) (hown : w.ownsRow base 24 32 v P0.length (idcells P0)) (h0 : ∀ p ∈ P0, p.length = 32) (pv : Value) (hx : a.eval x = pv) (hid : idsIn w pv P) (hn : (P0.length + P.length) * 32 ≤ 140737488355328) (hbase : base ≤ w.heap.size)
    (h : ∀ v' w', Hid (w'.ownsRow base 24 32 v' (P0 ++ P).length (idcells (P0 ++ P))) → Hid (w.grownBy w' v.ownBlock) → Hid (v'.ownBlock = v.ownBlock ∨ v'.ownBlock = some w.heap.size) → wpList Try.prog ops Q rest (a.put o.dst v') w') : wpList Try.prog ops Q (o :: rest) a w := by
  obtain ⟨i0, hi, hz0, hz1, hz2⟩ := info_parts info_ids
  obtain ⟨A, c, rfl, g1, g2, g3, g4, g5⟩ := hid
  have e1 : idcells (P0 ++ P) = idcells P0 ++ idcells P := by simp [idcells]
  have hl := idcells_length P g4
  cases A with
  | none =>
    obtain rfl : P = [] := by
      rcases g5 with h | ⟨b, o, e, -⟩
      · rw [h] at hl
        exact List.eq_nil_of_length_eq_zero (by simp at hl; omega)
      · cases e
    obtain rfl := g3 rfl
    have hrun := run_append_owned_none (P := Try.prog) (w := w) base 22 o.type 24 i0 32 Try.underlying22 hi v _ _ hown
    have hx' : a.eval x = .slice none 0 0 := hx
    refine wpList_plain hgd fun K hK => ?_
    unfold Oper.wp
    simp [execOp, ho, resolve, invoke, builtin, hs, hx', hrun, Result.andThen]
    exact hK _ _ (h v w (Lib.hid (by rw [List.append_nil]; exact hown)) (Lib.hid (World.grownBy.refl w _)) (Lib.hid (Or.inl rfl)))
  | some ad =>
    refine wpList_append_own_at w hgd s x 22 ho base 24 i0 _ 32 32 Try.underlying22 hi hz0 hz1 hz2 (by simp [Value.cells, bvals, noughts]) (by decide) v P0.length (idcells P0) hs hown ad P.length c (idcells P) hx (by omega) (fun j u hj => ?_) (fun u hu => ?_) (by unfold maxLen; omega) hn hbase (fun v' w' r1 r2 _ r4 => h v' w' (Lib.hid ?_) (Lib.hid r2) (Lib.hid r4))
    · have hjn := (List.getElem?_eq_some_iff.1 hj).1
      rcases g5 with h | ⟨b, o', e, hc⟩
      · rw [h] at hjn; simp at hjn
      · cases e
        rw [Addr.add_lit, hc j hjn]
        exact hj
    · obtain ⟨p, -, hp⟩ := List.mem_flatMap.1 hu
      exact bvals_one p u hp
    · rw [e1, List.length_append]
      exact r1
end
/-- All pieces that nodes name; all directories. -/
def partsL (L : List Nd) : List (List UInt8) := L.flatMap fun n => if n.kind = 0 then n.parts else []
def treesL (L : List Nd) : List (List UInt8) := L.flatMap fun n => if n.kind = 1 then [n.tree] else []
theorem partsL_take (L : List Nd) (j : Nat) (h : j < L.length) : partsL (L.take (j + 1)) = partsL (L.take j) ++ if L[j].kind = 0 then L[j].parts else [] := by
  unfold partsL
  rw [List.take_succ_eq_append_getElem h, List.flatMap_append]
  congr 1
  exact List.flatMap_singleton ..
theorem treesL_take (L : List Nd) (j : Nat) (h : j < L.length) : treesL (L.take (j + 1)) = treesL (L.take j) ++ if L[j].kind = 1 then [L[j].tree] else [] := by
  unfold treesL
  rw [List.take_succ_eq_append_getElem h, List.flatMap_append]
  congr 1
  exact List.flatMap_singleton ..
theorem partsL_len (L : List Nd) : (partsL L).length ≤ weight L := by
  induction L with
  | nil => simp [partsL, weight]
  | cons n L ih =>
    rw [show partsL (n :: L) = (if n.kind = 0 then n.parts else []) ++ partsL L from List.flatMap_cons .., List.length_append, show weight (n :: L) = n.parts.length + weight L by simp [weight]]
    by_cases k : n.kind = 0
    · rw [if_pos k]; omega
    · rw [if_neg k]; simp; omega
theorem partsL_take_len (L : List Nd) (j : Nat) : (partsL (L.take j)).length ≤ weight L := by
  refine Nat.le_trans ?_ (partsL_len L)
  have e : partsL L = partsL (L.take j) ++ partsL (L.drop j) := by
    unfold partsL
    rw [← List.flatMap_append, List.take_append_drop]
  rw [e, List.length_append]
  omega
theorem treesL_len (L : List Nd) : (treesL L).length ≤ L.length := by
  induction L with
  | nil => simp [treesL]
  | cons n L ih =>
    rw [show treesL (n :: L) = (if n.kind = 1 then [n.tree] else []) ++ treesL L from List.flatMap_cons .., List.length_append, List.length_cons]
    by_cases k : n.kind = 1
    · rw [if_pos k]; simp; omega
    · rw [if_neg k]; simp; omega
theorem treesL_take_len (L : List Nd) (j : Nat) : (treesL (L.take j)).length ≤ L.length := Nat.le_trans (treesL_len _) (by rw [List.length_take]; omega)
def ids32 (P : List (List UInt8)) : Prop := ∀ p ∈ P, p.length = 32
theorem ids32.app {P R : List (List UInt8)} (h : ids32 P) (g : ids32 R) : ids32 (P ++ R) := fun p hp => (List.mem_append.1 hp).elim (h p) (g p)
/-- Rows of names of one's own, in other blocks. -/
def apartI (v u : Value) : Prop := ∀ g, v.ownBlock = some g → u.ownBlock ≠ some g
abbrev ownI (w : World) (base : Nat) (v : Value) (P : List (List UInt8)) : Prop := w.ownsRow base 24 32 v P.length (idcells P)
theorem ownI.below {w w' : World} {base : Nat} {v : Value} {P : List (List UInt8)} (h : ownI w base v P) (hb : Below w.heap.size w w') : ownI w' base v P := by
  have hg : w.grownBy w' none := ⟨hb.os, hb.tape, hb.output, hb.size, fun k hk _ => hb.block k hk⟩
  refine World.ownsRow.kept h hg ?_
  cases v.ownBlock with
  | none => exact Or.inl rfl
  | some g => exact Or.inr (by simp)
theorem ownI.other {w w' : World} {base : Nat} {v u : Value} {P : List (List UInt8)} (h : ownI w base u P) (ha : apartI v u) (hg : w.grownBy w' v.ownBlock) : ownI w' base u P := by
  refine World.ownsRow.kept h hg ?_
  cases hu : u.ownBlock with
  | none => exact Or.inl rfl
  | some g => exact Or.inr (fun e => ha g e.symm hu)
theorem apartI.symm {v u : Value} (h : apartI v u) : apartI u v := fun g e1 e2 => h g e2 e1
theorem apartI.next {w : World} {base : Nat} {v u v' : Value} {P : List (List UInt8)} (h : apartI v u) (hu : ownI w base u P) (hat : v'.ownBlock = v.ownBlock ∨ v'.ownBlock = some w.heap.size) : apartI v' u := fun g e1 e2 => by
  rcases hat with q | q
  · exact h g (q.symm.trans e1) e2
  · rw [q] at e1
    cases e1
    have := (hu.lt _ e2).2
    omega
set_option maxRecDepth 100000 in
set_option maxHeartbeats 4000000 in
theorem ids_any (a : Option Addr) (c : Nat) (L : List Nd) (w : World) (hl : L.length ≤ 100000) (hw : weight L ≤ 20000) (h : rowN w a L) :
    Calls Try.prog 25 #[.slice a L.length c] w fun e w' => (∃ v u, e = .returned (.tuple #[v, u]) ∧ idsIn w' v (partsL L) ∧ idsIn w' u (treesL L)) ∧ Below w.heap.size w w' := by
  have H := Lib.hid h
  have HW := Lib.hid hw
  clear h hw
  have hz := zero_nd
  have HZ := Lib.hid (zeroNd.cells_length (.slice none 0 0) rfl)
  generalize zeroNd.cells (.slice none 0 0) = zs at *
  go_enter Try.func25, Try.ntmps25
  go_wp2_with fail
  go_loopw [10, 4, 5] (fun i v u wr => ∃ j : Nat, j ≤ L.length ∧ i = .int .i64 j ∧ Hid (ownI wr w.heap.size v (partsL (L.take j))) ∧ Hid (ids32 (partsL (L.take j))) ∧ Hid (ownI wr w.heap.size u (treesL (L.take j))) ∧ Hid (ids32 (treesL (L.take j))) ∧ Hid (apartI v u) ∧ Hid (Below w.heap.size w wr)) (fun i _ _ _ => L.length - (intOf i).toNat)
  case atStart => exact ⟨0, Nat.zero_le _, rfl, Lib.hid (World.ownsRow_nil _ _ _ _), Lib.hid (fun p hp => by simp [partsL] at hp), Lib.hid (World.ownsRow_nil _ _ _ _), Lib.hid (fun p hp => by simp [treesL] at hp), Lib.hid (fun g e => by cases e), Lib.hid (Below.refl _ _)⟩
  case round =>
    obtain ⟨j, hj, rfl, OV, V32, OU, U32, AP, HB⟩ := hrel
    have p0 : 0 ≤ (j : Int) := by omega
    by_cases hlt : j < L.length
    · have q0 : (j : Int) < (L.length : Int) := by omega
      obtain ⟨b, o, rfl, hn⟩ := (H.out.below HB.out (Nat.le_refl _)).at j hlt
      have EP := Lib.hid (partsL_take L j hlt)
      have ET := Lib.hid (treesL_take L j hlt)
      have LP := Lib.hid (partsL_take_len L (j + 1))
      have LT := Lib.hid (treesL_take_len L (j + 1))
      obtain ⟨n, hnn⟩ : ∃ n, n = L[j] := ⟨_, rfl⟩
      rw [← hnn] at hn EP ET
      clear hnn
      obtain ⟨pa, pc, wf, hid, hr⟩ := hn.form
      have HID := Lib.hid hid
      have R1 := Lib.hid hr
      have WF := Lib.hid wf
      clear hr wf hid hn
      have HCL := Lib.hid (n.cells_length (.slice pa n.parts.length pc) WF.out.tree)
      have HC1 := Lib.hid (cells_one n (.slice pa n.parts.length pc) rfl)
      obtain ⟨cs, hcs⟩ : ∃ cs, cs = n.cells (.slice pa n.parts.length pc) := ⟨_, rfl⟩
      rw [← hcs] at R1 HCL HC1
      have HCS := Lib.hid hcs
      clear hcs
      obtain ⟨kd, hkd⟩ : ∃ kd, kd = n.kind := ⟨_, rfl⟩
      have HKD := Lib.hid hkd
      clear hkd
      go_wp2_with (first | (refine load_nd (by rfl) _ rfl b (o + j * 39) rfl cs R1.out HCL.out ?_) | (refine store_new 33 info_nd rfl _ _ rfl cs zs rfl rfl HCL.out HZ.out HC1.out ?_))
      intro w5 h1 h2
      have HB5 := h1.out
      rw [HCS.out] at HB5
      have B5 := Lib.hid (HB.out.trans (h2.out.mono HB.out.size))
      have OV5 := Lib.hid (OV.out.below h2.out)
      have OU5 := Lib.hid (OU.out.below h2.out)
      have HID5 := Lib.hid (HID.out.below h2.out (Nat.le_refl _))
      clear h1 h2 HB HID R1 OV OU
      generalize wr.heap.size = g at *
      obtain ⟨-, c1, -, -, -, -, c6⟩ := nd_block HB5
      have R7 := Lib.hid (nd_tree HB5)
      have HTL2 : Hid ((bvals n.tree).length = 32) := Lib.hid (by rw [bvals_length, WF.out.tree])
      rw [← HKD.out] at c1
      clear HB5
      by_cases k0 : kd = 0
      · rw [if_pos (by rw [← HKD.out]; exact k0)] at EP
        rw [if_neg (by rw [← HKD.out, k0]; decide), List.append_nil] at ET
        have hb0 : (kd == 0) = true := by simp [k0]
        have V2 : Hid (ids32 (partsL (L.take (j + 1)))) := Lib.hid (by rw [EP.out]; exact V32.out.app WF.out.part)
        have U2 : Hid (ids32 (treesL (L.take (j + 1)))) := Lib.hid (by rw [ET.out]; exact U32.out)
        have HBD : Hid (((partsL (L.take j)).length + n.parts.length) * 32 ≤ 140737488355328) := Lib.hid (by
          have h1 := LP.out
          have h2 := HW.out
          rw [EP.out, List.length_append] at h1
          omega)
        clear k0
        go_wp2_with (at_builtin; refine Hid.out ?_)
        refine Lib.hid ?_
        refine append_ids_at rfl _ _ rfl w.heap.size u4 (partsL (L.take j)) n.parts rfl OV5.out V32.out (.slice pa n.parts.length pc) rfl HID5.out HBD.out B5.out.size ?_
        intro v' w6 r1 r2 r3
        have OV6 : Hid (ownI w6 w.heap.size v' (partsL (L.take (j + 1)))) := Lib.hid (by rw [EP.out]; exact r1.out)
        have OU6 : Hid (ownI w6 w.heap.size u5 (treesL (L.take (j + 1)))) := Lib.hid (by rw [ET.out]; exact OU5.out.other AP.out r2.out)
        have AP6 : Hid (apartI v' u5) := Lib.hid (AP.out.next OU5.out r3.out)
        have B6 := Lib.hid (B5.out.trans ((Below.refl w.heap.size w5).grown r2.out B5.out.size fun k hk => (OV5.out.lt k hk).1))
        clear r1 r2 r3 OV5 OU5 AP B5 HID5 c1 c6 R7
        go_wp2_with fail
        go_roundw
        case rel => exact ⟨j + 1, by omega, by go_num, OV6, V2, OU6, U2, AP6, B6⟩
        case measure => simp [intOf]; omega
      · rw [if_neg (by rw [← HKD.out]; exact k0), List.append_nil] at EP
        have hb0 : (kd == 0) = false := by simp [k0]
        have V2 : Hid (ids32 (partsL (L.take (j + 1)))) := Lib.hid (by rw [EP.out]; exact V32.out)
        by_cases k1 : kd = 1
        · rw [if_pos (by rw [← HKD.out]; exact k1)] at ET
          have hb1 : (kd == 1) = true := by simp [k1]
          have U2 : Hid (ids32 (treesL (L.take (j + 1)))) := Lib.hid (by rw [ET.out]; exact U32.out.app (fun p hp => by rw [List.mem_singleton.1 hp]; exact WF.out.tree))
          have HBD : Hid (((treesL (L.take j)).length + [n.tree].length) * 32 ≤ 140737488355328) := Lib.hid (by
            have h1 := LT.out
            rw [ET.out, List.length_append] at h1
            omega)
          have A6 := Lib.hid (alloc_below w5 (.cells (bvals n.tree).toArray 24 (0, 0)))
          have OV6 := Lib.hid (OV5.out.below A6.out)
          have OU6 := Lib.hid (OU5.out.below A6.out)
          have B6 := Lib.hid (B5.out.trans (A6.out.mono B5.out.size))
          have HI6 : Hid (idsIn (w5.alloc (.cells (bvals n.tree).toArray 24 (0, 0))) (.slice (some ⟨w5.heap.size, 0, none⟩) 1 1) [n.tree]) := Lib.hid (by
            have hbk := blockIs.new w5 (bvals n.tree) 24
            refine ⟨_, 1, rfl, Nat.le_refl _, by decide, fun e => (by cases e), fun p hp => (by rw [List.mem_singleton.1 hp]; exact WF.out.tree), Or.inr ⟨w5.heap.size, 0, rfl, fun i hi => ?_⟩⟩
            rw [Nat.zero_add, hbk.cell]
            simp [idcells])
          clear k0 k1
          generalize htb : bvals n.tree = tb at *
          go_wp2_with (first | (refine load_id (by rfl) _ rfl g 7 rfl tb R7.out HTL2.out ?_) | (refine build_ids1 (by rfl) _ rfl tb HTL2.out rfl ?_; refine Hid.out ?_))
          refine Lib.hid ?_
          refine append_ids_at rfl _ _ rfl w.heap.size u5 (treesL (L.take j)) [n.tree] rfl OU6.out U32.out (.slice (some ⟨w5.heap.size, 0, none⟩) 1 1) rfl HI6.out HBD.out B6.out.size ?_
          intro v' w6 r1 r2 r3
          have OU7 : Hid (ownI w6 w.heap.size v' (treesL (L.take (j + 1)))) := Lib.hid (by rw [ET.out]; exact r1.out)
          have OV7 : Hid (ownI w6 w.heap.size u4 (partsL (L.take (j + 1)))) := Lib.hid (by rw [EP.out]; exact OV6.out.other AP.out.symm r2.out)
          have AP7 : Hid (apartI u4 v') := Lib.hid ((AP.out.symm.next OV6.out r3.out).symm)
          have B7 := Lib.hid (B6.out.trans ((Below.refl w.heap.size (w5.alloc (.cells tb.toArray 24 (0, 0)))).grown r2.out B6.out.size fun k hk => (OU6.out.lt k hk).1))
          clear r1 r2 r3 OV5 OU5 AP B5 HID5 c1 c6 R7 OV6 OU6 B6 A6 HI6
          go_wp2_with fail
          go_roundw
          case rel => exact ⟨j + 1, by omega, by go_num, OV7, V2, OU7, U2, AP7, B7⟩
          case measure => simp [intOf]; omega
        · rw [if_neg (by rw [← HKD.out]; exact k1), List.append_nil] at ET
          have hb1 : (kd == 1) = false := by simp [k1]
          have U2 : Hid (ids32 (treesL (L.take (j + 1)))) := Lib.hid (by rw [ET.out]; exact U32.out)
          have OU6 : Hid (ownI w5 w.heap.size u5 (treesL (L.take (j + 1)))) := Lib.hid (by rw [ET.out]; exact OU5.out)
          have OV6 : Hid (ownI w5 w.heap.size u4 (partsL (L.take (j + 1)))) := Lib.hid (by rw [EP.out]; exact OV5.out)
          clear k0 k1
          go_wp2_with fail
          go_roundw
          case rel => exact ⟨j + 1, by omega, by go_num, OV6, V2, OU6, U2, AP, B5⟩
          case measure => simp [intOf]; omega
    · obtain rfl : j = L.length := by omega
      have q0 : ¬ ((L.length : Int) < (L.length : Int)) := by omega
      rw [List.take_length] at OV V32 OU U32
      go_wp2_with fail
      go_ret2
      exact ⟨⟨_, _, rfl, (own_ids OV.out V32.out 0).1, (own_ids OU.out U32.out 0).1⟩, HB.out⟩
end Go.Proofs.Ytjgmhaajcglpmaa
