/- The next ones of names, so many: by slices.Chunk. -/
import Derived.RangeFuncBox
import Derived.Test.YtjgmhaajcglpmaaNrr
import Derived.Test.YtjgmhaajcglpmaaNid
namespace Go.Proofs.Ytjgmhaajcglpmaa
variable {B : Nat}
open Go.RowKit Go.Shelf
attribute [local go_sem] Oper.semAt_some

set_option maxRecDepth 100000 in
theorem chunk_any (a : Option Addr) (l c : Nat) (w : World) : Calls Try.prog 71 #[.slice a l c, .int .i64 32] w fun e w' => e = .returned (.func (.func 76) #[] #[.pointer (some ⟨w.heap.size, 0, none⟩), .pointer (some ⟨w.heap.size + 1, 0, none⟩)]) ∧
    w' = (w.alloc (.cells #[.slice a l c] 40)).alloc (.cells #[.int .i64 32] 3) := by
  go_enter Try.func71, Try.ntmps71
  go_wp2_with fail
  go_ret
  exact ⟨by simp, rfl⟩
theorem chunk_range {w : World} {b off : Nat} {O : List UInt8} (h : ∀ j, j < O.length → w.cell? ⟨b, off + j, none⟩ = some (.int .u8 (V (O.getD j 0)))) (x : Nat) (hx : 32 * x + 32 ≤ O.length) : w.rangeAt b (off + 32 * x) (bvals ((O.drop (32 * x)).take 32)) := fun j u hj => by
  have hjl := (List.getElem?_eq_some_iff.1 hj).1
  rw [bvals_length, List.length_take, List.length_drop] at hjl
  rw [Nat.add_assoc, h _ (by omega)]
  rw [bvals, List.getElem?_map, List.getElem?_take, if_pos (by omega), List.getElem?_drop] at hj
  rw [List.getD_eq_getElem?_getD]
  rw [List.getElem?_eq_getElem (by omega)] at hj ⊢
  exact hj
def chunksOf (O : List UInt8) : List (List UInt8) := (List.finRange (O.length / 32)).map fun i => (O.drop (32 * i.1)).take 32
section
variable {w : World} {ops : Array Oper} {o : Oper} {a : Act} {K : Act → World → Prop} {Q : Exit → Act → World → Prop} {E : Prop}
theorem step_build_id (hw : Region.wanted o (yielded ops a.tmps) = true) (x : Operand) (ho : o.op = .buildSlice 22 1 #[(0, x)]) (cs : List Value) (hc : cs.length = 32) (hx : a.eval x = .agg cs.toArray)
    (h : K (a.put o.dst (.slice (some ⟨w.heap.size, 0, none⟩) 1 1)) (w.alloc (.cells cs.toArray 24))) : if Region.wanted o (yielded ops a.tmps) = true then Oper.wp Try.prog o a w K Q else E := by
  rw [if_pos hw]
  have e : (#[((0 : Nat), x)].map fun (i, x) => (i, a.eval x)) = #[(0, .agg cs.toArray)] := by simp [hx]
  unfold Oper.wp execOp
  simp only [ho, Sem.run_bind, e, fill_id cs hc, Result.andThen_ok]
  exact h
end
theorem idsIn_one (w : World) (p : List UInt8) (hp : p.length = 32) : idsIn (w.alloc (.cells (bvals p).toArray 24)) (.slice (some ⟨w.heap.size, 0, none⟩) 1 1) [p] := by
  refine ⟨some ⟨w.heap.size, 0, none⟩, 1, rfl, Nat.le_refl _, by decide, (fun h => by cases h), (fun q hq => by rw [List.mem_singleton.1 hq]; exact hp), .inr ⟨w.heap.size, 0, rfl, fun j hj => ?_⟩⟩
  have e : idcells [p] = bvals p := by simp [idcells]
  rw [e] at hj ⊢
  have := (blockIs.new w (bvals p) 24).cell j
  rw [Nat.zero_add, this]
/-- The names so far. -/
def rowOf (O : List UInt8) {m : Nat} (pre : List (Fin m)) : List (List UInt8) := pre.map fun x => (O.drop (32 * x.1)).take 32
/-- What a round keeps. -/
def RI (O : List UInt8) (n₀ B6 Bs Bn : Nat) (va : Option Addr) (N vc : Nat) (w1 : World) {m : Nat} (pre : List (Fin m)) (W : World) : Prop :=
  (∃ v, Boxed W B6 22 v ∧ W.ownsRow n₀ 24 32 v (rowOf O pre).length (idcells (rowOf O pre)) ∧ True) ∧ Boxed W Bs 40 (.slice va N vc) ∧ Boxed W Bn 3 (.int .i64 32) ∧ Below n₀ w1 W
theorem boxed_own {β : Type} (B : Nat) (t : TypeId) (v : Value) : Own (fun (_ : β) W => Boxed W B t v) := fun _ X Y row hv hg hrow => hv.kept hg fun e' => by
  obtain ⟨o, ho, hc⟩ := hrow B e'.symm
  rw [show X.heap[B]? = _ from hv] at ho; cases ho; cases hc
theorem RI_own (O : List UInt8) (n₀ B6 Bs Bn : Nat) (va : Option Addr) (N vc : Nat) (w1 : World) {m : Nat} (B : Nat) (hn : n₀ ≤ w1.heap.size) (hB : n₀ ≤ B) : OwnFrom B (fun (pre : List (Fin m)) W => RI O n₀ B6 Bs Bn va N vc w1 pre W) :=
  ((holdsRow_own n₀ B6 22 24 32 (fun pre : List (Fin m) => (rowOf O pre).length) (fun pre => idcells (rowOf O pre)) (fun _ _ => True)).from B).and
    (((boxed_own Bs _ _).from B).and (((boxed_own Bn _ _).from B).and (ownFrom_below hn hB)))
set_option maxRecDepth 100000 in
set_option maxHeartbeats 4000000 in
theorem readIds_any (k : Nat) (L : List UInt8) (e c : Int) (w : World) (h : RdAt B w k L e) (hl : L.length ≤ 100000000) (h0 : 0 ≤ c) (hc : c ≤ 1048576) :
    Calls Try.prog 62 #[.pointer (some ⟨k, 0, none⟩), .int .i64 c] w fun r w' =>
      (∃ v, r = .returned v ∧ w'.ownsRow w.heap.size 24 32 v (chunksOf (tOut L e (c * 32))).length (idcells (chunksOf (tOut L e (c * 32))))) ∧ RdAt B w' k (tLeft L e (c * 32)) (tErr L e (c * 32)) ∧ But k w w' := by
  have PR := rraw_any k L e (c * 32) w h hl
  have ew : IntKind.i64.wrap (c * 32) = c * 32 := IntWalk.i64_in _ (by omega)
  have HO : ∃ m, (tOut L e (c * 32)).length = 32 * m ∧ m ≤ 1048576 := by
    unfold tOut
    split
    · rename_i hh; exact ⟨c.toNat, by rw [List.length_take]; omega, by omega⟩
    · exact ⟨0, rfl, by omega⟩
  unfold RawRead at PR
  generalize tOut L e (c * 32) = O at *
  generalize tLeft L e (c * 32) = L1 at *
  generalize tErr L e (c * 32) = e1 at *
  obtain ⟨m, hm, hm9⟩ := HO
  clear h hl
  refine (callsIn_wide (n := 3)).1 ?_
  refine callsIn_of_wp_marks Try.func62 rfl trivial ?_ rfl
  simp only [Try.ntmps62, List.size_toArray, List.length_cons, List.length_nil, Nat.reduceAdd, Nat.reduceSub, Array.replicate_succ, Array.replicate_zero, List.push_toArray, List.append_toArray, List.nil_append, List.cons_append]
  gi_wp2
  refine ⟨trivial, (callsIn_wide.2 PR).mono ?_⟩
  rintro r w1 ⟨v, rfl, hrow, hrd, hb⟩
  obtain ⟨va, vc, rfl, hvc, hv9, hin, hvn, hvlt⟩ := hrow.form2
  have HRD := Lib.hid hrd
  have HBB := Lib.hid hb
  clear hrd hb hrow PR ew
  have hmo : O.length = 32 * m := hm
  have HMO := Lib.hid hmo
  clear hmo
  rw [hm] at hvc ⊢
  obtain ⟨N, hN⟩ : ∃ N, N = 32 * m := ⟨_, rfl⟩
  have eq : ((N : Int) / (32 : Int)) = (m : Int) := by omega
  rw [← hN] at hvc hm ⊢
  have HN := Lib.hid hN
  have HM := Lib.hid hm
  have HIN := Lib.hid hin
  have HVC := Lib.hid hvc
  clear hN hm hin hvc
  obtain ⟨i0, hi, hz0, hz1, hz2⟩ := info_parts info_ids
  gi_wp2_with (refine wpListIn_make_own _ rfl _ _ 22 rfl w1.heap.size 24 i0 _ 32 Try.underlying22 hi hz0 hz1 .i64 .i64 (m : Int) m rfl rfl rfl (by rw [hz2]; omega) (by unfold maxLen; omega) (Nat.le_refl _) ?_)
  intro w2 r2 g2
  have B2 : Below w1.heap.size w1 w2 := (Below.refl _ w1).grown g2 (Nat.le_refl _) (fun k hk => by cases hk)
  gi_wp2
  have x2 : Boxed (w2.alloc (.cells #[Value.slice (some ⟨w1.heap.size, 0, none⟩) 0 m] 22)) w2.heap.size 22 (Value.slice (some ⟨w1.heap.size, 0, none⟩) 0 m) := Boxed.new w2 _ _
  have r3 := r2.alloc (.cells #[Value.slice (some ⟨w1.heap.size, 0, none⟩) 0 m] 22)
  have B3 : Below w1.heap.size w1 (w2.alloc (.cells #[Value.slice (some ⟨w1.heap.size, 0, none⟩) 0 m] 22)) := B2.alloc B2.size _
  have h26 := B2.size
  refine ⟨trivial, (callsIn_wide.2 (chunk_any va N vc _)).mono ?_⟩
  clear r2 B2 g2
  generalize w2.alloc (.cells #[Value.slice (some ⟨w1.heap.size, 0, none⟩) 0 m] 22) = w3 at *
  generalize w2.heap.size = B6 at *
  rintro r w4 ⟨rfl, rfl⟩
  have h36 := B3.size
  have h6lt := x2.lt
  have x3 := (x2.alloc (.cells #[.slice va N vc] 40)).alloc (.cells #[.int .i64 32] 3)
  have xs := (Boxed.new w3 40 (.slice va N vc)).alloc (.cells #[.int .i64 32] 3)
  have xn := Boxed.new (w3.alloc (.cells #[.slice va N vc] 40)) 3 (.int .i64 32)
  have r4 := (r3.alloc (.cells #[.slice va N vc] 40)).alloc (.cells #[.int .i64 32] 3)
  have B4 : Below w1.heap.size w1 ((w3.alloc (.cells #[.slice va N vc] 40)).alloc (.cells #[.int .i64 32] 3)) := (B3.alloc B3.size _).alloc (B3.alloc B3.size _).size _
  rw [World.size_alloc] at xn
  clear x2 r3 B3
  generalize (w3.alloc (.cells #[.slice va N vc] 40)).alloc (.cells #[.int .i64 32] 3) = w4 at *
  generalize hBn : w3.heap.size + 1 = Bn at *
  generalize hBs : w3.heap.size = Bs at *
  have hsn : Bs < Bn := by omega
  have h6s : B6 ≠ Bs ∧ B6 ≠ Bn ∧ w1.heap.size ≤ B6 ∧ w1.heap.size ≤ Bs ∧ w1.heap.size ≤ Bn := ⟨by omega, by omega, h26, by omega, by omega⟩
  have H6S := Lib.hid h6s
  clear hBn hBs h6s h26 h36 h6lt w3
  have HAB : ∃ b off, (0 < m → va = some ⟨b, off, none⟩) ∧ (0 < m → ∀ j, j < O.length → w1.cell? ⟨b, off + j, none⟩ = some (.int .u8 (V (O.getD j 0)))) := by
    rcases HIN.out with hO | ⟨b, off, hva, hcl⟩
    · have : m = 0 := by have h1 := HMO.out; rw [hO] at h1; simp at h1; omega
      exact ⟨0, 0, fun h => by omega, fun h => by omega⟩
    · exact ⟨b, off, fun _ => hva, fun _ => hcl⟩
  obtain ⟨b, off, hA, hrg⟩ := HAB
  have RK : ∀ W, Below w1.heap.size w1 W → ∀ x : Fin m, W.rangeAt b (off + 32 * x.1) (bvals ((O.drop (32 * x.1)).take 32)) := fun W hW x => by
    have hx := x.2
    refine chunk_range (fun j hj => ?_) x.1 (by have := HMO.out; omega)
    have hc := hrg (by omega) j hj
    exact (hW.cell (p := ⟨b, off + j, none⟩) (block_lt_of_cell hc)).trans hc
  have RKH := Lib.hid RK
  clear RK hrg
  have hseq := chunk_stops Fence.wide (3 - 1) trivial rfl (by decide) Bs Bn b off vc m va hA (by rw [← HN.out]; exact HVC.out) hv9 w4 xs.lt xn.lt (by rw [← HN.out]; exact xs.cell) xn.cell
  gi_wp2
  refine wpIn_rangeFunc_ownF rfl (by decide) (gf := 76) (lb := #[.pointer (some ⟨Bs, 0, none⟩), .pointer (some ⟨Bn, 0, none⟩)]) rfl trivial (enters_of Try.func76 (by kernel_rfl) rfl) hseq keeps2_t (fun W l o o' _ hl ho _ => keeps2_b W l o o' hl ho) (Below.refl _ _) (fun _ => rfl)
    (fun pre W => RI O w1.heap.size B6 Bs Bn va N vc w1 pre W) (fun _ _ _ => False) (RI_own O w1.heap.size B6 Bs Bn va N vc w1 _ (Nat.le_refl _) B4.size) (fun _ _ _ _ _ hs _ _ => hs) ⟨⟨_, x3, r4, trivial⟩, xs, xn, B4⟩ ?act ?assign ?body ?done (fun _ _ _ _ _ _ h _ => h.elim)
  case assign =>
    intro l x W K hK
    gi_wp2
    exact hK
  case body =>
    rintro l pre x W ⟨⟨v, xv, rv, -⟩, ys, yn, yB⟩ hlen
    obtain ⟨cs, hcs⟩ : ∃ cs, cs = bvals ((O.drop (32 * x.1)).take 32) := ⟨_, rfl⟩
    have hp32 : ((O.drop (32 * x.1)).take 32).length = 32 := by have := HMO.out; have := x.2; rw [List.length_take, List.length_drop]; omega
    have HP32 := Lib.hid hp32
    have HCL : Hid (cs.length = 32) := Lib.hid (by rw [hcs, bvals_length]; exact hp32)
    have HCS := Lib.hid hcs
    have HRG : Hid (∀ wx, Below w1.heap.size w1 wx → wx.rangeAt b (off + 32 * x.1) cs) := Lib.hid (fun wx hw => by rw [HCS.out]; exact RKH.out wx hw x)
    have HLN : Hid ((rowOf O pre).length ≤ 1048576) := Lib.hid (by unfold rowOf; rw [List.length_map]; omega)
    have HR32 : Hid (∀ p ∈ rowOf O pre, p.length = 32) := Lib.hid (fun p hp => by
      obtain ⟨y, -, rfl⟩ := List.mem_map.1 hp
      have := HMO.out; have := y.2
      rw [List.length_take, List.length_drop]; omega)
    have HAP : Hid (rowOf O (pre ++ [x]) = rowOf O pre ++ [(O.drop (32 * x.1)).take 32]) := Lib.hid (by simp [rowOf])
    have KO : KeepsOthers W W.drew := ⟨Nat.le_refl _, fun _ _ h _ => h⟩
    clear hcs hp32
    have hcs0 := ys.cell
    have hcn0 := yn.cell
    have HC0 := Lib.hid hcs0
    have HC1 := Lib.hid hcn0
    clear hcs0 hcn0
    gi_wp2
    refine wpIn_region_round (S := fun wx => Below w1.heap.size w1 wx) (by kernel_rfl) (by kernel_rfl) (fun _ _ h => h) yB.drew (fun hH => ?_)
    have xv : Boxed W.drew B6 22 v := xv
    have ys : Boxed W.drew Bs 40 (.slice va N vc) := ys
    have yn : Boxed W.drew Bn 3 (.int .i64 32) := yn
    have rv := rv.drew
    clear yB
    generalize W.drew = y0 at *
    refine wpAnyH_take (i := 1) (oi := { dst := some 20, op := Op.move (Operand.tmp 7), type := 40, pos := "bytes.go:99", after := #[], guard := none }) (v := chunkV b off x.1) rfl (by kernel_rfl) (by kernel_rfl) (by kernel_rfl) (fun _ _ _ h => h) (Or.inl ⟨by rfl, fun wx hS => ?_⟩) hH ?_
    · go_simp
    simp only [Act.put, List.setIfInBounds_toArray, List.set_cons_zero, List.set_cons_succ]
    refine wpAnyH_take (i := 2) (oi := { dst := some 21, op := Op.sliceToArrayPointer 24 (Operand.tmp 20), type := 0, pos := "bytes.go:99", after := #[{ on := 1, ground := Ground.data }], guard := none }) (v := .pointer (some ⟨b, off + 32 * x.1, none⟩)) rfl (by kernel_rfl) (by kernel_rfl) (by kernel_rfl) (fun _ _ _ h => h) (Or.inl ⟨by rfl, fun wx hS => ?_⟩) hH ?_
    · have e1 := run_arrayAt (P := Try.prog) wx 24 5 32 (some ⟨b, off + 32 * x.1, none⟩) 32 32 Try.underlying24 (Nat.le_refl _); unfold chunkV; go_simp
    simp only [Act.put, List.setIfInBounds_toArray, List.set_cons_zero, List.set_cons_succ]
    refine wpAnyH_take (i := 3) (oi := { dst := some 22, op := Op.load 24 (Operand.tmp 21), type := 24, pos := "bytes.go:99", after := #[{ on := 2, ground := Ground.data }], guard := none }) (v := .agg cs.toArray) rfl (by kernel_rfl) (by kernel_rfl) (by kernel_rfl) (fun _ _ _ h => h) (yieldsIf_load_mid (by rfl) 24 _ rfl b (off + 32 * x.1) rfl cs _ (fun wx hS => HRG.out wx hS) Try.underlying24 rfl (by rw [HCL.out]; kernel_rfl)) hH ?_
    simp only [Act.put, List.setIfInBounds_toArray, List.set_cons_zero, List.set_cons_succ]
    refine wpAnyH_ready (rs := [0, 4]) (by kernel_rfl) (by simp) ?_
    refine AllReadyH.cons (o := { dst := some 19, op := Op.load 22 (Operand.tmp 6), type := 22, pos := "bytes.go:99", after := #[], guard := none }) rfl (fun KK hKK => ?_) (AllReadyH.cons (o := { dst := some 23, op := Op.buildSlice 22 1 #[(0, Operand.tmp 22)], type := 22, pos := "bytes.go:99", after := #[{ on := 3, ground := Ground.data }], guard := none }) rfl (fun KK hKK => ?_) AllReadyH.nil)
    · have cv := xv.cell
      have hN := hH
      clear hH
      go_simp
      refine hKK.out _ _ hN (fun hH => ?_)
      clear hKK KK hN
      try simp only [Act.put, List.setIfInBounds_toArray, List.set_cons_zero, List.set_cons_succ]
      clear cv
      refine wpAnyH_ready (rs := [4]) (by kernel_rfl) (by simp) ?_
      refine AllReadyH.cons (o := { dst := some 23, op := Op.buildSlice 22 1 #[(0, Operand.tmp 22)], type := 22, pos := "bytes.go:99", after := #[{ on := 3, ground := Ground.data }], guard := none }) rfl (fun KK hKK => ?_) AllReadyH.nil
      have hs := hH.size
      have hN := hH.alloc hs (.cells cs.toArray 24)
      have qb := idsIn_one y0 ((O.drop (32 * x.1)).take 32) HP32.out
      rw [← HCS.out] at qb
      replace xv := xv.alloc (.cells cs.toArray 24)
      replace ys := ys.alloc (.cells cs.toArray 24)
      replace yn := yn.alloc (.cells cs.toArray 24)
      replace rv := rv.alloc (.cells cs.toArray 24)
      replace KO := KO.trans (KeepsOthers.alloc y0 (.cells cs.toArray 24))
      have hlx := xv.lt
      clear hH
      refine step_build_id (by rfl) _ rfl cs HCL.out rfl ?_
      refine hKK.out _ _ hN (fun hH => ?_)
      clear hKK KK hN
      try simp only [Act.put, List.setIfInBounds_toArray, List.set_cons_zero, List.set_cons_succ]
      generalize hgy : y0.alloc (.cells cs.toArray 24) = y1 at *
      have hyl : y0.heap.size < y1.heap.size := by rw [← hgy, World.size_alloc]; omega
      clear hgy
      generalize y0.heap.size = gb at *
      refine wpAnyH_ready (rs := [5]) (by kernel_rfl) (by simp) ?_
      refine AllReadyH.cons (o := { dst := some 24, op := Op.call { callee := Callee.builtin Builtin.append, args := #[Operand.tmp 19, Operand.tmp 23], argTypes := #[22, 22] }, type := 22, pos := "bytes.go:99", after := #[{ on := 0, ground := Ground.data }, { on := 4, ground := Ground.data }], guard := none }) rfl (fun KK hKK => ?_) AllReadyH.nil
      refine step_append_ids (by rfl) _ _ rfl w1.heap.size v (rowOf O pre) [(O.drop (32 * x.1)).take 32] rfl rv HR32.out (.slice (some ⟨gb, 0, none⟩) 1 1) rfl qb (by have := HLN.out; simp; omega) hH.size ?_
      intro v2 y2 r5 g5 b5
      have hN := hH.trans b5.out
      have x5 := xv.kept g5.out (xv.not_row (by decide) rv)
      have s5 := ys.kept g5.out (ys.not_row (by decide) rv)
      have n5 := yn.kept g5.out (yn.not_row (by decide) rv)
      have hnr := x5.not_row (by decide) r5.out
      have KO5 := KO.trans (KeepsOthers.of_grownBy g5.out fun j ob ej hj => by
        rcases rv.2 with ⟨rfl, _⟩ | ⟨g, cap, cur, rfl, _, hgb, _⟩
        · simp [Value.ownBlock] at ej
        · obtain rfl : g = j := by simpa [Value.ownBlock] using ej
          rw [hgb] at hj; cases hj; rfl)
      clear hH KO xv ys yn rv qb
      refine hKK.out _ _ hN (fun hH => ?_)
      clear hKK KK hN
      try simp only [Act.put, List.setIfInBounds_toArray, List.set_cons_zero, List.set_cons_succ]
      refine wpAnyH_ready (rs := [6]) (by kernel_rfl) (by simp) ?_
      refine AllReadyH.cons (o := { dst := none, op := Op.store 22 (Operand.tmp 6) (Operand.tmp 24), type := 0, pos := "bytes.go:99", after := #[{ on := 5, ground := Ground.data }, { on := 5, ground := Ground.chain }, { on := 0, ground := Ground.phase }, { on := 1, ground := Ground.phase }, { on := 2, ground := Ground.phase }, { on := 3, ground := Ground.phase }, { on := 4, ground := Ground.phase }, { on := 5, ground := Ground.phase }], guard := none }) rfl (fun KK hKK => ?_) AllReadyH.nil
      have c5 := x5.cell
      have f5 := x5.frozen
      obtain ⟨vl, vcap, e5⟩ : ∃ g cap, v2 = .slice (some ⟨g, 0, none⟩) ((rowOf O pre).length + 1) cap := by
        have := r5.out; rw [List.length_append] at this; exact ownsRow_succ this
      have hN := hH.setCell (p := ⟨B6, 0, none⟩) H6S.out.2.2.1 v2
      have EQ5 := Lib.hid e5
      clear hH
      rw [e5]
      go_simp
      rw [← EQ5.out]
      refine hKK.out _ _ hN (fun hH => ?_)
      clear hKK KK hN
      try simp only [Act.put, List.setIfInBounds_toArray, List.set_cons_zero, List.set_cons_succ]
      refine wpAnyH_done (by kernel_rfl) ?_ _
      refine NoPanic.normal ?_
      have s6 := s5.kept (grownBy_setCell' y2 B6 v2) (fun e => H6S.out.1 (Option.some.inj e).symm)
      have n6 := n5.kept (grownBy_setCell' y2 B6 v2) (fun e => H6S.out.2.1 (Option.some.inj e).symm)
      refine ⟨KO5.trans (KeepsOthers.setCell _ _ _), ⟨fun u hu => ?_, fun u hu => ?_⟩, ⟨v2, x5.set v2, ?_, trivial⟩, s6, n6, hH⟩
      · rw [HC0.out] at hu
        cases hu
        exact s6.cell
      · rw [HC1.out] at hu
        cases hu
        exact n6.cell
      · rw [HAP.out]
        exact r5.out.kept (grownBy_setCell' y2 B6 v2) (.inr hnr.symm)
    · have hs := hH.size
      have hN := hH.alloc hs (.cells cs.toArray 24)
      have qb := idsIn_one y0 ((O.drop (32 * x.1)).take 32) HP32.out
      rw [← HCS.out] at qb
      replace xv := xv.alloc (.cells cs.toArray 24)
      replace ys := ys.alloc (.cells cs.toArray 24)
      replace yn := yn.alloc (.cells cs.toArray 24)
      replace rv := rv.alloc (.cells cs.toArray 24)
      replace KO := KO.trans (KeepsOthers.alloc y0 (.cells cs.toArray 24))
      have hlx := xv.lt
      clear hH
      refine step_build_id (by rfl) _ rfl cs HCL.out rfl ?_
      refine hKK.out _ _ hN (fun hH => ?_)
      clear hKK KK hN
      try simp only [Act.put, List.setIfInBounds_toArray, List.set_cons_zero, List.set_cons_succ]
      generalize hgy : y0.alloc (.cells cs.toArray 24) = y1 at *
      have hyl : y0.heap.size < y1.heap.size := by rw [← hgy, World.size_alloc]; omega
      clear hgy
      generalize y0.heap.size = gb at *
      refine wpAnyH_ready (rs := [0]) (by kernel_rfl) (by simp) ?_
      refine AllReadyH.cons (o := { dst := some 19, op := Op.load 22 (Operand.tmp 6), type := 22, pos := "bytes.go:99", after := #[], guard := none }) rfl (fun KK hKK => ?_) AllReadyH.nil
      have cv := xv.cell
      have hN := hH
      clear hH
      go_simp
      refine hKK.out _ _ hN (fun hH => ?_)
      clear hKK KK hN
      try simp only [Act.put, List.setIfInBounds_toArray, List.set_cons_zero, List.set_cons_succ]
      clear cv
      refine wpAnyH_ready (rs := [5]) (by kernel_rfl) (by simp) ?_
      refine AllReadyH.cons (o := { dst := some 24, op := Op.call { callee := Callee.builtin Builtin.append, args := #[Operand.tmp 19, Operand.tmp 23], argTypes := #[22, 22] }, type := 22, pos := "bytes.go:99", after := #[{ on := 0, ground := Ground.data }, { on := 4, ground := Ground.data }], guard := none }) rfl (fun KK hKK => ?_) AllReadyH.nil
      refine step_append_ids (by rfl) _ _ rfl w1.heap.size v (rowOf O pre) [(O.drop (32 * x.1)).take 32] rfl rv HR32.out (.slice (some ⟨gb, 0, none⟩) 1 1) rfl qb (by have := HLN.out; simp; omega) hH.size ?_
      intro v2 y2 r5 g5 b5
      have hN := hH.trans b5.out
      have x5 := xv.kept g5.out (xv.not_row (by decide) rv)
      have s5 := ys.kept g5.out (ys.not_row (by decide) rv)
      have n5 := yn.kept g5.out (yn.not_row (by decide) rv)
      have hnr := x5.not_row (by decide) r5.out
      have KO5 := KO.trans (KeepsOthers.of_grownBy g5.out fun j ob ej hj => by
        rcases rv.2 with ⟨rfl, _⟩ | ⟨g, cap, cur, rfl, _, hgb, _⟩
        · simp [Value.ownBlock] at ej
        · obtain rfl : g = j := by simpa [Value.ownBlock] using ej
          rw [hgb] at hj; cases hj; rfl)
      clear hH KO xv ys yn rv qb
      refine hKK.out _ _ hN (fun hH => ?_)
      clear hKK KK hN
      try simp only [Act.put, List.setIfInBounds_toArray, List.set_cons_zero, List.set_cons_succ]
      refine wpAnyH_ready (rs := [6]) (by kernel_rfl) (by simp) ?_
      refine AllReadyH.cons (o := { dst := none, op := Op.store 22 (Operand.tmp 6) (Operand.tmp 24), type := 0, pos := "bytes.go:99", after := #[{ on := 5, ground := Ground.data }, { on := 5, ground := Ground.chain }, { on := 0, ground := Ground.phase }, { on := 1, ground := Ground.phase }, { on := 2, ground := Ground.phase }, { on := 3, ground := Ground.phase }, { on := 4, ground := Ground.phase }, { on := 5, ground := Ground.phase }], guard := none }) rfl (fun KK hKK => ?_) AllReadyH.nil
      have c5 := x5.cell
      have f5 := x5.frozen
      obtain ⟨vl, vcap, e5⟩ : ∃ g cap, v2 = .slice (some ⟨g, 0, none⟩) ((rowOf O pre).length + 1) cap := by
        have := r5.out; rw [List.length_append] at this; exact ownsRow_succ this
      have hN := hH.setCell (p := ⟨B6, 0, none⟩) H6S.out.2.2.1 v2
      have EQ5 := Lib.hid e5
      clear hH
      rw [e5]
      go_simp
      rw [← EQ5.out]
      refine hKK.out _ _ hN (fun hH => ?_)
      clear hKK KK hN
      try simp only [Act.put, List.setIfInBounds_toArray, List.set_cons_zero, List.set_cons_succ]
      refine wpAnyH_done (by kernel_rfl) ?_ _
      refine NoPanic.normal ?_
      have s6 := s5.kept (grownBy_setCell' y2 B6 v2) (fun e => H6S.out.1 (Option.some.inj e).symm)
      have n6 := n5.kept (grownBy_setCell' y2 B6 v2) (fun e => H6S.out.2.1 (Option.some.inj e).symm)
      refine ⟨KO5.trans (KeepsOthers.setCell _ _ _), ⟨fun u hu => ?_, fun u hu => ?_⟩, ⟨v2, x5.set v2, ?_, trivial⟩, s6, n6, hH⟩
      · rw [HC0.out] at hu
        cases hu
        exact s6.cell
      · rw [HC1.out] at hu
        cases hu
        exact n6.cell
      · rw [HAP.out]
        exact r5.out.kept (grownBy_setCell' y2 B6 v2) (.inr hnr.symm)
  case done =>
    rintro D xs W hD rfl ⟨⟨v, hv, hr, -⟩, -, -, hB⟩ hK
    have cv := hv.cell
    gi_wp2
    have hq : O.length / 32 = m := by have := HMO.out; omega
    have hch : chunksOf O = rowOf O (List.finRange m) := by unfold chunksOf rowOf; rw [hq]
    rw [hch]
    have hB5 : Below w1.heap.size w1 (W.putObj D (.deferred none)) := hB.grown (grownBy_putObj' W D _) hB.size (fun j ej => by cases ej; exact Nat.le_trans B4.size hD)
    refine ⟨by simp, .inl ⟨D, _, rfl, run_takeDeferred hK, ?_⟩⟩
    refine ⟨v, (results_tmp (t := 4) rfl _ _ _).trans rfl, ⟨v, rfl, Go.Joins.ownsRow_le (ownsRow_putObj hr _ hK rfl) HBB.out.size⟩, HRD.out.below hB5, HBB.out.trans (But.of_below hB5)⟩
end Go.Proofs.Ytjgmhaajcglpmaa
