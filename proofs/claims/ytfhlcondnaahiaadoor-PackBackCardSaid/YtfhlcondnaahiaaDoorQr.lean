/- pack.readHead, of a head that writeHead wrote. -/
import Derived.Test.YtfhlcondnaahiaaDoorQb
import Derived.Test.YtfhlcondnaahiaaDoorQa
namespace Go.Proofs.YtfhlcondnaahiaaDoor
open Go.RowKit Sha

theorem make_set (n : Nat) (w : World) : (Instr.makeMap 78 (some (.int .i64 (n : Int)))).run Tryd.prog w = .ok (.map (some w.heap.size)) (w.alloc (.map #[] 0)) := by kernel_rfl
theorem own_base {w : World} {base sz n : Nat} {e : TypeId} {v : Value} {xs : List Value} (h : w.ownsRow base e sz v n xs) (k : Nat) (hk : v.ownBlock = some k) : base ≤ k := by
  rcases h.2 with ⟨rfl, h0⟩ | ⟨q, cap, cur, rfl, hba, hh⟩
  · cases hk
  · simp only [Value.ownBlock] at hk
    cases hk
    exact hba
def zEn : List Value := zeros 32 ++ [Value.int .i64 0, Value.int .i64 0, Value.int .i64 0]
theorem zEn_len : zEn.length = 35 := by simp [zEn, zeros]
theorem zero_en (w : World) : (zeroValue 66).run Tryd.prog w = .ok (.agg zEn.toArray) w := zeroEn w
/-- What readHead holds: the reader (R is left), the row of the first j, the set of their names; all of it lies ahead of block T. -/
structure RhS (X : World) (B k g T : Nat) (v : Value) (L : List En) (j : Nat) (R : List UInt8) : Prop where
  rr : Gl.RdAt B X k R 0
  vv : X.ownsRow B 66 35 v (L.take j).length (enCells (L.take j))
  ss : setIs X g ((L.take j).map En.id)
  gg : B ≤ g
  kk : k < B
  gt : g < T
  vt : ∀ i, v.ownBlock = some i → i < T
  tt : B ≤ T
theorem RhS.kp {X Y : World} {B k g T j : Nat} {v : Value} {L : List En} {R : List UInt8} {f : Nat → Prop} (h : RhS X B k g T v L j R) (q : Kp f X Y) (hf : ∀ i, f i → T ≤ i) : RhS Y B k g T v L j R :=
  ⟨h.rr.kp q fun i hi => ⟨Nat.le_trans h.tt (hf i hi), fun e => by have := hf i hi; have := h.kk; have := h.tt; omega⟩,
    row_kp h.vv q fun i hi z => by have := hf i z; have := h.vt i hi; omega, set_kp h.ss q fun z => by have := hf g z; have := h.gt; omega, h.gg, h.kk, h.gt, h.vt, h.tt⟩
theorem RhS.call {X Y : World} {B k g T j : Nat} {v : Value} {L : List En} {R R' : List UInt8} (h : RhS X B k g T v L j R) (q : Gl.But k X Y) (hr : Gl.RdAt B Y k R' 0) : RhS Y B k g T v L j R' := by
  obtain ⟨p, ⟨h1, _⟩, _⟩ := h.rr
  have q : Kp (fun i => i = k) X Y := Gl.But.kp q (Or.inl rfl)
  exact ⟨hr, row_kp h.vv q fun i hi z => row_type h.vv h1 (by decide) (z ▸ hi), set_kp h.ss q fun z => h.ss.ne_cells h1 z, h.gg, h.kk, h.gt, h.vt, h.tt⟩
theorem RhS.make {X : World} {B k g j : Nat} {v : Value} {L : List En} {R : List UInt8} (r : Gl.RdAt B X k R 0) (hv : X.ownsRow B 66 35 v (L.take j).length (enCells (L.take j))) (hs : setIs X g ((L.take j).map En.id)) (hg : B ≤ g) (hk : k < B) (hb : B ≤ X.heap.size) : RhS X B k g X.heap.size v L j R := by
  refine ⟨r, hv, hs, hg, hk, hs.lt, fun i hi => ?_, hb⟩
  rcases hv.2 with ⟨e, h0⟩ | ⟨q, cap, cur, e, hba, hh, hr⟩
  · rw [e] at hi; cases hi
  · rw [e] at hi
    simp only [Value.ownBlock] at hi
    cases hi
    exact (Array.getElem?_eq_some_iff.1 hh).1
theorem RhS.top {X : World} {B k g T j : Nat} {v : Value} {L : List En} {R : List UInt8} (h : RhS X B k g T v L j R) (hb : B ≤ X.heap.size) : RhS X B k g X.heap.size v L j R := RhS.make h.rr h.vv h.ss h.gg h.kk hb

section
variable {w : World} {ops : Array Oper} {rest : List Oper} {o : Oper} {a : Act} {Q : Exit → Act → World → Prop}
theorem wpl_build_en (hgd : o.guard = none) (x : Operand) (ho : o.op = .buildSlice 31 1 #[(0, x)]) (cs : List Value) (hc : cs.length = 35) (hx : a.eval x = .agg cs.toArray)
    (h : wpList Tryd.prog ops Q rest (a.put o.dst (.slice (some ⟨w.heap.size, 0, none⟩) 1 1)) (w.alloc (.cells cs.toArray 66))) : wpList Tryd.prog ops Q (o :: rest) a w :=
  wpList_plain hgd fun K hK => by
    have hw : Region.wanted o (yielded ops a.tmps) = true := by simp [Region.wanted, hgd]
    have := step_build_en (K := K) (Q := Q) (E := True) hw x ho cs hc hx (hK _ _ h)
    rwa [if_pos hw] at this
theorem wpl_append_en (hgd : o.guard = none) (s x : Operand) (ho : o.op = .call { callee := .builtin .append, args := #[s, x], argTypes := #[31, 31] })
    (base : Nat) (v : Value) (L : List En) (hs : a.eval s = v) (hown : w.ownsRow base 66 35 v L.length (enCells L)) (g c : Nat) (n : En) (hok : n.ok) (hx : a.eval x = .slice (some ⟨g, 0, none⟩) 1 c) (hb : blockIs w g n.cells 66)
    (hn : L.length ≤ 100000) (hbase : base ≤ w.heap.size)
    (h : ∀ v' w', Hid (w'.ownsRow base 66 35 v' (L ++ [n]).length (enCells (L ++ [n]))) → Hid (w.grownBy w' v.ownBlock) → wpList Tryd.prog ops Q rest (a.put o.dst v') w') : wpList Tryd.prog ops Q (o :: rest) a w :=
  wpList_plain hgd fun K hK => by
    have hw : Region.wanted o (yielded ops a.tmps) = true := by simp [Region.wanted, hgd]
    have := step_append_en (K := K) (Q := Q) (E := True) hw s x ho base v L hs hown g c n hok hx hb hn hbase (fun v' w' h1 h2 _ => hK _ _ (h v' w' h1 h2))
    rwa [if_pos hw] at this
theorem wpl_put (hgd : o.guard = none) (x y z : Operand) (hop : o.op = Op.mapUpdate 78 x y z) (g : Nat) (L : List (List UInt8)) (n : List UInt8)
    (hx : a.eval x = .map (some g)) (hy : a.eval y = keyV n) (hz : a.eval z = .agg #[]) (hs : setIs w g L) (hn : n.length = 32) (hni : n ∉ L)
    (h : ∀ w', Hid (setIs w' g (L ++ [n])) → Hid (But g w w') → wpList Tryd.prog ops Q rest (a.put o.dst undef) w') : wpList Tryd.prog ops Q (o :: rest) a w :=
  wpList_plain hgd fun K hK => by
    have hw : Region.wanted o (yielded ops a.tmps) = true := by simp [Region.wanted, hgd]
    have := step_put (K := K) (Q := Q) (E := True) hw x y z hop g L n hx hy hz hs hn hni (fun w' h1 h2 => hK _ _ (h w' h1 h2))
    rwa [if_pos hw] at this
end
theorem RhS.app {X Y : World} {B k g T j : Nat} {v : Value} {L : List En} {R : List UInt8} (h : RhS X B k g T v L j R) (hg : X.grownBy Y v.ownBlock) : Gl.RdAt B Y k R 0 ∧ setIs Y g ((L.take j).map En.id) := by
  obtain ⟨p, ⟨h1, _⟩, _⟩ := h.rr
  have q : Kp (fun i => v.ownBlock = some i) X Y := Kp.grown hg fun _ z => Or.inl z
  exact ⟨h.rr.kp q fun i hi => ⟨own_base h.vv i hi, fun e => row_type h.vv h1 (by decide) (e ▸ hi)⟩, set_kp h.ss q fun z => row_map h.vv h.ss z⟩
theorem rhs_put {X Y : World} {B k g n : Nat} {v : Value} {xs : List Value} {R : List UInt8} {M : List (List UInt8)} (r : Gl.RdAt B X k R 0) (hv : X.ownsRow B 66 35 v n xs) (s : setIs X g M) (hg : B ≤ g) (q : But g X Y) : Gl.RdAt B Y k R 0 ∧ Y.ownsRow B 66 35 v n xs := by
  obtain ⟨p, ⟨h1, _⟩, _⟩ := r
  have q : Kp (fun i => i = g) X Y := Kp.but q (Or.inl rfl)
  exact ⟨Gl.RdAt.kp ⟨p, ⟨h1, ‹_›⟩, ‹_›⟩ q fun i hi => ⟨hi ▸ hg, fun e => s.ne_cells h1 (hi.symm.trans e)⟩, row_kp hv q fun i hi z => row_map hv s (z ▸ hi)⟩
theorem len_set {w : World} {g : Nat} {M : List (List UInt8)} (h : setIs w g M) : (Builtin.len_ #[78] 3 #[.map (some g)]).run Tryd.prog w = .ok (.int .i64 (M.length : Int)) w := by
  obtain ⟨es, clock, hb, -, hl, -⟩ := h
  have hsz : es.size = M.length := by have := congrArg List.length hl; simpa using this
  rw [← hsz]
  simp [Builtin.len_, run_underlying Tryd.underlying78, MapKept.run_getObj_map hb, goInt, Result.andThen]
theorem sum_lens (L : List En) (h : ∀ x ∈ L, x.len ≤ 1048576) : (L.map En.len).sum ≤ L.length * 1048576 := by
  induction L with
  | nil => simp
  | cons x L ih =>
    have := ih fun y hy => h y (List.mem_cons_of_mem _ hy)
    have := h x (List.mem_cons_self ..)
    rw [List.map_cons, List.sum_cons, List.length_cons]
    omega
theorem splice_en (l : List UInt8) (h : l.length = 32) : splice zEn 0 (byteCells l) = byteCells l ++ [Value.int .i64 0, Value.int .i64 0, Value.int .i64 0] := by
  unfold splice
  rw [byteCells_length, h, List.take_zero, List.nil_append]
  congr 1
theorem kp_from {b : Nat} {w w' : World} (h : Below b w w') : Kp (fun i => b ≤ i) w w' := ⟨h.os, h.tape, h.output, h.size, fun k _ hf => h.block k (Nat.lt_of_not_le hf)⟩
theorem info_i64 : (Tryd.prog.info? 3).map (·.size) = some 1 := by kernel_rfl
theorem set32 {l : List UInt8} (h : l.length = 32) {a b c z : Value} : (byteCells l ++ [a, b, c]).set 32 z = byteCells l ++ [z, b, c] := by
  rw [List.set_append_right _ _ (by rw [byteCells_length]; omega)]; simp [byteCells_length, h]
theorem set33 {l : List UInt8} (h : l.length = 32) {a b c z : Value} : (byteCells l ++ [a, b, c]).set 33 z = byteCells l ++ [a, z, c] := by
  rw [List.set_append_right _ _ (by rw [byteCells_length]; omega)]; simp [byteCells_length, h]
theorem set34 {l : List UInt8} (h : l.length = 32) {a b c z : Value} : (byteCells l ++ [a, b, c]).set 34 z = byteCells l ++ [a, b, z] := by
  rw [List.set_append_right _ _ (by rw [byteCells_length]; omega)]; simp [byteCells_length, h]
set_option maxRecDepth 100000 in
set_option maxHeartbeats 4000000 in
theorem readHead_any (p : Pt) (L : List En) (w : World) (hp : p.ok0 w) (he : p.l = headB L) (hf : ∀ x ∈ L, x.fine) (hm : ∀ x ∈ L, x.len ≤ 1048576) (hn : L.length ≤ 1000) (h0 : 0 < L.length) (hnd : (L.map En.id).Nodup) (ho : ∀ j (h : j < L.length), L[j].off = ((L.take j).map En.len).sum) :
    Calls Tryd.prog 43 #[.slice p.a p.l.length p.c] w fun e w' => ∃ v, e = .returned (.tuple #[v, .int .i64 (((L.map En.len).sum : Nat) : Int), .bool true]) ∧ w'.ownsRow w.heap.size 66 35 v L.length (enCells L) ∧ Below w.heap.size w w' := by
  have hlen : (headB L).length ≤ 7 + 37 * L.length := headP_len L hf (by omega) L.length
  have he2 : p.l = [72, 89, 104] ++ (Gl.numBytes L.length ++ L.flatMap enB) := by rw [he]; unfold headB headP; rw [List.take_length, List.append_assoc]
  have hF : (Gl.numBytes L.length ++ L.flatMap enB).length ≤ 100000000 := by
    have := congrArg List.length he2
    rw [he, List.length_append] at this
    omega
  have PO := ropen_is 104 p _ w hp he2 hF
  have LB0 : Hid ((L.flatMap enB).length ≤ 100000000) := Lib.hid (by rw [List.length_append] at hF; omega)
  rw [show V 104 = 104 from rfl] at PO
  have PO := Lib.hid PO
  have HF := Lib.hid hf
  have HM := Lib.hid hm
  have HO := Lib.hid ho
  have HND := Lib.hid hnd
  generalize p.l.length = pn at *
  clear hp he he2 hf hm ho hnd hlen hF
  go_enter Tryd.func43, Tryd.ntmps43
  go_wp2_with ((with_reducible refine PO.out.mono ?_); rintro e w1 ⟨k, rfl, hk1, hk2, hR, hB⟩; refine Hid.out ?_)
  refine Lib.hid ?_
  have B1 := Lib.hid hB
  have KB := Lib.hid (And.intro hk1 hk2)
  have PN := Lib.hid (Gl.rnum_is k L.length (L.flatMap enB) 1000 w1 hR (by omega) (by omega))
  clear PO hk1 hk2 hR hB
  obtain ⟨n, hnl⟩ : ∃ n, n = L.length := ⟨_, rfl⟩
  obtain ⟨B, hBB⟩ : ∃ B, B = w1.heap.size := ⟨_, rfl⟩
  rw [← hBB] at PN KB
  rw [← hnl] at PN h0 hn
  have NL := Lib.hid hnl
  have BQ := Lib.hid hBB
  clear hnl hBB
  go_wp2_with ((with_reducible refine PN.out.mono ?_); rintro e w2 ⟨rfl, hR, hb⟩; refine Hid.out ?_)
  refine Lib.hid ?_
  have R2 := Lib.hid hR
  have B2 := Lib.hid (B1.out.trans ((Gl.But.kp (f := fun i => i = k) hb (Or.inl rfl)).low (B := w.heap.size) (fun i hi => by rw [hi]; exact KB.out.1) B1.out.size))
  have SZ2 : Hid (B ≤ w2.heap.size) := Lib.hid (by rw [BQ.out]; exact hb.size)
  clear hR hb PN B1
  obtain ⟨w3, hmk, hown, hgr⟩ := make_ens n w2 (by omega)
  have hms := make_set n
  have hgz := hgr.size
  have B3 := Lib.hid (B2.out.trans ((Kp.grown (f := fun _ => False) hgr (fun _ q => by cases q)).low (B := w.heap.size) (fun _ q => q.elim) B2.out.size))
  have R3 := Lib.hid (R2.out.kp (Kp.grown (f := fun _ => False) hgr (fun _ q => by cases q)) fun _ q => q.elim)
  have OW3 := Lib.hid (Joins.ownsRow_le hown SZ2.out)
  have RB3 : Hid (w2.heap.size < w3.heap.size) := Lib.hid (by
    rcases hown.2 with ⟨e, _⟩ | ⟨q, cap, cur, e, _, hh, _⟩
    · cases e
    · cases e
      exact (Array.getElem?_eq_some_iff.1 hh).1)
  have SZ3 : Hid (B ≤ w3.heap.size) := Lib.hid (Nat.le_trans SZ2.out hgz)
  generalize w2.heap.size = rb at *
  clear hown hgr R2 B2 SZ2 hgz
  have p1 : 0 ≤ (n : Int) := by omega
  go_wp2_with fail
  have kb := alloc_below w3 (.map #[] 0)
  have R4 := Lib.hid (R3.out.below kb)
  have B4 := Lib.hid (B3.out.trans (kb.mono B3.out.size))
  have OW4 := Lib.hid (row_kp OW3.out (Kp.below (f := fun _ => False) kb) fun _ _ => id)
  have ST4 := Lib.hid (setIs.new w3)
  have RB4 : Hid (rb < (w3.alloc (.map #[] 0)).heap.size) := Lib.hid (Nat.lt_of_lt_of_le RB3.out kb.size)
  have GB : Hid (B ≤ w3.heap.size) := Lib.hid SZ3.out
  generalize w3.alloc (.map #[] 0) = w4 at *
  generalize w3.heap.size = g at *
  have T4 : Hid (rb < w4.heap.size ∧ g < w4.heap.size) := Lib.hid ⟨RB4.out, ST4.out.lt⟩
  have RS := Lib.hid (RhS.mk (L := L) (j := 0) (v := .slice (some ⟨rb, 0, none⟩) 0 n) (X := w4) (B := B) (k := k) (g := g) (T := w4.heap.size) (R := L.flatMap enB) R4.out OW4.out ST4.out GB.out KB.out.2 T4.out.2 (fun i hi => by simp only [Value.ownBlock] at hi; cases hi; exact T4.out.1) (by have := T4.out.2; have := GB.out; omega))
  clear R3 R4 B3 OW3 OW4 ST4 GB SZ3 kb hmk hms
  have HLB : Hid ((L.flatMap enB).length ≤ 100000000) := LB0
  clear T4 RB3 RB4
  go_loopw [20, 7, 9] (fun i v s wr => ∃ j sm : Nat, j ≤ n ∧ i = .int .i64 (j : Int) ∧ s = .int .i64 (sm : Int) ∧ Hid (sm = ((L.take j).map En.len).sum) ∧ (∃ T, Hid (RhS wr B k g T v L j ((L.drop j).flatMap enB))) ∧ Hid (Below w.heap.size w wr) ∧ Hid (B ≤ wr.heap.size)) (fun i _ _ _ => n - (intOf i).toNat)
  case atStart => exact ⟨0, 0, by omega, rfl, rfl, Lib.hid rfl, ⟨_, RS⟩, B4, Lib.hid (Nat.le_trans RS.out.gg (Nat.le_of_lt RS.out.ss.lt))⟩
  case round =>
    obtain ⟨j, sm, hj, rfl, rfl, SM, ⟨T, RSr⟩, BR, SB⟩ := hrel
    clear RS B4
    have hz := zero_en
    have RT := Lib.hid (RSr.out.top SB.out)
    clear RSr
    by_cases hlt : j < n
    · have q1 : (j : Int) < (n : Int) := by omega
      obtain ⟨x, hx⟩ : ∃ x, x = L[j]'(NL.out ▸ hlt) := ⟨_, rfl⟩
      have hjl : j < L.length := NL.out ▸ hlt
      have hmem : x ∈ L := hx ▸ List.getElem_mem hjl
      have X1 : Hid (x.id.length = 32) := Lib.hid (HF.out x hmem).1
      have XK : Hid (x.kind = 1 ∨ x.kind = 2) := Lib.hid (HF.out x hmem).2.1
      have XL : Hid (x.len ≤ 1048576) := Lib.hid (HM.out x hmem)
      have XO : Hid (x.off = sm) := Lib.hid (by rw [hx, HO.out j hjl, SM.out])
      obtain ⟨kd, KD⟩ : ∃ kd : Nat, Hid (x.kind = (kd : Int) ∧ (kd = 1 ∨ kd = 2)) := by
        rcases XK.out with e | e
        · exact ⟨1, Lib.hid ⟨e, Or.inl rfl⟩⟩
        · exact ⟨2, Lib.hid ⟨e, Or.inr rfl⟩⟩
      have DR : Hid ((L.drop j).flatMap enB = x.id ++ (Gl.numBytes kd ++ (Gl.numBytes x.len ++ (L.drop (j + 1)).flatMap enB))) := Lib.hid (by
        rw [List.drop_eq_getElem_cons hjl, List.flatMap_cons, ← hx]
        simp [enB, List.append_assoc, KD.out.1])
      have DL : Hid ((x.id ++ (Gl.numBytes kd ++ (Gl.numBytes x.len ++ (L.drop (j + 1)).flatMap enB))).length ≤ 100000000) := Lib.hid (by
        rw [← DR.out]
        have h1 := HLB.out
        rw [← List.take_append_drop j L, List.flatMap_append, List.length_append] at h1
        omega)
      have TK : Hid (L.take (j + 1) = L.take j ++ [x]) := Lib.hid (by rw [List.take_succ_eq_append_getElem hjl, ← hx])
      have NI0 : Hid (x.id ∉ (L.take j).map En.id) := Lib.hid (by
        have h := HND.out
        rw [← List.take_append_drop (j + 1) L, TK.out, List.map_append, List.map_append] at h
        have h := (List.nodup_append.1 h).1
        intro hm
        exact (List.nodup_append.1 h).2.2 _ hm _ (List.mem_singleton.2 rfl) rfl)
      have SMB : Hid (sm ≤ 1048576000) := Lib.hid (by
        have h1 := sum_lens (L.take j) fun y hy => HM.out y (List.mem_of_mem_take hy)
        rw [← SM.out, List.length_take] at h1
        have := NL.out
        omega)
      rw [DR.out] at RT
      obtain ⟨R', hR'⟩ : ∃ R', R' = (L.drop (j + 1)).flatMap enB := ⟨_, rfl⟩
      rw [← hR'] at RT DL
      have HRR := Lib.hid hR'
      clear hR'
      clear DR hmem hx hjl XK
      go_wp2_with fail
      have kb := alloc_below wr (.cells zEn.toArray 66 (0, 0))
      have XB := Lib.hid (blockIs.new wr zEn 66)
      have RT1 := Lib.hid (RT.out.kp (Kp.below (f := fun _ => False) kb) fun _ q => q.elim)
      have BA := Lib.hid (BR.out.trans (kb.mono BR.out.size))
      have TB : Hid (B ≤ wr.heap.size) := SB
      clear RT BR SB kb hz
      generalize wr.alloc (.cells zEn.toArray 66) = wa at *
      generalize wr.heap.size = xb at *
      have RT2 := Lib.hid (RT1.out.kp (Kp.below (f := fun _ => False) (below_drew' (Below.refl wa.heap.size wa))) fun _ q => q.elim)
      have XB2 := Lib.hid (XB.out.below (below_drew' (Below.refl wa.heap.size wa)) XB.out.lt)
      clear RT1 XB
      refine wp_region_noPanic ?_
      refine wp_region_held_drew (S := fun w' => Below w.heap.size w w') (by kernel_rfl) (below_drew' BA.out) (fun hH => ?_)
      generalize wa.drew = x0 at *
      refine wpAnyH_take (i := 0) (oi := { dst := some 22, op := Op.fieldAddr 66 (Operand.tmp 10) 0, type := 0, pos := "pack.go:124", after := #[], guard := none }) (v := .pointer (some ⟨xb, 0, none⟩)) rfl (by kernel_rfl) (by kernel_rfl) (by kernel_rfl) (fun _ _ _ h => h) (Or.inl ⟨by rfl, fun wx hS => ?_⟩) hH ?_
      · go_simp
      simp only [Act.put, List.setIfInBounds_toArray, List.set_cons_zero, List.set_cons_succ]
      refine wpAnyH_take (i := 1) (oi := { dst := some 23, op := Op.slice 24 (Operand.tmp 22) none none none, type := 30, pos := "pack.go:124", after := #[⟨0, .data⟩], guard := none }) (v := .slice (some ⟨xb, 0, none⟩) 32 32) rfl (by kernel_rfl) (by kernel_rfl) (by kernel_rfl) (fun _ _ _ h => h) (Or.inl ⟨by rfl, fun wx hS => ?_⟩) hH ?_
      · go_simp
      simp only [Act.put, List.setIfInBounds_toArray, List.set_cons_zero, List.set_cons_succ]
      refine wpAnyH_take (i := 2) (oi := { dst := some 24, op := Op.move (Operand.tmp 5), type := 127, pos := "pack.go:124", after := #[], guard := none }) (v := .pointer (some ⟨k, 0, none⟩)) rfl (by kernel_rfl) (by kernel_rfl) (by kernel_rfl) (fun _ _ _ h => h) (Or.inl ⟨by rfl, fun wx hS => ?_⟩) hH ?_
      · go_simp
      simp only [Act.put, List.setIfInBounds_toArray, List.set_cons_zero, List.set_cons_succ]
      refine wpAnyH_ready (rs := [3]) (by kernel_rfl) (by simp) ?_
      refine AllReadyH.cons (o := { dst := some 25, op := Op.call { callee := Callee.value (Operand.func 65), args := #[Operand.tmp 24, Operand.const (Value.int IntKind.i64 32)], argTypes := #[127, 3] }, type := 30, pos := "pack.go:124", after := #[⟨2, .data⟩], guard := none }) rfl (fun KK hKK => ?_) AllReadyH.nil
      go_simp
      refine (Gl.rraw_is k x.id _ 32 x0 RT2.out.rr (by rw [X1.out]; rfl) DL.out).mono ?_
      rintro e x1 ⟨v, rfl, hv, hr, hb⟩
      have KK1 := Lib.hid (Gl.But.kp (f := fun i => i = k) hb (Or.inl rfl))
      have RT3 := Lib.hid (RT2.out.call hb hr)
      have XB3 := Lib.hid (KK1.out.is XB2.out fun z => by have := RT3.out.kk; have := TB.out; omega)
      have kk := hH.trans (KK1.out.low (B := w.heap.size) (fun i hi => by rw [hi]; exact KB.out.1) hH.size)
      obtain ⟨sa, sc, rfl, hsc, hcm, hin, -, -⟩ := hv.form2
      have IN3 := Lib.hid hin
      rw [X1.out]
      clear hH RT2 XB2 hv hr hb hsc hcm hin
      refine hKK.out _ _ kk (fun hH => ?_)
      clear hKK KK kk
      try simp only [Act.put, List.setIfInBounds_toArray, List.set_cons_zero, List.set_cons_succ]
      refine wpAnyH_ready (rs := [4]) (by kernel_rfl) (by simp) ?_
      refine AllReadyH.cons (o := { dst := some 26, op := Op.call { callee := Callee.builtin Builtin.copy, args := #[Operand.tmp 23, Operand.tmp 25], argTypes := #[30, 30] }, type := 3, pos := "pack.go:124", after := #[⟨1, .data⟩, ⟨3, .data⟩, ⟨3, .chain⟩], guard := none }) rfl (fun KK hKK => ?_) AllReadyH.nil
      refine step_copy_splice rfl (.tmp 23) (.tmp 25) 30 30 rfl 5 Tryd.underlying30 (by kernel_rfl) _ _ _ _ _ _ rfl rfl xb 0 zEn 66 XB3.out (byteCells x.id) (by rw [byteCells_length, X1.out]; rfl) (fun _ => ?_) (by rw [byteCells_length, X1.out, zEn_len]; decide) (byteCells_one _) xb x1 (Below.refl _ _) (Nat.le_refl _) ?_
      · rcases IN3.out with h0 | ⟨b, o, h1, h2⟩
        · have := X1.out; rw [h0] at this; cases this
        · refine ⟨rfl, _, h1, fun i u hi => ?_⟩
          have hl : i < x.id.length := by have := (List.getElem?_eq_some_iff.1 hi).1; rwa [byteCells_length] at this
          rw [Go.WideShapes.add_plain, h2 i hl, ← hi]
          simp [byteCells, hl]
          rfl
      intro x2 h1 h2
      have h1 := h1.out
      rw [splice_en x.id X1.out] at h1
      have XB4 : Hid (blockIs x2 xb (byteCells x.id ++ [Value.int .i64 0, Value.int .i64 0, Value.int .i64 0]) 66) := Lib.hid h1
      have RT4 := Lib.hid (RT3.out.kp (f := fun i => xb ≤ i) (kp_from h2) fun i hi => hi)
      have kk := hH.trans (h2.mono (by have := KB.out; have := TB.out; omega))
      clear h1 h2 hH RT3 XB3 IN3 KK1
      refine hKK.out _ _ kk (fun hH => ?_)
      clear hKK KK kk
      try simp only [Act.put, List.setIfInBounds_toArray, List.set_cons_zero, List.set_cons_succ]
      refine wpAnyH_done (by kernel_rfl) ?_ _
      refine NoPanic.normal ?_
      have BA4 := Lib.hid hH
      clear hH BA
      have PN1 := Gl.rnum_is k kd (Gl.numBytes x.len ++ R') 2 x2 RT4.out.rr (by have := KD.out.2; omega) (by have := KD.out.2; omega)
      go_wp2_with ((with_reducible refine PN1.mono ?_); rintro e x3 ⟨rfl, hr, hb⟩; refine Hid.out ?_)
      refine Lib.hid ?_
      have KK5 := Lib.hid (Gl.But.kp (f := fun i => i = k) hb (Or.inl rfl))
      have RT5 := Lib.hid (RT4.out.call hb hr)
      have XB5 := Lib.hid (KK5.out.is XB4.out fun z => by have := RT5.out.kk; have := TB.out; omega)
      have BA5 := Lib.hid (BA4.out.trans (KK5.out.low (B := w.heap.size) (fun i hi => by rw [hi]; exact KB.out.1) BA4.out.size))
      clear KK5 RT4 XB4 BA4 hr hb
      clear PN1
      have PN2 := Gl.rnum_is k x.len R' 1048576 x3 RT5.out.rr (by have := XL.out; omega) (by have := XL.out; omega)
      go_wp2_with ((with_reducible refine PN2.mono ?_); rintro e x4 ⟨rfl, hr, hb⟩; refine Hid.out ?_)
      refine Lib.hid ?_
      have KK6 := Lib.hid (Gl.But.kp (f := fun i => i = k) hb (Or.inl rfl))
      have RT6 := Lib.hid (RT5.out.call hb hr)
      have XB6 := Lib.hid (KK6.out.is XB5.out fun z => by have := RT6.out.kk; have := TB.out; omega)
      have BA6 := Lib.hid (BA5.out.trans (KK6.out.low (B := w.heap.size) (fun i hi => by rw [hi]; exact KB.out.1) BA5.out.size))
      clear KK6 RT5 XB5 BA5 hr hb
      clear PN2
      have hf2 : ∀ a b c : Value, 34 < (byteCells x.id ++ [a, b, c]).length := fun a b c => by rw [List.length_append, byteCells_length, X1.out]; exact Nat.lt_succ_self 34
      have hf1 : ∀ a b c : Value, 33 < (byteCells x.id ++ [a, b, c]).length := fun a b c => Nat.lt_of_succ_lt (hf2 a b c)
      have hf0 : ∀ a b c : Value, 32 < (byteCells x.id ++ [a, b, c]).length := fun a b c => Nat.lt_of_succ_lt (hf1 a b c)
      go_wp2_with (refine wpList_store_cell (by rfl) 3 _ _ rfl xb 32 (.int .i64 (kd : Int)) rfl rfl _ 66 XB6.out info_i64 (hf0 _ _ _) rfl rfl ?_)
      intro x5 P1 P2 P3
      have P1 := P1.out
      rw [set32 X1.out] at P1
      have RT7 := Lib.hid (RT6.out.kp (f := fun i => i = xb) (Kp.but P2.out (Or.inl rfl)) fun i hi => Nat.le_of_eq hi.symm)
      have BA7 := Lib.hid (BA6.out.trans ((Kp.but (f := fun i => i = xb) P2.out (Or.inl rfl)).low (B := w.heap.size) (fun i hi => by have := KB.out; have := TB.out; omega) BA6.out.size))
      have XB7 := Lib.hid P1
      clear P1 P2 P3 RT6 BA6 XB6
      go_wp2_with (refine wpList_store_cell (by rfl) 3 _ _ rfl xb 33 (.int .i64 (sm : Int)) rfl rfl _ 66 XB7.out info_i64 (hf1 _ _ _) rfl rfl ?_)
      intro x6 P1 P2 P3
      have P1 := P1.out
      rw [set33 X1.out] at P1
      have RT8 := Lib.hid (RT7.out.kp (f := fun i => i = xb) (Kp.but P2.out (Or.inl rfl)) fun i hi => Nat.le_of_eq hi.symm)
      have BA8 := Lib.hid (BA7.out.trans ((Kp.but (f := fun i => i = xb) P2.out (Or.inl rfl)).low (B := w.heap.size) (fun i hi => by have := KB.out; have := TB.out; omega) BA7.out.size))
      have XB8 := Lib.hid P1
      clear P1 P2 P3 RT7 BA7 XB7
      go_wp2_with (refine wpList_store_cell (by rfl) 3 _ _ rfl xb 34 (.int .i64 (x.len : Int)) rfl rfl _ 66 XB8.out info_i64 (hf2 _ _ _) rfl rfl ?_)
      intro x7 P1 P2 P3
      have P1 := P1.out
      rw [set34 X1.out] at P1
      have RT9 := Lib.hid (RT8.out.kp (f := fun i => i = xb) (Kp.but P2.out (Or.inl rfl)) fun i hi => Nat.le_of_eq hi.symm)
      have BA9 := Lib.hid (BA8.out.trans ((Kp.but (f := fun i => i = xb) P2.out (Or.inl rfl)).low (B := w.heap.size) (fun i hi => by have := KB.out; have := TB.out; omega) BA8.out.size))
      have XB9 := Lib.hid P1
      clear P1 P2 P3 RT8 BA8 XB8
      clear hf0 hf1 hf2
      have PE := Gl.rerr_any k R' 0 x7 RT9.out.rr
      have PK := isKind_yes (kd : Int) (by have := KD.out.2; omega)
      have c32 : x7.cell? ⟨xb, 32, none⟩ = some (.int .i64 (kd : Int)) := by rw [XB9.out.cell, List.getElem?_append_right (by rw [byteCells_length, X1.out]; exact Nat.le_refl _), byteCells_length, X1.out]; rfl
      obtain ⟨XC, hXC⟩ : ∃ XC, XC = byteCells x.id ++ [Value.int .i64 (kd : Int), Value.int .i64 (sm : Int), Value.int .i64 (x.len : Int)] := ⟨_, rfl⟩
      have XB := Lib.hid (hXC ▸ XB9.out : blockIs x7 xb XC 66)
      have X35 : Hid (XC.length = 35) := Lib.hid (by rw [hXC, List.length_append, byteCells_length, X1.out]; rfl)
      have XCE : Hid (XC = x.cells) := Lib.hid (by rw [hXC]; unfold En.cells; rw [KD.out.1, XO.out])
      have XCI : Hid (∀ i u, (byteCells x.id)[i]? = some u → XC[i]? = some u) := Lib.hid (fun i u hi => by rw [hXC, List.getElem?_append_left (List.getElem?_eq_some_iff.1 hi).1]; exact hi)
      have XC34 : Hid (XC[34]? = some (.int .i64 (x.len : Int))) := Lib.hid (by rw [hXC, List.getElem?_append_right (by rw [byteCells_length, X1.out]; decide), byteCells_length, X1.out]; rfl)
      clear hXC XB9
      go_wp2_with (first | ((with_reducible refine PE.mono ?_); rintro e x8 ⟨rfl, rfl⟩) | ((with_reducible refine (PK _).mono ?_); rintro e x8 ⟨rfl, rfl⟩) | (refine wpList_load_mid (by rfl) 66 _ rfl xb 0 rfl XC _ (fun i u hi => (XB.out.cell (0 + i)).trans (by rw [Nat.zero_add]; exact hi)) Tryd.underlying66 rfl (by rw [info_en, X35.out]) ?_; refine Hid.out ?_))
      refine Lib.hid ?_
      have kb := alloc_below x7 (.cells XC.toArray 66 (0, 0))
      have NB := Lib.hid (blockIs.new x7 XC 66)
      have RTa := Lib.hid (RT9.out.kp (Kp.below (f := fun _ => False) kb) fun _ q => q.elim)
      have BAa := Lib.hid (BA9.out.trans (kb.mono BA9.out.size))
      have XBa := Lib.hid (XB.out.below kb XB.out.lt)
      have SZa : Hid (xb < x7.heap.size) := Lib.hid XB.out.lt
      clear PE c32
      go_wp2_with (refine wpl_build_en (by rfl) _ rfl XC X35.out rfl ?_; refine Hid.out ?_)
      refine Lib.hid ?_
      have SZb : Hid (xb < (x7.alloc (.cells XC.toArray 66)).heap.size) := Lib.hid (Nat.lt_of_lt_of_le SZa.out kb.size)
      generalize x7.alloc (.cells XC.toArray 66) = xa at *
      generalize x7.heap.size = nb at *
      clear RT9 BA9 XB kb
      have HU := Lib.hid RTa.out.vv
      go_wp2_with (refine wpl_append_en (by rfl) _ _ rfl B _ (L.take j) rfl HU.out nb 1 x X1.out rfl (XCE.out ▸ NB.out) (by rw [List.length_take]; have := NL.out; omega) (by have := TB.out; have := SZb.out; omega) ?_)
      intro v9 x9 P1 P2
      rw [← TK.out] at P1
      have AP := Lib.hid (RTa.out.app P2.out)
      have OW := P1
      have K9 : Hid (Kp (fun i => B ≤ i ∧ i < xb) xa x9) := Lib.hid (Kp.grown P2.out fun i hi => Or.inl ⟨own_base HU.out i hi, RTa.out.vt i hi⟩)
      have BAb := Lib.hid (BAa.out.trans (K9.out.low (B := w.heap.size) (fun i hi => by have := KB.out; omega) BAa.out.size))
      have XBb := Lib.hid (K9.out.is XBa.out fun z => Nat.lt_irrefl _ z.2)
      have GG : Hid (B ≤ g ∧ g < xb ∧ k < B) := Lib.hid ⟨RTa.out.gg, RTa.out.gt, RTa.out.kk⟩
      have SZc : Hid (B ≤ x9.heap.size) := Lib.hid (by have := K9.out.size; have := SZb.out; have := TB.out; omega)
      clear P1 P2 HU RTa BAa XBa K9 NB
      have NI : Hid (x.id ∉ (L.take j).map En.id) := NI0
      have hu := unit_at
      go_wp2_with (refine wpList_load_mid (by rfl) 24 _ rfl xb 0 rfl (byteCells x.id) _ (fun i u hi => (XBb.out.cell (0 + i)).trans (by rw [Nat.zero_add]; exact XCI.out i u hi)) Tryd.underlying24 rfl (by rw [infoId, byteCells_length, X1.out]) ?_; refine Hid.out ?_)
      refine Lib.hid ?_
      go_wp2_with (refine wpl_put (by rfl) _ _ _ rfl g ((L.take j).map En.id) x.id rfl rfl rfl AP.out.2 X1.out NI.out ?_)
      intro xz P1 P2
      have RP := Lib.hid (rhs_put AP.out.1 OW.out AP.out.2 GG.out.1 P2.out)
      have KZ : Hid (Kp (fun i => i = g) x9 xz) := Lib.hid (Kp.but P2.out (Or.inl rfl))
      have XBz := Lib.hid (KZ.out.is XBb.out fun z => by have := GG.out; omega)
      have BAz := Lib.hid (BAb.out.trans (KZ.out.low (B := w.heap.size) (fun i hi => by rw [hi]; have := GG.out; have := KB.out; omega) BAb.out.size))
      have SZz : Hid (B ≤ xz.heap.size) := Lib.hid (Nat.le_trans SZc.out KZ.out.size)
      have SE : Hid (setIs xz g ((L.take (j + 1)).map En.id)) := Lib.hid (by rw [TK.out, List.map_append, List.map_take]; exact P1.out)
      have LE9 : (L.take (j + 1)).length = min j L.length + 1 := by rw [TK.out]; simp
      have RSz := Lib.hid (RhS.make RP.out.1 (by rw [LE9]; exact RP.out.2) SE.out GG.out.1 GG.out.2.2 SZz.out)
      have c34 : xz.cell? ⟨xb, 34, none⟩ = some (.int .i64 (x.len : Int)) := (XBz.out.cell 34).trans XC34.out
      have ew : IntKind.i64.wrap ((sm : Int) + (x.len : Int)) = ((sm + x.len : Nat) : Int) := by rw [IntWalk.i64_in _ (by have := SMB.out; have := XL.out; omega)]; omega
      have SM2 : Hid (sm + x.len = ((L.take (j + 1)).map En.len).sum) := Lib.hid (by rw [TK.out, List.map_append, List.sum_append, ← SM.out]; simp)
      generalize sm + x.len = s2 at *
      clear LE9 P1 P2 RP KZ XBz SE AP OW XBb BAb SZc hu
      go_wp2_with fail
      go_roundw
      case rel => exact ⟨j + 1, s2, by omega, by go_num, rfl, SM2, ⟨_, HRR.out ▸ RSz⟩, BAz, SZz⟩
      case measure => simp [intOf]; omega
    · have q1 : ¬ (j : Int) < (n : Int) := by omega
      have hjn : j = n := by omega
      have ED : (L.drop j).flatMap enB = [] := by rw [List.drop_of_length_le (by rw [← NL.out]; omega)]; rfl
      have ET' : L.take j = L := List.take_of_length_le (by rw [← NL.out]; omega)
      rw [ED] at RT
      rw [ET'] at SM
      have PE := Gl.rend_is k wr RT.out.rr
      clear ED
      have nz : (0 : Int) < (n : Int) := by omega
      go_wp2_with ((with_reducible refine PE.mono ?_); rintro e x8 ⟨rfl, hr, hb⟩; refine Hid.out ?_)
      refine Lib.hid ?_
      have RT8 := Lib.hid (RT.out.call hb hr)
      have B8 := Lib.hid (BR.out.trans ((Gl.But.kp (f := fun i => i = k) hb (Or.inl rfl)).low (B := w.heap.size) (fun i hi => by rw [hi]; exact KB.out.1) BR.out.size))
      have ln := len_set RT8.out.ss
      rw [ET', List.length_map, ← NL.out] at ln
      clear hr hb PE RT BR hz
      go_wp2_with fail
      refine bodyPost_ret (v := .tuple #[_, .int .i64 (sm : Int), .bool true]) (results_tmp3 (t := 2) (u := 3) (v := 4) rfl _ _ _) rfl ?_
      have ov := RT8.out.vv
      rw [ET'] at ov
      refine ⟨_, ?_, Joins.ownsRow_le ov (by have := KB.out; omega), B8.out⟩
      rw [← SM.out]
      rfl
end Go.Proofs.YtfhlcondnaahiaaDoor
