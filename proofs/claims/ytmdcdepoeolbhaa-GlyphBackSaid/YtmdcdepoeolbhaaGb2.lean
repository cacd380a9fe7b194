/- GlyphBack: the things are written. -/
import Derived.Test.YtmdcdepoeolbhaaGb3
namespace Go.Proofs.Ytmdcdepoeolbhaa
open Go.RowKit

theorem flat_snoc (I : List Itm) (p : Itm) : (I ++ [p]).flatMap Itm.bytes = I.flatMap Itm.bytes ++ p.bytes := by simp
theorem icells_snoc (I : List Itm) (p : Itm) : icells (I ++ [p]) = icells I ++ p.cells := by simp [icells]
theorem ok_snoc {I : List Itm} {p : Itm} (h : ∀ q ∈ I, q.ok) (hp : p.ok) : ∀ q ∈ I ++ [p], q.ok := fun q hq => by
  rcases List.mem_append.1 hq with h1 | h1
  · exact h q h1
  · rw [List.mem_singleton.1 h1]; exact hp
def capB (j : Nat) : Nat := 400 * j
theorem cap_snoc {I : List Itm} {p : Itm} {j : Nat} (h : (I.flatMap Itm.bytes).length ≤ capB j) (e : capB (j + 1) = capB j + 400) (hp : p.bytes.length ≤ 400) : ((I ++ [p]).flatMap Itm.bytes).length ≤ capB (j + 1) := by
  rw [flat_snoc, List.length_append]; omega
theorem rowT_below {w w' : World} {base : Nat} {v : Value} {I : List Itm} (h : rowT w base v I) (k : Below w.heap.size w w') : rowT w' base v I := by
  refine ⟨h.1, ?_⟩
  rcases h.2 with h0 | ⟨q, cap, cur, hv, hq, hc, r⟩
  · exact .inl h0
  · exact .inr ⟨q, cap, cur, hv, hq, (k.block q (Array.getElem?_eq_some_iff.1 hc).1).trans hc, r⟩
/-- The row isn't the writer's block. -/
theorem rowT_kept {w w' : World} {base k : Nat} {v : Value} {I : List Itm} (h : rowT w base v I) (hk : KeptT k w w') (hv : ∀ g, v.ownBlock = some g → g ≠ k) : rowT w' base v I := by
  refine ⟨h.1, ?_⟩
  rcases h.2 with h0 | ⟨q, cap, cur, rfl, hq, hc, r⟩
  · exact .inl h0
  · exact .inr ⟨q, cap, cur, rfl, hq, (hk.2 q (Array.getElem?_eq_some_iff.1 hc).1 (hv q rfl) (fun cur' fz => by
      intro h
      rw [hc] at h
      injection h with h
      injection h with _ h _
      exact absurd h (by decide))).trans hc, r⟩
theorem itm_0 {A : Int} {N : Nat} {S : List UInt8} (h : kindOf A = 0) : (⟨A, N, S⟩ : Itm).bytes = numBytes N := by simp [Itm.bytes, h]
theorem itm_1 {A : Int} {N : Nat} {S : List UInt8} (h : kindOf A = 1) : (⟨A, N, S⟩ : Itm).bytes = numBytes S.length ++ S := by simp [Itm.bytes, h]
theorem itm_2 {A : Int} {N : Nat} {S : List UInt8} (h : kindOf A = 2) : (⟨A, N, S⟩ : Itm).bytes = [UInt8.ofNat (N % 2)] := by simp [Itm.bytes, h]
theorem itm_3 {A : Int} {N : Nat} {S : List UInt8} (h : kindOf A = 3) : (⟨A, N, S⟩ : Itm).bytes = S := by simp [Itm.bytes, h]
theorem thg_ne {w : World} {B k : Nat} {s : List UInt8 × Int} {v : Value} {I : List Itm} (h : OutAt w B k s) (r : rowT w B v I) : ∀ g, v.ownBlock = some g → g ≠ k := by
  intro q hq e
  subst e
  obtain ⟨u, h1, h2, h3, h4⟩ := h
  rcases r.2 with ⟨rfl, _⟩ | ⟨q', cap, cur, rfl, _, hc, _⟩
  · cases hq
  · obtain rfl : q' = q := by injection hq
    unfold blockIs at h2
    rw [h2] at hc
    injection hc with hc
    injection hc with _ hc _
    exact absurd hc (by decide)
/-- The row grows: the writer is kept. -/
theorem OutAt.grownT {w w' : World} {B k : Nat} {s : List UInt8 × Int} {v : Value} {I : List Itm} (h : OutAt w B k s) (r : rowT w B v I) (g : w.grownBy w' v.ownBlock) : OutAt w' B k s := by
  have hk := thg_ne h r
  obtain ⟨u, h1, h2, h3, h4⟩ := h
  refine ⟨u, h1, ?_, ⟨h3.1, ?_⟩, h4⟩
  · show w'.heap[k]? = _
    rw [g.block k h2.lt (fun e => hk k e.symm rfl)]
    exact h2
  · rcases h3.2 with h0 | ⟨q, cap, cur, hv, hq, hc, r2⟩
    · exact .inl h0
    · refine .inr ⟨q, cap, cur, hv, hq, ?_, r2⟩
      rw [g.block q (Array.getElem?_eq_some_iff.1 hc).1 (fun e => ?_)]
      · exact hc
      · rcases r.2 with ⟨rfl, _⟩ | ⟨q', cap', cur', rfl, _, hc', _⟩
        · cases e
        · obtain rfl : q = q' := by injection e
          rw [hc] at hc'
          injection hc' with hc'
          injection hc' with _ hc' _
          exact absurd hc' (by decide)
theorem append_itm {w : World} {ops : Array Oper} {rest : List Oper} {o : Oper} {a : Act} {Q : Exit → Act → World → Prop} (hgd : o.guard = none) (s x : Operand)
    (ho : o.op = .call { callee := .builtin .append, args := #[s, x], argTypes := #[22, 22] })
    (base : Nat) (v : Value) (I : List Itm) (hs : a.eval s = v) (hown : rowT w base v I) (g c : Nat) (p : Itm) (hx : a.eval x = .slice (some ⟨g, 0, none⟩) 1 c) (hb : blockIs w g p.cells 33)
    (hn : I.length ≤ 1000000) (hbase : base ≤ w.heap.size)
    (h : ∀ v' w', Hid (rowT w' base v' (I ++ [p])) → Hid (w.grownBy w' v.ownBlock) → wpList Try.prog ops Q rest (a.put o.dst v') w') : wpList Try.prog ops Q (o :: rest) a w := by
  obtain ⟨i0, hi, hz0, hz1, hz2⟩ := info_parts info_thg
  refine wpList_append_own w hgd s x 22 ho base 33 i0 _ 3 32 Try.underlying22 hi hz0 hz1 hz2 rfl (by decide) v I.length (icells I) hs hown ⟨g, 0, none⟩ 1 c p.cells hx rfl (fun j u hj => ?_) (fun u hu => ?_) (by unfold maxLen; omega) (by omega) hbase (fun v' w' r1 r2 _ => h v' w' (Lib.hid ?_) (Lib.hid r2))
  · rw [Addr.add_lit, Nat.zero_add, hb.cell]
    exact hj
  · simp only [Itm.cells, List.mem_cons, List.not_mem_nil, or_false] at hu
    rcases hu with rfl | rfl | rfl <;> rfl
  · unfold rowT
    rw [List.length_append, icells_snoc]
    exact r1
theorem str_min (T : List UInt8) : ∃ T2 : List UInt8, (str T).extract 0 (min (T.length : Int) 300).toNat = str T2 ∧ T2.length ≤ 300 :=
  ⟨T.take (min (T.length : Int) 300).toNat, str_extract _ _, by rw [List.length_take]; omega⟩
/-- What is there when a round begins. -/
def had (w : World) (B k j : Nat) (x : UInt8) (v : Value) (I : List Itm) : Prop :=
  OutAt w B k ([72, 89, x] ++ I.flatMap Itm.bytes, 0) ∧ rowT w B v I ∧ (∀ q ∈ I, q.ok) ∧ (I.flatMap Itm.bytes).length ≤ capB j

set_option maxRecDepth 100000 in
set_option maxHeartbeats 8000000 in
theorem law_glyphBack (x : UInt8) (a : Option Addr) (c : Nat) (R : List Thg) (cut : Int) (w : World) (hr : rowThings w a c R) :
    Calls Try.prog 4 #[.int .u8 (V x), .slice a R.length c, .int .i64 cut] w fun e w' => e = .returned (.bool true) ∧ Below w.heap.size w w' := by
  have HR := Lib.hid hr
  have hlc := hr.1
  clear hr
  go_enter Try.func4, Try.ntmps4
  go_wp2_with fail
  refine (begin_any x w).mono ?_
  rintro e w3 ⟨k, rfl, o3, b3⟩
  have O3 := Lib.hid o3
  have B3 := Lib.hid b3
  clear o3 b3
  go_wp2_with fail
  go_loopw [9, 8] (fun i v wr => ∃ (j : Nat) (I : List Itm) (V0 : Value), j ≤ R.length ∧ j ≤ 40 ∧ i = .int .i64 j ∧ V0 = v ∧ I.length = j ∧ Hid (had wr w.heap.size k j x V0 I) ∧ Hid (Below w.heap.size w wr)) (fun i _ _ => (40 - intOf i).toNat)
  case atStart => exact ⟨0, [], _, by omega, by omega, rfl, rfl, rfl, Lib.hid ⟨O3.out, World.ownsRow_nil _ _ _ _, fun q hq => (List.not_mem_nil hq).elim, Nat.le_refl 0⟩, B3⟩
  case round =>
    obtain ⟨j, I, V0, hj, h40, rfl, rfl, hil, hw, hb⟩ := hrel
    have HIL := Lib.hid hil
    have O4 := Lib.hid hw.out.1
    have R4 := Lib.hid hw.out.2.1
    have HOK := Lib.hid hw.out.2.2.1
    have HCP := Lib.hid hw.out.2.2.2
    have HCJ : Hid (capB (j + 1) = capB j + 400) := Lib.hid (by unfold capB; omega)
    have OL : Hid ((([72, 89, x] ++ I.flatMap Itm.bytes, 0) : List UInt8 × Int).1.length ≤ 100000000) := Lib.hid (by
      have h1 := HCP.out
      unfold capB at h1
      show ([72, 89, x] ++ I.flatMap Itm.bytes).length ≤ _
      rw [List.length_append]
      have : ([72, 89, x] : List UInt8).length = 3 := rfl
      omega)
    clear hw hil
    by_cases hlt : j < R.length ∧ j < 40
    · obtain ⟨hlt, hlt40⟩ := hlt
      have q1 : (j : Int) < (R.length : Int) := by omega
      have q2 : (j : Int) < 40 := by omega
      have p0 : 0 ≤ (j : Int) := by omega
      obtain ⟨bb, bo, rfl, d0, d1, d2, wf⟩ := HR.out.2.2 j hlt
      generalize R[j] = th at *
      obtain ⟨A, n, T⟩ := th
      have hbl : bb < w.heap.size := block_lt_of_cell d0
      have c0 : wr.cell? ⟨bb, bo + j * 3, none⟩ = some (.int .i64 A) := by rw [hb.out.cell hbl]; exact d0
      have c1 : wr.cell? ⟨bb, bo + j * 3 + 1, none⟩ = some (.int .i64 n) := by rw [hb.out.cell hbl]; exact d1
      have c2 : wr.cell? ⟨bb, bo + j * 3 + 2, none⟩ = some (.string (str T)) := by rw [hb.out.cell hbl]; exact d2
      have hz := zero33
      have hst := str_size T
      have N4 := Lib.hid (blockIs.new wr (thgCells (0, 0, [])) 33)
      clear d0 d1 d2
      go_wp2_with (refine wpList_store_block rfl 33 _ _ rfl wr.heap.size 0 (thgCells (A, n, T)) rfl rfl (thgCells (0, 0, [])) 33 N4.out (thg_info _) (thg_fit _ _) (thg_one _) ?_)
      intro w5 h1 h2 h3
      have h1 := h1.out
      rw [splice_all (thgCells (0, 0, [])) (thgCells (A, n, T)) rfl] at h1
      have T5 := Lib.hid h1
      have kb : Below wr.heap.size wr w5 := ((Below.refl wr.heap.size wr).alloc (Nat.le_refl _) _).trans (h2.out.below (Nat.le_refl _) (by simp))
      have KB := Lib.hid kb
      have HTB : Hid (w.heap.size ≤ wr.heap.size) := Lib.hid hb.out.size
      have HVB : Hid (∀ g, V0.ownBlock = some g → g < wr.heap.size) := Lib.hid (fun g hg => (World.ownsRow.lt R4.out g hg).2)
      have HTK : Hid (wr.heap.size ≠ k) := Lib.hid (Nat.ne_of_gt O4.out.lt.2)
      clear h1 h2 h3 kb N4 c0 c1 c2 hz
      generalize htb : wr.heap.size = tb at *
      have HTQ := Lib.hid htb
      clear htb
      have e0 : w5.cell? ⟨tb, 0, none⟩ = some (.int .i64 A) := by rw [T5.out.cell]; rfl
      have e1 : w5.cell? ⟨tb, 1, none⟩ = some (.int .i64 n) := by rw [T5.out.cell]; rfl
      have e2 : w5.cell? ⟨tb, 2, none⟩ = some (.string (str T)) := by rw [T5.out.cell]; rfl
      have z0 := T5.out.free 0
      have z1 := T5.out.free 1
      have z2 := T5.out.free 2
      obtain ⟨T2, hT2, h300⟩ := str_min T
      obtain ⟨N, hN62, hNw⟩ := wrap62 n
      have HN := Lib.hid hN62
      have HT2 := Lib.hid h300
      clear hN62 h300
      go_upto_region 9 with fail
      have T8 : Hid (blockIs ((w5.setCell ⟨tb, 2, none⟩ (.string (str T2))).setCell ⟨tb, 1, none⟩ (.int .i64 (N : Int))) tb (Itm.cells ⟨A, N, T2⟩) 33) := Lib.hid ((T5.out.set 2 _).set 1 _)
      have KB8 : Hid (Below tb wr ((w5.setCell ⟨tb, 2, none⟩ (.string (str T2))).setCell ⟨tb, 1, none⟩ (.int .i64 (N : Int)))) := Lib.hid ((KB.out.setCell (Nat.le_refl _) _).setCell (Nat.le_refl _) _)
      clear T5 KB e0 e1 e2 z0 z1 z2 hT2 hNw hst
      generalize (w5.setCell ⟨tb, 2, none⟩ (.string (str T2))).setCell ⟨tb, 1, none⟩ (.int .i64 (N : Int)) = w6 at *
      have kb6 : Below wr.heap.size wr w6 := by rw [HTQ.out]; exact KB8.out
      have O6 := Lib.hid (O4.out.below kb6)
      have R6 := Lib.hid (rowT_below R4.out kb6)
      have B6 := Lib.hid (hb.out.trans (kb6.mono hb.out.size))
      have HL6 : Hid (tb < w6.heap.size) := Lib.hid T8.out.lt
      clear kb6 KB8 O4 R4 hb
      have e0 : w6.cell? ⟨tb, 0, none⟩ = some (.int .i64 A) := by rw [T8.out.cell]; rfl
      have e1 : w6.cell? ⟨tb, 1, none⟩ = some (.int .i64 (N : Int)) := by rw [T8.out.cell]; rfl
      have e2 : w6.cell? ⟨tb, 2, none⟩ = some (.string (str T2)) := by rw [T8.out.cell]; rfl
      go_wp2_with (at_builtin; go_loud (refine append_itm rfl _ _ rfl w.heap.size V0 I rfl (rowT_below R6.out ((Below.refl _ _).alloc (Nat.le_refl _) _)) w6.heap.size 1 ⟨A, N, T2⟩ rfl (blockIs.new _ _ _) (by rw [HIL.out]; omega) (Nat.le_trans B6.out.size (by simp)) ?_; intro V1 w7 r1 r2; have ka : Below w6.heap.size w6 (w6.alloc (.cells (Itm.cells ⟨A, N, T2⟩).toArray 33 (0, 0))) := (Below.refl _ _).alloc (Nat.le_refl _) _; have O7 := Lib.hid (OutAt.grownT (O6.out.below ka) (rowT_below R6.out ka) r2.out); have R7 := r1; have B7 : Hid (Below w.heap.size w w7) := Lib.hid ((B6.out.trans (ka.mono B6.out.size)).grown r2.out (Nat.le_trans B6.out.size ka.size) (fun g hg => (World.ownsRow.lt R6.out g hg).1)); have HKV := Lib.hid (thg_ne O7.out r1.out); have T7 : Hid (blockIs w7 tb (Itm.cells ⟨A, N, T2⟩) 33) := Lib.hid ((r2.out.block tb (Nat.lt_of_lt_of_le HL6.out ka.size) (fun e => absurd (HVB.out tb e.symm) (Nat.lt_irrefl _))).trans (T8.out.alloc _)); have f0 : w7.cell? ⟨tb, 0, none⟩ = some (.int .i64 A) := (T7.out.cell 0).trans rfl; have f1 : w7.cell? ⟨tb, 1, none⟩ = some (.int .i64 (N : Int)) := (T7.out.cell 1).trans rfl; have f2 : w7.cell? ⟨tb, 2, none⟩ = some (.string (str T2)) := (T7.out.cell 2).trans rfl; clear r1 r2 ka))
      refine (kind_is A N (str T2) w7).mono ?_
      rintro e w8 ⟨rfl, b8⟩
      have O8 := Lib.hid (O7.out.below b8)
      have B8 := Lib.hid (B7.out.trans (b8.mono B7.out.size))
      have T8' := Lib.hid (T7.out.below b8 T7.out.lt)
      have R8 := Lib.hid (rowT_below R7.out b8)
      have f0 : w8.cell? ⟨tb, 0, none⟩ = some (.int .i64 A) := by rw [T8'.out.cell]; rfl
      have f1 : w8.cell? ⟨tb, 1, none⟩ = some (.int .i64 (N : Int)) := by rw [T8'.out.cell]; rfl
      have f2 : w8.cell? ⟨tb, 2, none⟩ = some (.string (str T2)) := by rw [T8'.out.cell]; rfl
      have hst := str_size T2
      have wf2 : (Lit.int .i64 (N : Int)).wf = true := by
        have := HN.out
        simp [Lit.wf, IntKind.min, IntKind.max, IntKind.signed, IntKind.bits]
        omega
      clear b8 T7 O7 B7 R7 T8 O6 R6 B6 e0 e1 e2 HL6 HVB HTB HTQ
      have hq4 := kind_lt A
      generalize hkq : kindOf A = q at *
      rcases (show q = 0 ∨ q = 1 ∨ q = 2 ∨ q = 3 by omega) with rfl | rfl | rfl | rfl
      · have HBY : Hid ((⟨A, N, T2⟩ : Itm).bytes = numBytes N) := Lib.hid (itm_0 hkq)
        have HBL : Hid ((⟨A, N, T2⟩ : Itm).bytes.length ≤ 400) := Lib.hid (by rw [HBY.out]; have := numBytes_nine N HN.out; omega)
        have E : Hid (outNum ([72, 89, x] ++ I.flatMap Itm.bytes, 0) (N : Int) = (([72, 89, x] ++ I.flatMap Itm.bytes) ++ numBytes N, 0)) := Lib.hid (by
          have h2 : ¬ ((N : Int) < 0 ∨ 4611686018427387904 ≤ (N : Int)) := by have := HN.out; omega
          simp [outNum, h2])
        have PC := num1k w.heap.size k _ (N : Int) w8 O8.out wf2 OL.out
        rw [E.out] at PC
        have PC := Lib.hid PC
        go_wp2_with fail
        with_reducible refine (PC.out).mono ?_
        rintro e w9 ⟨rfl, o9, b9, k9⟩
        have O9 := Lib.hid o9
        have B9 := Lib.hid (B8.out.trans b9)
        have R9 := Lib.hid (rowT_kept R8.out k9 HKV.out)
        clear o9 b9 k9
        go_wp2_with fail
        go_roundw
        case rel => exact ⟨j + 1, I ++ [⟨A, N, T2⟩], _, by omega, by omega, by go_num, rfl, by rw [List.length_append, HIL.out]; rfl, Lib.hid ⟨by rw [flat_snoc, ← List.append_assoc, show (⟨A, N, T2⟩ : Itm).bytes = _ from HBY.out]; exact O9.out, R9.out, ok_snoc HOK.out ⟨HN.out, HT2.out⟩, cap_snoc HCP.out HCJ.out (HBL.out)⟩, B9⟩
        case measure => simp [intOf]; omega
      · have HBY : Hid ((⟨A, N, T2⟩ : Itm).bytes = numBytes T2.length ++ T2) := Lib.hid (itm_1 hkq)
        have HBL : Hid ((⟨A, N, T2⟩ : Itm).bytes.length ≤ 400) := Lib.hid (by rw [HBY.out, List.length_append]; have := HT2.out; have := numBytes_nine T2.length (by omega); omega)
        have E : Hid (outText ([72, 89, x] ++ I.flatMap Itm.bytes, 0) T2 = (([72, 89, x] ++ I.flatMap Itm.bytes) ++ (numBytes T2.length ++ T2), 0)) := Lib.hid (by
          have h2 : ¬ (131072 < T2.length) := by have := HT2.out; omega
          simp [outText, h2])
        have PC := text1k w.heap.size k _ T2 w8 O8.out OL.out (by have := HT2.out; omega)
        rw [E.out] at PC
        have PC := Lib.hid PC
        go_wp2_with fail
        with_reducible refine (PC.out).mono ?_
        rintro e w9 ⟨rfl, o9, b9, k9⟩
        have O9 := Lib.hid o9
        have B9 := Lib.hid (B8.out.trans b9)
        have R9 := Lib.hid (rowT_kept R8.out k9 HKV.out)
        clear o9 b9 k9
        go_wp2_with fail
        go_roundw
        case rel => exact ⟨j + 1, I ++ [⟨A, N, T2⟩], _, by omega, by omega, by go_num, rfl, by rw [List.length_append, HIL.out]; rfl, Lib.hid ⟨by rw [flat_snoc, ← List.append_assoc, show (⟨A, N, T2⟩ : Itm).bytes = _ from HBY.out]; exact O9.out, R9.out, ok_snoc HOK.out ⟨HN.out, HT2.out⟩, cap_snoc HCP.out HCJ.out (HBL.out)⟩, B9⟩
        case measure => simp [intOf]; omega
      · rcases Nat.mod_two_eq_zero_or_one N with hodd | hodd
        · have hbo : ((N : Int) % 2 == 1) = false := by simp; omega
          have HBY : Hid ((⟨A, N, T2⟩ : Itm).bytes = [0]) := Lib.hid ((itm_2 hkq).trans (by rw [hodd]; rfl))
          have HBL : Hid ((⟨A, N, T2⟩ : Itm).bytes.length ≤ 400) := Lib.hid (by rw [HBY.out]; decide)
          have E : Hid (outFlag ([72, 89, x] ++ I.flatMap Itm.bytes, 0) false = (([72, 89, x] ++ I.flatMap Itm.bytes) ++ [0], 0)) := Lib.hid (by simp [outFlag, outNum, nums01])
          have PC := flag1k w.heap.size k _ false w8 O8.out OL.out
          rw [E.out] at PC
          have PC := Lib.hid PC
          have HOD := Lib.hid hodd
          clear hodd
          go_wp2_with fail
          try rw [hbo]
          with_reducible refine (PC.out).mono ?_
          rintro e w9 ⟨rfl, o9, b9, k9⟩
          have O9 := Lib.hid o9
          have B9 := Lib.hid (B8.out.trans b9)
          have R9 := Lib.hid (rowT_kept R8.out k9 HKV.out)
          clear o9 b9 k9
          go_wp2_with fail
          go_roundw
          case rel => exact ⟨j + 1, I ++ [⟨A, N, T2⟩], _, by omega, by omega, by go_num, rfl, by rw [List.length_append, HIL.out]; rfl, Lib.hid ⟨by rw [flat_snoc, ← List.append_assoc, show (⟨A, N, T2⟩ : Itm).bytes = _ from HBY.out]; exact O9.out, R9.out, ok_snoc HOK.out ⟨HN.out, HT2.out⟩, cap_snoc HCP.out HCJ.out (HBL.out)⟩, B9⟩
          case measure => simp [intOf]; omega
        · have hbo : ((N : Int) % 2 == 1) = true := by simp; omega
          have HBY : Hid ((⟨A, N, T2⟩ : Itm).bytes = [1]) := Lib.hid ((itm_2 hkq).trans (by rw [hodd]; rfl))
          have HBL : Hid ((⟨A, N, T2⟩ : Itm).bytes.length ≤ 400) := Lib.hid (by rw [HBY.out]; decide)
          have E : Hid (outFlag ([72, 89, x] ++ I.flatMap Itm.bytes, 0) true = (([72, 89, x] ++ I.flatMap Itm.bytes) ++ [1], 0)) := Lib.hid (by simp [outFlag, outNum, nums01])
          have PC := flag1k w.heap.size k _ true w8 O8.out OL.out
          rw [E.out] at PC
          have PC := Lib.hid PC
          have HOD := Lib.hid hodd
          clear hodd
          go_wp2_with fail
          try rw [hbo]
          with_reducible refine (PC.out).mono ?_
          rintro e w9 ⟨rfl, o9, b9, k9⟩
          have O9 := Lib.hid o9
          have B9 := Lib.hid (B8.out.trans b9)
          have R9 := Lib.hid (rowT_kept R8.out k9 HKV.out)
          clear o9 b9 k9
          go_wp2_with fail
          go_roundw
          case rel => exact ⟨j + 1, I ++ [⟨A, N, T2⟩], _, by omega, by omega, by go_num, rfl, by rw [List.length_append, HIL.out]; rfl, Lib.hid ⟨by rw [flat_snoc, ← List.append_assoc, show (⟨A, N, T2⟩ : Itm).bytes = _ from HBY.out]; exact O9.out, R9.out, ok_snoc HOK.out ⟨HN.out, HT2.out⟩, cap_snoc HCP.out HCJ.out (HBL.out)⟩, B9⟩
          case measure => simp [intOf]; omega
      · have HBY : Hid ((⟨A, N, T2⟩ : Itm).bytes = T2) := Lib.hid (itm_3 hkq)
        have HBL : Hid ((⟨A, N, T2⟩ : Itm).bytes.length ≤ 400) := Lib.hid (by rw [HBY.out]; have := HT2.out; omega)
        have hcv := Lib.run_convert_string_bytes (P := Try.prog) w8 9 23 5 (str T2) Try.underlying9 Try.underlying23 Try.underlying5
        rw [str_size] at hcv
        have kc := Lib.hid (conv_below w8 T2)
        have O8c := Lib.hid (O8.out.below kc.out)
        have B8c := Lib.hid (B8.out.trans (kc.out.mono B8.out.size))
        have R8c := Lib.hid (rowT_below R8.out kc.out)
        have I8 := Lib.hid (conv_in w8 T2)
        clear O8 B8 R8 kc
        generalize Lib.bytesWorld w8 5 (str T2) = wv at *
        generalize grownCap w8 T2.length 0 5 = cp at *
        have O8 := O8c
        have B8 := B8c
        have R8 := R8c
        clear O8c B8c R8c
        have E : Hid (outRaw ([72, 89, x] ++ I.flatMap Itm.bytes, 0) T2 = (([72, 89, x] ++ I.flatMap Itm.bytes) ++ T2, 0)) := Lib.hid (by simp [outRaw])
        have PC := raw1k w.heap.size k _ (some ⟨w8.heap.size, 0, none⟩) cp T2 wv O8.out I8.out (fun h => by cases h) OL.out (by have := HT2.out; omega)
        rw [E.out] at PC
        have PC := Lib.hid PC
        go_wp2_with fail
        with_reducible refine (PC.out).mono ?_
        rintro e w9 ⟨rfl, o9, b9, k9⟩
        have O9 := Lib.hid o9
        have B9 := Lib.hid (B8.out.trans b9)
        have R9 := Lib.hid (rowT_kept R8.out k9 HKV.out)
        clear o9 b9 k9
        go_wp2_with fail
        go_roundw
        case rel => exact ⟨j + 1, I ++ [⟨A, N, T2⟩], _, by omega, by omega, by go_num, rfl, by rw [List.length_append, HIL.out]; rfl, Lib.hid ⟨by rw [flat_snoc, ← List.append_assoc, show (⟨A, N, T2⟩ : Itm).bytes = _ from HBY.out]; exact O9.out, R9.out, ok_snoc HOK.out ⟨HN.out, HT2.out⟩, cap_snoc HCP.out HCJ.out (HBL.out)⟩, B9⟩
        case measure => simp [intOf]; omega
    · have HNL : Hid (¬ (j < R.length ∧ j < 40)) := Lib.hid hlt
      clear hlt HCJ
      generalize hF : [72, 89, x] ++ I.flatMap Itm.bytes = F at *
      have HF := Lib.hid hF
      clear hF
      have PB := Lib.hid (bytes_ok w.heap.size k (F, 0) wr O4.out rfl (Nat.le_trans OL.out (by decide)))
      by_cases hj1 : j < R.length
      · have q1 : (j : Int) < (R.length : Int) := by omega
        have q2 : ¬ (j : Int) < 40 := by have := HNL.out; omega
        clear hj1
        go_wp2_with fail
        with_reducible refine PB.out.mono ?_
        rintro e w5 ⟨v5, rfl, r5, b5⟩
        obtain ⟨va, vc, rfl, v1, v2, v3, v4, v5⟩ := rowIs.form2 r5
        have HV : Hid ((⟨va, vc, F⟩ : Pt).ok w5) := Lib.hid ⟨v1, v2, v3⟩
        have HZ : Hid (va = none → vc = 0) := Lib.hid v4
        have R5 := Lib.hid (rowT_below R4.out b5)
        have B5 := Lib.hid (hb.out.trans (b5.mono hb.out.size))
        clear r5 b5 v1 v2 v3 v4 v5 PB O4 R4 hb
        go_wp2_with fail
        with_reducible refine (glyphs_any w5).mono ?_
        rintro e w6 ⟨rfl, b6⟩
        have HV6 := Lib.hid (HV.out.below b6)
        have R6 := Lib.hid (rowT_below R5.out b6)
        have B6 := Lib.hid (B5.out.trans (b6.mono B5.out.size))
        clear b6 HV R5 B5
        go_wp2_with fail
        rw [wrap_next]
        have PO := Lib.hid (open_other x ⟨va, vc, F⟩ (I.flatMap Itm.bytes) w6 HV6.out HF.out.symm)
        with_reducible refine PO.out.mono ?_
        clear PO
        rintro e w7 ⟨k7, rfl, h7, b7⟩
        have HV7 := Lib.hid (HV6.out.below b7.out)
        have R7 := Lib.hid (rowT_below R6.out b7.out)
        have B7 := Lib.hid (B6.out.trans (b7.out.mono B6.out.size))
        clear b7 HV6 R6 B6
        go_wp2_with fail
        with_reducible refine (rerr_any k7 [] 2 w7 h7.out).mono ?_
        clear h7
        rintro e w8 ⟨rfl, rfl⟩
        go_wp2_with fail
        clear HNL
        have HSL : Hid ((I.flatMap Itm.bytes).length ≤ 100000000) := Lib.hid (by have h1 := HCP.out; unfold capB at h1; omega)
        obtain ⟨a0, c0, rfl, hc0⟩ := rowT_form R7.out
        go_loopw [13, 11] (fun i b wr => ∃ (r : Nat) (l : List UInt8), r ≤ 2 ∧ i = .int .i64 r ∧ b = .slice va l.length vc ∧ Hid (r ≤ 1 → From r l x (I.flatMap Itm.bytes)) ∧ Hid ((⟨va, vc, l⟩ : Pt).ok wr) ∧ Hid (rowT wr w.heap.size (.slice a0 I.length c0) I) ∧ Hid (Below w.heap.size w wr)) (fun i _ _ => (2 - intOf i).toNat)
        case atStart => exact ⟨0, F, by omega, rfl, rfl, Lib.hid (fun _ => Or.inl ⟨rfl, HF.out.symm⟩), HV7, R7, B7⟩
        case round =>
          rename World => wo
          obtain ⟨r, l, hr2, rfl, rfl, HFr, HV8, R8, B8⟩ := hrel
          by_cases hrr : r < 2
          · have r1 : (r : Int) < 2 := by omega
            go_wp2_with fail
            have PW := Lib.hid (open_way r x ⟨va, vc, l⟩ (I.flatMap Itm.bytes) wo HV8.out HZ.out HSL.out (HFr.out (by omega)))
            with_reducible refine PW.out.mono ?_
            clear PW
            rintro e w9 ⟨k9, L9, e9, rfl, hk9, hrd, hway, hb9⟩
            go_wp2_with fail
            go_loopw [15] (fun i wx => ∃ (n : Nat) (L : List UInt8) (er : Int), n ≤ I.length ∧ i = .int .i64 n ∧ Hid (RdAt wx k9 L er) ∧ Hid (Way r L er ((I.drop n).flatMap Itm.bytes)) ∧ Hid (Below wo.heap.size wo wx)) (fun i _ => (I.length - intOf i).toNat)
            case atStart => exact ⟨0, L9, e9, by omega, rfl, hrd, hway, hb9⟩
            case round =>
              obtain ⟨n, L, er, hn, rfl, HRD, HWY, HBX⟩ := hrel
              by_cases hnn : n < I.length
              · have n1 : (n : Int) < (I.length : Int) := by omega
                have hI40 : I.length ≤ 40 := by rw [HIL.out]; exact h40
                obtain ⟨g0, rfl, hg0, d0, d1, d2⟩ := rowT_at (rowT_below R8.out HBX.out) n hnn
                have HPO := HOK.out (I[n]) (List.getElem_mem hnn)
                rw [rest_at I n hnn] at HWY
                generalize hR1 : (I.drop (n + 1)).flatMap Itm.bytes = R1 at *
                have HR1 := Lib.hid hR1
                clear hR1
                generalize I[n] = p at *
                obtain ⟨A, N, T⟩ := p
                have d0 : wr.cell? ⟨g0, n * 3, none⟩ = some (.int .i64 A) := d0
                have d1 : wr.cell? ⟨g0, n * 3 + 1, none⟩ = some (.int .i64 (N : Int)) := d1
                have d2 : wr.cell? ⟨g0, n * 3 + 2, none⟩ = some (.string (str T)) := d2
                have HN : Hid (N < 4611686018427387904) := Lib.hid HPO.1
                have HT : Hid (T.length ≤ 300) := Lib.hid HPO.2
                clear HPO
                have b1 : Below wr.heap.size wr (wr.alloc (.cells #[.int .i64 A, .int .i64 (N : Int), .string (str T)] 33 (0, 0))) := (Below.refl wr.heap.size wr).alloc (Nat.le_refl _) _
                have KB1 := Lib.hid b1
                clear b1
                have T6 : Hid (blockIs (wr.alloc (.cells #[.int .i64 A, .int .i64 (N : Int), .string (str T)] 33 (0, 0))) wr.heap.size (Itm.cells ⟨A, N, T⟩) 33) := Lib.hid (blockIs.new wr _ _)
                go_wp2_with fail
                refine (kind_is A N (str T) _).mono ?_
                rintro e w8 ⟨rfl, b8⟩
                have T8 := Lib.hid (T6.out.below b8 T6.out.lt)
                have kb8 : Below wr.heap.size wr w8 := KB1.out.trans (b8.mono KB1.out.size)
                have RD8 := Lib.hid (HRD.out.below kb8)
                have BX8 := Lib.hid (HBX.out.trans (kb8.mono HBX.out.size))
                have HTK : Hid (wr.heap.size ≠ k9) := Lib.hid (Nat.ne_of_gt (by obtain ⟨p, h1, _⟩ := HRD.out; exact h1.1.lt))
                have f0 : w8.cell? ⟨wr.heap.size, 0, none⟩ = some (.int .i64 A) := by rw [T8.out.cell]; rfl
                have f1 : w8.cell? ⟨wr.heap.size, 1, none⟩ = some (.int .i64 (N : Int)) := by rw [T8.out.cell]; rfl
                have f2 : w8.cell? ⟨wr.heap.size, 2, none⟩ = some (.string (str T)) := by rw [T8.out.cell]; rfl
                have hst := str_size T
                clear kb8 b8 KB1 T6 d0 d1 d2 HRD HBX
                generalize wr.heap.size = tb at *
                have hq4 := kind_lt A
                generalize hkq : kindOf A = q at *
                rcases (show q = 0 ∨ q = 1 ∨ q = 2 ∨ q = 3 by omega) with rfl | rfl | rfl | rfl
                · rw [itm_0 hkq] at HWY
                  go_wp2_with fail
                  go_region_held3 (fun w' => w'.cell? ⟨tb, 1, none⟩ = some (.int .i64 (N : Int)))
                    (first | assumption | go_keep)
                    (first
                    | (go_at_call 22
                       with_reducible refine (rnum_to k9 L er 4611686018427387904 _ ?_).mono ?_
                       · first | exact RD8.out | exact RD8.out.below (Below.refl _ _).drew
                       rintro e w9 ⟨n1, L1, e1, hto, rfl, hrd, hbt⟩
                       have g1 : w9.cell? ⟨tb, 1, none⟩ = some (.int .i64 (N : Int)) := hbt.out.cell f1 HTK.out))
                  all_goals
                    obtain ⟨W2, hv⟩ := way_num HN.out HWY.out hto.out
                    rw [← HR1.out] at W2
                    have W3 := Lib.hid W2
                    have BX9 : Hid (Below wo.heap.size wo w9) := Lib.hid (BX8.out.trans ((Below.refl _ _).drew.trans (hbt.out.below hk9.out BX8.out.size)))
                    clear f0 f1 f2 T8 W2 hbt BX8 RD8
                    rcases (show r = 0 ∨ r = 1 by omega) with rfl | rfl
                    · have hok : (n1 == (N : Int)) = true := by rw [hv rfl]; simp
                      go_wp2_with fail
                      go_roundw
                      case rel => exact ⟨n + 1, L1, e1, by omega, by go_num, hrd, W3, BX9⟩
                      case measure => simp [intOf]; omega
                    · go_wp2_with fail
                      go_roundw
                      case rel => exact ⟨n + 1, L1, e1, by omega, by go_num, hrd, W3, BX9⟩
                      case measure => simp [intOf]; omega
                · rw [itm_1 hkq] at HWY
                  go_wp2_with fail
                  go_region_held3 (fun w' => w'.cell? ⟨tb, 2, none⟩ = some (.string (str T)))
                    (first | assumption | go_keep)
                    (first
                    | (go_at_call 23
                       with_reducible refine (rtext_to k9 L er 300 _ ?_).mono ?_
                       · first | exact RD8.out | exact RD8.out.below (Below.refl _ _).drew
                       rintro e w9 ⟨n1, L1, e1, hto, rfl, hrd, hbt⟩
                       have g1 : w9.cell? ⟨tb, 2, none⟩ = some (.string (str T)) := hbt.out.cell f2 HTK.out))
                  all_goals
                    have hto : NumTo L er 300 n1 L1 e1 := hto.out
                    obtain ⟨W2, hv⟩ := way_text HT.out HWY.out hto
                    clear hto
                    rw [← HR1.out] at W2
                    have W3 := Lib.hid W2
                    have BX9 : Hid (Below wo.heap.size wo w9) := Lib.hid (BX8.out.trans ((Below.refl _ _).drew.trans (hbt.out.below hk9.out BX8.out.size)))
                    clear f0 f1 f2 T8 W2 hbt BX8 RD8
                    rcases (show r = 0 ∨ r = 1 by omega) with rfl | rfl
                    · have hok : (str (tOut L1 e1 n1) == str T) = true := same_str _ _ (hv rfl)
                      go_wp2_with fail
                      go_roundw
                      case rel => exact ⟨n + 1, (tLeft L1 e1 n1), (tErr L1 e1 n1), by omega, by go_num, hrd, W3, BX9⟩
                      case measure => simp [intOf]; omega
                    · go_wp2_with fail
                      go_roundw
                      case rel => exact ⟨n + 1, (tLeft L1 e1 n1), (tErr L1 e1 n1), by omega, by go_num, hrd, W3, BX9⟩
                      case measure => simp [intOf]; omega
                · rw [itm_2 hkq] at HWY
                  go_wp2_with fail
                  go_region_held3 (fun w' => w'.cell? ⟨tb, 1, none⟩ = some (.int .i64 (N : Int)))
                    (first | assumption | go_keep)
                    (first
                    | (go_at_call 24
                       with_reducible refine (rflag_to k9 L er _ ?_).mono ?_
                       · first | exact RD8.out | exact RD8.out.below (Below.refl _ _).drew
                       rintro e w9 ⟨y, e1, hto, rfl, hrd, hbt⟩
                       have g1 : w9.cell? ⟨tb, 1, none⟩ = some (.int .i64 (N : Int)) := hbt.out.cell f1 HTK.out))
                  all_goals
                    obtain ⟨W2, hv⟩ := way_flag (Nat.mod_lt N (by decide)) HWY.out hto.out
                    rw [← HR1.out] at W2
                    have W3 := Lib.hid W2
                    have BX9 : Hid (Below wo.heap.size wo w9) := Lib.hid (BX8.out.trans ((Below.refl _ _).drew.trans (hbt.out.below hk9.out BX8.out.size)))
                    clear f0 f1 f2 T8 W2 hbt BX8 RD8
                    rcases (show r = 0 ∨ r = 1 by omega) with rfl | rfl
                    · have hok : (y == ((N : Int).tmod 2 == 1)) = true := by rw [hv rfl, odd_same2]; simp
                      rw [hok]
                      go_wp2_with fail
                      go_roundw
                      case rel => exact ⟨n + 1, (tLeft L er 1), e1, by omega, by go_num, hrd, W3, BX9⟩
                      case measure => simp [intOf]; omega
                    · go_wp2_with fail
                      go_roundw
                      case rel => exact ⟨n + 1, (tLeft L er 1), e1, by omega, by go_num, hrd, W3, BX9⟩
                      case measure => simp [intOf]; omega
                · rw [itm_3 hkq] at HWY
                  go_wp2_with fail
                  refine wp_region_noPanic ?_
                  refine wp_region_held_drew (S := fun X => X.cell? ⟨tb, 2, none⟩ = some (.string (str T))) (by kernel_rfl) f2 (fun hH => ?_)
                  refine wpAnyH_take (i := 0) (oi := { dst := some 148, op := Op.move (Operand.tmp 14), type := 43, pos := "law.go:160", after := #[], guard := none }) (v := .pointer (some ⟨k9, 0, none⟩)) rfl (by kernel_rfl) (by kernel_rfl) (by kernel_rfl) (fun _ _ _ h => h) (Or.inl ⟨by rfl, fun wx hS => ?_⟩) hH ?_
                  · go_simp
                  simp only [Act.put, List.setIfInBounds_toArray, List.set_cons_zero, List.set_cons_succ]
                  refine wpAnyH_take (i := 1) (oi := { dst := some 149, op := Op.fieldAddr 33 (Operand.tmp 16) 2, type := 0, pos := "law.go:160", after := #[], guard := none }) (v := .pointer (some ⟨tb, 2, none⟩)) rfl (by kernel_rfl) (by kernel_rfl) (by kernel_rfl) (fun _ _ _ h => h) (Or.inl ⟨by rfl, fun wx hS => ?_⟩) hH ?_
                  · go_simp
                  simp only [Act.put, List.setIfInBounds_toArray, List.set_cons_zero, List.set_cons_succ]
                  refine wpAnyH_take (i := 2) (oi := { dst := some 150, op := Op.load 9 (Operand.tmp 149), type := 9, pos := "law.go:160", after := #[{ on := 1, ground := Ground.data }], guard := none }) (v := .string (str T)) rfl (by kernel_rfl) (by kernel_rfl) (by kernel_rfl) (fun _ _ _ h => h) (Or.inl ⟨by rfl, fun wx hS => ?_⟩) hH ?_
                  · have e1 : wx.cell? ⟨tb, 2, none⟩ = some (.string (str T)) := hS; go_simp
                  simp only [Act.put, List.setIfInBounds_toArray, List.set_cons_zero, List.set_cons_succ]
                  refine wpAnyH_take (i := 3) (oi := { dst := some 151, op := Op.call { callee := Callee.builtin Builtin.len, args := #[Operand.tmp 150], argTypes := #[9] }, type := 3, pos := "law.go:160", after := #[{ on := 2, ground := Ground.data }], guard := none }) (v := .int .i64 (T.length : Int)) rfl (by kernel_rfl) (by kernel_rfl) (by kernel_rfl) (fun _ _ _ h => h) (Or.inl ⟨by rfl, fun wx hS => ?_⟩) hH ?_
                  · go_simp
                  simp only [Act.put, List.setIfInBounds_toArray, List.set_cons_zero, List.set_cons_succ]
                  refine wpAnyH_take (i := 6) (oi := { dst := some 154, op := Op.fieldAddr 33 (Operand.tmp 16) 2, type := 0, pos := "law.go:160", after := #[], guard := none }) (v := .pointer (some ⟨tb, 2, none⟩)) rfl (by kernel_rfl) (by kernel_rfl) (by kernel_rfl) (fun _ _ _ h => h) (Or.inl ⟨by rfl, fun wx hS => ?_⟩) hH ?_
                  · go_simp
                  simp only [Act.put, List.setIfInBounds_toArray, List.set_cons_zero, List.set_cons_succ]
                  refine wpAnyH_take (i := 7) (oi := { dst := some 155, op := Op.load 9 (Operand.tmp 154), type := 9, pos := "law.go:160", after := #[{ on := 6, ground := Ground.data }], guard := none }) (v := .string (str T)) rfl (by kernel_rfl) (by kernel_rfl) (by kernel_rfl) (fun _ _ _ h => h) (Or.inl ⟨by rfl, fun wx hS => ?_⟩) hH ?_
                  · have e1 : wx.cell? ⟨tb, 2, none⟩ = some (.string (str T)) := hS; go_simp
                  simp only [Act.put, List.setIfInBounds_toArray, List.set_cons_zero, List.set_cons_succ]
                  refine wpAnyH_ready (rs := [4]) (by kernel_rfl) (by simp) ?_
                  refine AllReadyH.cons (o := { dst := some 152, op := Op.call { callee := Callee.value (Operand.func 25), args := #[Operand.tmp 148, Operand.tmp 151], argTypes := #[43, 3] }, type := 23, pos := "law.go:160", after := #[{ on := 0, ground := Ground.data }, { on := 3, ground := Ground.data }], guard := none }) rfl (fun KK hKK => ?_) AllReadyH.nil
                  go_simp
                  with_reducible refine (rraw_any k9 L er (T.length : Int) w8.drew (RD8.out.below (Below.refl _ _).drew) (way_len HWY.out)).mono ?_
                  rintro e w9 ⟨v9, rfl, hrw, hrd, hbt⟩
                  obtain ⟨a9, c9, rfl, -, h9, -⟩ := rowIs.bytes hrw
                  have cv9 := conv_string w9 a9 _ c9 h9
                  have hrd := Lib.hid hrd
                  have hbt := Lib.hid hbt
                  have g1 : w9.cell? ⟨tb, 2, none⟩ = some (.string (str T)) := hbt.out.cell f2 HTK.out
                  clear hrw h9 hH
                  refine hKK.out _ _ g1 (fun hH => ?_)
                  clear hKK KK
                  try simp only [Act.put, List.setIfInBounds_toArray, List.set_cons_zero, List.set_cons_succ]
                  refine wpAnyH_ready (rs := [5]) (by kernel_rfl) (by simp) ?_
                  refine AllReadyH.cons (o := { dst := some 153, op := Op.convert 23 9 (Operand.tmp 152), type := 9, pos := "law.go:160", after := #[{ on := 4, ground := Ground.data }], guard := none }) rfl (fun KK hKK => ?_) AllReadyH.nil
                  go_simp
                  refine hKK.out _ _ g1 (fun hH => ?_)
                  clear hKK KK cv9
                  try simp only [Act.put, List.setIfInBounds_toArray, List.set_cons_zero, List.set_cons_succ]
                  refine wpAnyH_take (i := 8) (oi := { dst := some 156, op := Op.binOp BinOp.eql 9 (Operand.tmp 153) (Operand.tmp 155) 9, type := 4, pos := "law.go:160", after := #[{ on := 5, ground := Ground.data }, { on := 7, ground := Ground.data }], guard := none }) (v := .bool ((str (tOut L er (T.length : Int))).toList == (str T).toList)) rfl (by kernel_rfl) (by kernel_rfl) (by kernel_rfl) (fun _ _ _ h => h) (Or.inl ⟨by rfl, fun wx hS => ?_⟩) hH ?_
                  · go_simp
                  simp only [Act.put, List.setIfInBounds_toArray, List.set_cons_zero, List.set_cons_succ]
                  refine wpAnyH_take (i := 9) (oi := { dst := some 17, op := Op.assign (Operand.tmp 156), type := 4, pos := "law.go:160", after := #[{ on := 8, ground := Ground.data }, { on := 4, ground := Ground.chain }, { on := 0, ground := Ground.phase }, { on := 1, ground := Ground.phase }, { on := 2, ground := Ground.phase }, { on := 3, ground := Ground.phase }, { on := 4, ground := Ground.phase }, { on := 5, ground := Ground.phase }, { on := 6, ground := Ground.phase }, { on := 7, ground := Ground.phase }, { on := 8, ground := Ground.phase }], guard := none }) (v := .bool ((str (tOut L er (T.length : Int))).toList == (str T).toList)) rfl (by kernel_rfl) (by kernel_rfl) (by kernel_rfl) (fun _ _ _ h => h) (Or.inl ⟨by rfl, fun wx hS => ?_⟩) hH ?_
                  · go_simp
                  simp only [Act.put, List.setIfInBounds_toArray, List.set_cons_zero, List.set_cons_succ]
                  refine wpAnyH_done (by kernel_rfl) ?_ _
                  refine NoPanic.normal ?_
                  clear hH
                  obtain ⟨W2, hv⟩ := way_raw HWY.out
                  rw [← HR1.out] at W2
                  have W3 := Lib.hid W2
                  have BX9 : Hid (Below wo.heap.size wo w9) := Lib.hid (BX8.out.trans ((Below.refl _ _).drew.trans (hbt.out.below hk9.out BX8.out.size)))
                  clear f0 f1 f2 T8 W2 hbt BX8 RD8
                  rcases (show r = 0 ∨ r = 1 by omega) with rfl | rfl
                  · have hok : (str (tOut L er (T.length : Int)) == str T) = true := same_str _ _ (hv rfl)
                    go_wp2_with fail
                    go_roundw
                    case rel => exact ⟨n + 1, (tLeft L er (T.length : Int)), (tErr L er (T.length : Int)), by omega, by go_num, hrd, W3, BX9⟩
                    case measure => simp [intOf]; omega
                  · go_wp2_with fail
                    go_roundw
                    case rel => exact ⟨n + 1, (tLeft L er (T.length : Int)), (tErr L er (T.length : Int)), by omega, by go_num, hrd, W3, BX9⟩
                    case measure => simp [intOf]; omega
              · have n1 : ¬ (n : Int) < (I.length : Int) := by omega
                have hend : (I.drop n).flatMap Itm.bytes = [] := by rw [List.drop_eq_nil_of_le (by omega)]; rfl
                rw [hend] at HWY
                have HE := way_end HWY.out
                have B10 := Lib.hid (B8.out.trans (HBX.out.mono B8.out.size))
                have HVX := Lib.hid (HV8.out.below HBX.out)
                have RX := Lib.hid (rowT_below R8.out HBX.out)
                have PE := Lib.hid (rend_any k9 L er wr HRD.out)
                have HKX : Hid (wo.heap.size ≤ k9) := hk9
                clear hend HRD HWY
                rcases HE with ⟨rfl, hE⟩ | ⟨rfl, hE⟩
                · have HE := Lib.hid hE
                  clear hE
                  go_wp2_with fail
                  with_reducible refine PE.out.mono ?_
                  clear PE
                  rintro e w10 ⟨rfl, h10, b10⟩
                  have kb10 : Below wo.heap.size wr w10 := b10.below hk9.out HBX.out.size
                  rw [HE.out]
                  have HB11 := Lib.hid (B10.out.trans (kb10.mono B8.out.size))
                  have HV11 := Lib.hid (HV8.out.below (HBX.out.trans kb10))
                  have R11 := Lib.hid (rowT_below R8.out (HBX.out.trans kb10))
                  clear kb10 b10 h10 HVX RX B10 HBX HE
                  have HF0 : Hid (l = [72, 89, x] ++ I.flatMap Itm.bytes) := Lib.hid (by
                    rcases HFr.out (by omega) with ⟨_, h⟩ | ⟨h, _⟩
                    · exact h
                    · cases h)
                  have hl0 : 0 < l.length ∧ l.length ≤ 100000004 := by
                    have h1 := HSL.out
                    rw [HF0.out, List.length_append]
                    have : ([72, 89, x] : List UInt8).length = 3 := rfl
                    omega
                  obtain ⟨m, hm, hmw⟩ := wrapm cut l.length hl0.1 hl0.2
                  have RS := run_slice_hp ⟨va, vc, l⟩ m (Nat.le_of_lt hm) HV11.out.1
                  have HM := Lib.hid hm
                  clear hm
                  have HLT : Hid ((l.take m).length = m) := Lib.hid (by rw [List.length_take]; have := HM.out; omega)
                  have HC1 := Lib.hid (from_cut HF0.out m HM.out)
                  go_wp2_with fail
                  go_roundw
                  case rel => exact ⟨1, l.take m, by omega, rfl, by rw [HLT.out], Lib.hid (fun _ => HC1.out), Lib.hid (HV11.out.cut m), R11, HB11⟩
                  case measure => simp [intOf]
                · have HE := Lib.hid hE
                  clear hE
                  go_wp2_with fail
                  with_reducible refine PE.out.mono ?_
                  clear PE
                  rintro e w10 ⟨rfl, h10, b10⟩
                  have kb10 : Below wo.heap.size wr w10 := b10.below hk9.out HBX.out.size
                  rw [HE.out]
                  have HB11 := Lib.hid (B10.out.trans (kb10.mono B8.out.size))
                  have HV11 := Lib.hid (HV8.out.below (HBX.out.trans kb10))
                  have R11 := Lib.hid (rowT_below R8.out (HBX.out.trans kb10))
                  clear kb10 b10 h10 HVX RX B10 HBX HE
                  go_wp2_with fail
                  go_roundw
                  case rel => exact ⟨2, l, by omega, rfl, rfl, Lib.hid (fun h => absurd h (by decide)), HV11, R11, HB11⟩
                  case measure => simp [intOf]
          · have r1 : ¬ (r : Int) < 2 := by omega
            go_wp2_with fail
            go_ret
            exact ⟨rfl, B8.out⟩
      · have q1 : ¬ (j : Int) < (R.length : Int) := by omega
        clear hj1
        go_wp2_with fail
        with_reducible refine PB.out.mono ?_
        rintro e w5 ⟨v5, rfl, r5, b5⟩
        obtain ⟨va, vc, rfl, v1, v2, v3, v4, v5⟩ := rowIs.form2 r5
        have HV : Hid ((⟨va, vc, F⟩ : Pt).ok w5) := Lib.hid ⟨v1, v2, v3⟩
        have HZ : Hid (va = none → vc = 0) := Lib.hid v4
        have R5 := Lib.hid (rowT_below R4.out b5)
        have B5 := Lib.hid (hb.out.trans (b5.mono hb.out.size))
        clear r5 b5 v1 v2 v3 v4 v5 PB O4 R4 hb
        go_wp2_with fail
        with_reducible refine (glyphs_any w5).mono ?_
        rintro e w6 ⟨rfl, b6⟩
        have HV6 := Lib.hid (HV.out.below b6)
        have R6 := Lib.hid (rowT_below R5.out b6)
        have B6 := Lib.hid (B5.out.trans (b6.mono B5.out.size))
        clear b6 HV R5 B5
        go_wp2_with fail
        rw [wrap_next]
        have PO := Lib.hid (open_other x ⟨va, vc, F⟩ (I.flatMap Itm.bytes) w6 HV6.out HF.out.symm)
        with_reducible refine PO.out.mono ?_
        clear PO
        rintro e w7 ⟨k7, rfl, h7, b7⟩
        have HV7 := Lib.hid (HV6.out.below b7.out)
        have R7 := Lib.hid (rowT_below R6.out b7.out)
        have B7 := Lib.hid (B6.out.trans (b7.out.mono B6.out.size))
        clear b7 HV6 R6 B6
        go_wp2_with fail
        with_reducible refine (rerr_any k7 [] 2 w7 h7.out).mono ?_
        clear h7
        rintro e w8 ⟨rfl, rfl⟩
        go_wp2_with fail
        clear HNL
        have HSL : Hid ((I.flatMap Itm.bytes).length ≤ 100000000) := Lib.hid (by have h1 := HCP.out; unfold capB at h1; omega)
        obtain ⟨a0, c0, rfl, hc0⟩ := rowT_form R7.out
        go_loopw [13, 11] (fun i b wr => ∃ (r : Nat) (l : List UInt8), r ≤ 2 ∧ i = .int .i64 r ∧ b = .slice va l.length vc ∧ Hid (r ≤ 1 → From r l x (I.flatMap Itm.bytes)) ∧ Hid ((⟨va, vc, l⟩ : Pt).ok wr) ∧ Hid (rowT wr w.heap.size (.slice a0 I.length c0) I) ∧ Hid (Below w.heap.size w wr)) (fun i _ _ => (2 - intOf i).toNat)
        case atStart => exact ⟨0, F, by omega, rfl, rfl, Lib.hid (fun _ => Or.inl ⟨rfl, HF.out.symm⟩), HV7, R7, B7⟩
        case round =>
          rename World => wo
          obtain ⟨r, l, hr2, rfl, rfl, HFr, HV8, R8, B8⟩ := hrel
          by_cases hrr : r < 2
          · have r1 : (r : Int) < 2 := by omega
            go_wp2_with fail
            have PW := Lib.hid (open_way r x ⟨va, vc, l⟩ (I.flatMap Itm.bytes) wo HV8.out HZ.out HSL.out (HFr.out (by omega)))
            with_reducible refine PW.out.mono ?_
            clear PW
            rintro e w9 ⟨k9, L9, e9, rfl, hk9, hrd, hway, hb9⟩
            go_wp2_with fail
            go_loopw [15] (fun i wx => ∃ (n : Nat) (L : List UInt8) (er : Int), n ≤ I.length ∧ i = .int .i64 n ∧ Hid (RdAt wx k9 L er) ∧ Hid (Way r L er ((I.drop n).flatMap Itm.bytes)) ∧ Hid (Below wo.heap.size wo wx)) (fun i _ => (I.length - intOf i).toNat)
            case atStart => exact ⟨0, L9, e9, by omega, rfl, hrd, hway, hb9⟩
            case round =>
              obtain ⟨n, L, er, hn, rfl, HRD, HWY, HBX⟩ := hrel
              by_cases hnn : n < I.length
              · have n1 : (n : Int) < (I.length : Int) := by omega
                have hI40 : I.length ≤ 40 := by rw [HIL.out]; exact h40
                obtain ⟨g0, rfl, hg0, d0, d1, d2⟩ := rowT_at (rowT_below R8.out HBX.out) n hnn
                have HPO := HOK.out (I[n]) (List.getElem_mem hnn)
                rw [rest_at I n hnn] at HWY
                generalize hR1 : (I.drop (n + 1)).flatMap Itm.bytes = R1 at *
                have HR1 := Lib.hid hR1
                clear hR1
                generalize I[n] = p at *
                obtain ⟨A, N, T⟩ := p
                have d0 : wr.cell? ⟨g0, n * 3, none⟩ = some (.int .i64 A) := d0
                have d1 : wr.cell? ⟨g0, n * 3 + 1, none⟩ = some (.int .i64 (N : Int)) := d1
                have d2 : wr.cell? ⟨g0, n * 3 + 2, none⟩ = some (.string (str T)) := d2
                have HN : Hid (N < 4611686018427387904) := Lib.hid HPO.1
                have HT : Hid (T.length ≤ 300) := Lib.hid HPO.2
                clear HPO
                have b1 : Below wr.heap.size wr (wr.alloc (.cells #[.int .i64 A, .int .i64 (N : Int), .string (str T)] 33 (0, 0))) := (Below.refl wr.heap.size wr).alloc (Nat.le_refl _) _
                have KB1 := Lib.hid b1
                clear b1
                have T6 : Hid (blockIs (wr.alloc (.cells #[.int .i64 A, .int .i64 (N : Int), .string (str T)] 33 (0, 0))) wr.heap.size (Itm.cells ⟨A, N, T⟩) 33) := Lib.hid (blockIs.new wr _ _)
                go_wp2_with fail
                refine (kind_is A N (str T) _).mono ?_
                rintro e w8 ⟨rfl, b8⟩
                have T8 := Lib.hid (T6.out.below b8 T6.out.lt)
                have kb8 : Below wr.heap.size wr w8 := KB1.out.trans (b8.mono KB1.out.size)
                have RD8 := Lib.hid (HRD.out.below kb8)
                have BX8 := Lib.hid (HBX.out.trans (kb8.mono HBX.out.size))
                have HTK : Hid (wr.heap.size ≠ k9) := Lib.hid (Nat.ne_of_gt (by obtain ⟨p, h1, _⟩ := HRD.out; exact h1.1.lt))
                have f0 : w8.cell? ⟨wr.heap.size, 0, none⟩ = some (.int .i64 A) := by rw [T8.out.cell]; rfl
                have f1 : w8.cell? ⟨wr.heap.size, 1, none⟩ = some (.int .i64 (N : Int)) := by rw [T8.out.cell]; rfl
                have f2 : w8.cell? ⟨wr.heap.size, 2, none⟩ = some (.string (str T)) := by rw [T8.out.cell]; rfl
                have hst := str_size T
                clear kb8 b8 KB1 T6 d0 d1 d2 HRD HBX
                generalize wr.heap.size = tb at *
                have hq4 := kind_lt A
                generalize hkq : kindOf A = q at *
                rcases (show q = 0 ∨ q = 1 ∨ q = 2 ∨ q = 3 by omega) with rfl | rfl | rfl | rfl
                · rw [itm_0 hkq] at HWY
                  go_wp2_with fail
                  go_region_held3 (fun w' => w'.cell? ⟨tb, 1, none⟩ = some (.int .i64 (N : Int)))
                    (first | assumption | go_keep)
                    (first
                    | (go_at_call 22
                       with_reducible refine (rnum_to k9 L er 4611686018427387904 _ ?_).mono ?_
                       · first | exact RD8.out | exact RD8.out.below (Below.refl _ _).drew
                       rintro e w9 ⟨n1, L1, e1, hto, rfl, hrd, hbt⟩
                       have g1 : w9.cell? ⟨tb, 1, none⟩ = some (.int .i64 (N : Int)) := hbt.out.cell f1 HTK.out))
                  all_goals
                    obtain ⟨W2, hv⟩ := way_num HN.out HWY.out hto.out
                    rw [← HR1.out] at W2
                    have W3 := Lib.hid W2
                    have BX9 : Hid (Below wo.heap.size wo w9) := Lib.hid (BX8.out.trans ((Below.refl _ _).drew.trans (hbt.out.below hk9.out BX8.out.size)))
                    clear f0 f1 f2 T8 W2 hbt BX8 RD8
                    rcases (show r = 0 ∨ r = 1 by omega) with rfl | rfl
                    · have hok : (n1 == (N : Int)) = true := by rw [hv rfl]; simp
                      go_wp2_with fail
                      go_roundw
                      case rel => exact ⟨n + 1, L1, e1, by omega, by go_num, hrd, W3, BX9⟩
                      case measure => simp [intOf]; omega
                    · go_wp2_with fail
                      go_roundw
                      case rel => exact ⟨n + 1, L1, e1, by omega, by go_num, hrd, W3, BX9⟩
                      case measure => simp [intOf]; omega
                · rw [itm_1 hkq] at HWY
                  go_wp2_with fail
                  go_region_held3 (fun w' => w'.cell? ⟨tb, 2, none⟩ = some (.string (str T)))
                    (first | assumption | go_keep)
                    (first
                    | (go_at_call 23
                       with_reducible refine (rtext_to k9 L er 300 _ ?_).mono ?_
                       · first | exact RD8.out | exact RD8.out.below (Below.refl _ _).drew
                       rintro e w9 ⟨n1, L1, e1, hto, rfl, hrd, hbt⟩
                       have g1 : w9.cell? ⟨tb, 2, none⟩ = some (.string (str T)) := hbt.out.cell f2 HTK.out))
                  all_goals
                    have hto : NumTo L er 300 n1 L1 e1 := hto.out
                    obtain ⟨W2, hv⟩ := way_text HT.out HWY.out hto
                    clear hto
                    rw [← HR1.out] at W2
                    have W3 := Lib.hid W2
                    have BX9 : Hid (Below wo.heap.size wo w9) := Lib.hid (BX8.out.trans ((Below.refl _ _).drew.trans (hbt.out.below hk9.out BX8.out.size)))
                    clear f0 f1 f2 T8 W2 hbt BX8 RD8
                    rcases (show r = 0 ∨ r = 1 by omega) with rfl | rfl
                    · have hok : (str (tOut L1 e1 n1) == str T) = true := same_str _ _ (hv rfl)
                      go_wp2_with fail
                      go_roundw
                      case rel => exact ⟨n + 1, (tLeft L1 e1 n1), (tErr L1 e1 n1), by omega, by go_num, hrd, W3, BX9⟩
                      case measure => simp [intOf]; omega
                    · go_wp2_with fail
                      go_roundw
                      case rel => exact ⟨n + 1, (tLeft L1 e1 n1), (tErr L1 e1 n1), by omega, by go_num, hrd, W3, BX9⟩
                      case measure => simp [intOf]; omega
                · rw [itm_2 hkq] at HWY
                  go_wp2_with fail
                  go_region_held3 (fun w' => w'.cell? ⟨tb, 1, none⟩ = some (.int .i64 (N : Int)))
                    (first | assumption | go_keep)
                    (first
                    | (go_at_call 24
                       with_reducible refine (rflag_to k9 L er _ ?_).mono ?_
                       · first | exact RD8.out | exact RD8.out.below (Below.refl _ _).drew
                       rintro e w9 ⟨y, e1, hto, rfl, hrd, hbt⟩
                       have g1 : w9.cell? ⟨tb, 1, none⟩ = some (.int .i64 (N : Int)) := hbt.out.cell f1 HTK.out))
                  all_goals
                    obtain ⟨W2, hv⟩ := way_flag (Nat.mod_lt N (by decide)) HWY.out hto.out
                    rw [← HR1.out] at W2
                    have W3 := Lib.hid W2
                    have BX9 : Hid (Below wo.heap.size wo w9) := Lib.hid (BX8.out.trans ((Below.refl _ _).drew.trans (hbt.out.below hk9.out BX8.out.size)))
                    clear f0 f1 f2 T8 W2 hbt BX8 RD8
                    rcases (show r = 0 ∨ r = 1 by omega) with rfl | rfl
                    · have hok : (y == ((N : Int).tmod 2 == 1)) = true := by rw [hv rfl, odd_same2]; simp
                      rw [hok]
                      go_wp2_with fail
                      go_roundw
                      case rel => exact ⟨n + 1, (tLeft L er 1), e1, by omega, by go_num, hrd, W3, BX9⟩
                      case measure => simp [intOf]; omega
                    · go_wp2_with fail
                      go_roundw
                      case rel => exact ⟨n + 1, (tLeft L er 1), e1, by omega, by go_num, hrd, W3, BX9⟩
                      case measure => simp [intOf]; omega
                · rw [itm_3 hkq] at HWY
                  go_wp2_with fail
                  refine wp_region_noPanic ?_
                  refine wp_region_held_drew (S := fun X => X.cell? ⟨tb, 2, none⟩ = some (.string (str T))) (by kernel_rfl) f2 (fun hH => ?_)
                  refine wpAnyH_take (i := 0) (oi := { dst := some 148, op := Op.move (Operand.tmp 14), type := 43, pos := "law.go:160", after := #[], guard := none }) (v := .pointer (some ⟨k9, 0, none⟩)) rfl (by kernel_rfl) (by kernel_rfl) (by kernel_rfl) (fun _ _ _ h => h) (Or.inl ⟨by rfl, fun wx hS => ?_⟩) hH ?_
                  · go_simp
                  simp only [Act.put, List.setIfInBounds_toArray, List.set_cons_zero, List.set_cons_succ]
                  refine wpAnyH_take (i := 1) (oi := { dst := some 149, op := Op.fieldAddr 33 (Operand.tmp 16) 2, type := 0, pos := "law.go:160", after := #[], guard := none }) (v := .pointer (some ⟨tb, 2, none⟩)) rfl (by kernel_rfl) (by kernel_rfl) (by kernel_rfl) (fun _ _ _ h => h) (Or.inl ⟨by rfl, fun wx hS => ?_⟩) hH ?_
                  · go_simp
                  simp only [Act.put, List.setIfInBounds_toArray, List.set_cons_zero, List.set_cons_succ]
                  refine wpAnyH_take (i := 2) (oi := { dst := some 150, op := Op.load 9 (Operand.tmp 149), type := 9, pos := "law.go:160", after := #[{ on := 1, ground := Ground.data }], guard := none }) (v := .string (str T)) rfl (by kernel_rfl) (by kernel_rfl) (by kernel_rfl) (fun _ _ _ h => h) (Or.inl ⟨by rfl, fun wx hS => ?_⟩) hH ?_
                  · have e1 : wx.cell? ⟨tb, 2, none⟩ = some (.string (str T)) := hS; go_simp
                  simp only [Act.put, List.setIfInBounds_toArray, List.set_cons_zero, List.set_cons_succ]
                  refine wpAnyH_take (i := 3) (oi := { dst := some 151, op := Op.call { callee := Callee.builtin Builtin.len, args := #[Operand.tmp 150], argTypes := #[9] }, type := 3, pos := "law.go:160", after := #[{ on := 2, ground := Ground.data }], guard := none }) (v := .int .i64 (T.length : Int)) rfl (by kernel_rfl) (by kernel_rfl) (by kernel_rfl) (fun _ _ _ h => h) (Or.inl ⟨by rfl, fun wx hS => ?_⟩) hH ?_
                  · go_simp
                  simp only [Act.put, List.setIfInBounds_toArray, List.set_cons_zero, List.set_cons_succ]
                  refine wpAnyH_take (i := 6) (oi := { dst := some 154, op := Op.fieldAddr 33 (Operand.tmp 16) 2, type := 0, pos := "law.go:160", after := #[], guard := none }) (v := .pointer (some ⟨tb, 2, none⟩)) rfl (by kernel_rfl) (by kernel_rfl) (by kernel_rfl) (fun _ _ _ h => h) (Or.inl ⟨by rfl, fun wx hS => ?_⟩) hH ?_
                  · go_simp
                  simp only [Act.put, List.setIfInBounds_toArray, List.set_cons_zero, List.set_cons_succ]
                  refine wpAnyH_take (i := 7) (oi := { dst := some 155, op := Op.load 9 (Operand.tmp 154), type := 9, pos := "law.go:160", after := #[{ on := 6, ground := Ground.data }], guard := none }) (v := .string (str T)) rfl (by kernel_rfl) (by kernel_rfl) (by kernel_rfl) (fun _ _ _ h => h) (Or.inl ⟨by rfl, fun wx hS => ?_⟩) hH ?_
                  · have e1 : wx.cell? ⟨tb, 2, none⟩ = some (.string (str T)) := hS; go_simp
                  simp only [Act.put, List.setIfInBounds_toArray, List.set_cons_zero, List.set_cons_succ]
                  refine wpAnyH_ready (rs := [4]) (by kernel_rfl) (by simp) ?_
                  refine AllReadyH.cons (o := { dst := some 152, op := Op.call { callee := Callee.value (Operand.func 25), args := #[Operand.tmp 148, Operand.tmp 151], argTypes := #[43, 3] }, type := 23, pos := "law.go:160", after := #[{ on := 0, ground := Ground.data }, { on := 3, ground := Ground.data }], guard := none }) rfl (fun KK hKK => ?_) AllReadyH.nil
                  go_simp
                  with_reducible refine (rraw_any k9 L er (T.length : Int) w8.drew (RD8.out.below (Below.refl _ _).drew) (way_len HWY.out)).mono ?_
                  rintro e w9 ⟨v9, rfl, hrw, hrd, hbt⟩
                  obtain ⟨a9, c9, rfl, -, h9, -⟩ := rowIs.bytes hrw
                  have cv9 := conv_string w9 a9 _ c9 h9
                  have hrd := Lib.hid hrd
                  have hbt := Lib.hid hbt
                  have g1 : w9.cell? ⟨tb, 2, none⟩ = some (.string (str T)) := hbt.out.cell f2 HTK.out
                  clear hrw h9 hH
                  refine hKK.out _ _ g1 (fun hH => ?_)
                  clear hKK KK
                  try simp only [Act.put, List.setIfInBounds_toArray, List.set_cons_zero, List.set_cons_succ]
                  refine wpAnyH_ready (rs := [5]) (by kernel_rfl) (by simp) ?_
                  refine AllReadyH.cons (o := { dst := some 153, op := Op.convert 23 9 (Operand.tmp 152), type := 9, pos := "law.go:160", after := #[{ on := 4, ground := Ground.data }], guard := none }) rfl (fun KK hKK => ?_) AllReadyH.nil
                  go_simp
                  refine hKK.out _ _ g1 (fun hH => ?_)
                  clear hKK KK cv9
                  try simp only [Act.put, List.setIfInBounds_toArray, List.set_cons_zero, List.set_cons_succ]
                  refine wpAnyH_take (i := 8) (oi := { dst := some 156, op := Op.binOp BinOp.eql 9 (Operand.tmp 153) (Operand.tmp 155) 9, type := 4, pos := "law.go:160", after := #[{ on := 5, ground := Ground.data }, { on := 7, ground := Ground.data }], guard := none }) (v := .bool ((str (tOut L er (T.length : Int))).toList == (str T).toList)) rfl (by kernel_rfl) (by kernel_rfl) (by kernel_rfl) (fun _ _ _ h => h) (Or.inl ⟨by rfl, fun wx hS => ?_⟩) hH ?_
                  · go_simp
                  simp only [Act.put, List.setIfInBounds_toArray, List.set_cons_zero, List.set_cons_succ]
                  refine wpAnyH_take (i := 9) (oi := { dst := some 17, op := Op.assign (Operand.tmp 156), type := 4, pos := "law.go:160", after := #[{ on := 8, ground := Ground.data }, { on := 4, ground := Ground.chain }, { on := 0, ground := Ground.phase }, { on := 1, ground := Ground.phase }, { on := 2, ground := Ground.phase }, { on := 3, ground := Ground.phase }, { on := 4, ground := Ground.phase }, { on := 5, ground := Ground.phase }, { on := 6, ground := Ground.phase }, { on := 7, ground := Ground.phase }, { on := 8, ground := Ground.phase }], guard := none }) (v := .bool ((str (tOut L er (T.length : Int))).toList == (str T).toList)) rfl (by kernel_rfl) (by kernel_rfl) (by kernel_rfl) (fun _ _ _ h => h) (Or.inl ⟨by rfl, fun wx hS => ?_⟩) hH ?_
                  · go_simp
                  simp only [Act.put, List.setIfInBounds_toArray, List.set_cons_zero, List.set_cons_succ]
                  refine wpAnyH_done (by kernel_rfl) ?_ _
                  refine NoPanic.normal ?_
                  clear hH
                  obtain ⟨W2, hv⟩ := way_raw HWY.out
                  rw [← HR1.out] at W2
                  have W3 := Lib.hid W2
                  have BX9 : Hid (Below wo.heap.size wo w9) := Lib.hid (BX8.out.trans ((Below.refl _ _).drew.trans (hbt.out.below hk9.out BX8.out.size)))
                  clear f0 f1 f2 T8 W2 hbt BX8 RD8
                  rcases (show r = 0 ∨ r = 1 by omega) with rfl | rfl
                  · have hok : (str (tOut L er (T.length : Int)) == str T) = true := same_str _ _ (hv rfl)
                    go_wp2_with fail
                    go_roundw
                    case rel => exact ⟨n + 1, (tLeft L er (T.length : Int)), (tErr L er (T.length : Int)), by omega, by go_num, hrd, W3, BX9⟩
                    case measure => simp [intOf]; omega
                  · go_wp2_with fail
                    go_roundw
                    case rel => exact ⟨n + 1, (tLeft L er (T.length : Int)), (tErr L er (T.length : Int)), by omega, by go_num, hrd, W3, BX9⟩
                    case measure => simp [intOf]; omega
              · have n1 : ¬ (n : Int) < (I.length : Int) := by omega
                have hend : (I.drop n).flatMap Itm.bytes = [] := by rw [List.drop_eq_nil_of_le (by omega)]; rfl
                rw [hend] at HWY
                have HE := way_end HWY.out
                have B10 := Lib.hid (B8.out.trans (HBX.out.mono B8.out.size))
                have HVX := Lib.hid (HV8.out.below HBX.out)
                have RX := Lib.hid (rowT_below R8.out HBX.out)
                have PE := Lib.hid (rend_any k9 L er wr HRD.out)
                have HKX : Hid (wo.heap.size ≤ k9) := hk9
                clear hend HRD HWY
                rcases HE with ⟨rfl, hE⟩ | ⟨rfl, hE⟩
                · have HE := Lib.hid hE
                  clear hE
                  go_wp2_with fail
                  with_reducible refine PE.out.mono ?_
                  clear PE
                  rintro e w10 ⟨rfl, h10, b10⟩
                  have kb10 : Below wo.heap.size wr w10 := b10.below hk9.out HBX.out.size
                  rw [HE.out]
                  have HB11 := Lib.hid (B10.out.trans (kb10.mono B8.out.size))
                  have HV11 := Lib.hid (HV8.out.below (HBX.out.trans kb10))
                  have R11 := Lib.hid (rowT_below R8.out (HBX.out.trans kb10))
                  clear kb10 b10 h10 HVX RX B10 HBX HE
                  have HF0 : Hid (l = [72, 89, x] ++ I.flatMap Itm.bytes) := Lib.hid (by
                    rcases HFr.out (by omega) with ⟨_, h⟩ | ⟨h, _⟩
                    · exact h
                    · cases h)
                  have hl0 : 0 < l.length ∧ l.length ≤ 100000004 := by
                    have h1 := HSL.out
                    rw [HF0.out, List.length_append]
                    have : ([72, 89, x] : List UInt8).length = 3 := rfl
                    omega
                  obtain ⟨m, hm, hmw⟩ := wrapm cut l.length hl0.1 hl0.2
                  have RS := run_slice_hp ⟨va, vc, l⟩ m (Nat.le_of_lt hm) HV11.out.1
                  have HM := Lib.hid hm
                  clear hm
                  have HLT : Hid ((l.take m).length = m) := Lib.hid (by rw [List.length_take]; have := HM.out; omega)
                  have HC1 := Lib.hid (from_cut HF0.out m HM.out)
                  go_wp2_with fail
                  go_roundw
                  case rel => exact ⟨1, l.take m, by omega, rfl, by rw [HLT.out], Lib.hid (fun _ => HC1.out), Lib.hid (HV11.out.cut m), R11, HB11⟩
                  case measure => simp [intOf]
                · have HE := Lib.hid hE
                  clear hE
                  go_wp2_with fail
                  with_reducible refine PE.out.mono ?_
                  clear PE
                  rintro e w10 ⟨rfl, h10, b10⟩
                  have kb10 : Below wo.heap.size wr w10 := b10.below hk9.out HBX.out.size
                  rw [HE.out]
                  have HB11 := Lib.hid (B10.out.trans (kb10.mono B8.out.size))
                  have HV11 := Lib.hid (HV8.out.below (HBX.out.trans kb10))
                  have R11 := Lib.hid (rowT_below R8.out (HBX.out.trans kb10))
                  clear kb10 b10 h10 HVX RX B10 HBX HE
                  go_wp2_with fail
                  go_roundw
                  case rel => exact ⟨2, l, by omega, rfl, rfl, Lib.hid (fun h => absurd h (by decide)), HV11, R11, HB11⟩
                  case measure => simp [intOf]
          · have r1 : ¬ (r : Int) < 2 := by omega
            go_wp2_with fail
            go_ret
            exact ⟨rfl, B8.out⟩
end Go.Proofs.Ytmdcdepoeolbhaa
