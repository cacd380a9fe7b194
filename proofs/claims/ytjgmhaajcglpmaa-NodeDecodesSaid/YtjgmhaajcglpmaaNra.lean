/- The next node: the reader's call. -/
import Derived.Test.YtjgmhaajcglpmaaNrp
import Derived.Test.YtjgmhaajcglpmaaNfi
namespace Go.Proofs.Ytjgmhaajcglpmaa
open Go.RowKit
variable {B : Nat}

theorem Rd.bound {most : Int} {L : List UInt8} {e n : Int} {L1 : List UInt8} {e1 : Int} (h : Rd (NumIs most) 0 L e n L1 e1) (hm : 0 ≤ most) : 0 ≤ n ∧ n ≤ most := by
  rcases h with ⟨-, -, h1, h2, -⟩ | ⟨-, h, -⟩
  · exact ⟨h1, h2⟩
  · omega
theorem Rd.tbound {most : Int} {L : List UInt8} {e : Int} {t : List UInt8} {L1 : List UInt8} {e1 : Int} (h : Rd (TextIs most) [] L e t L1 e1) : t.length ≤ 131072 := by
  rcases h with ⟨-, -, h1, h2, -⟩ | ⟨-, h, -⟩
  · omega
  · rw [h]; exact Nat.zero_le _
theorem NumTo.le {L : List UInt8} {e most n : Int} {L1 : List UInt8} {e1 : Int} (h : NumTo L e most n L1 e1) : L1.length ≤ L.length := by
  rcases h with ⟨-, -, rfl, -⟩ | ⟨-, -, -, rfl⟩ | ⟨-, N, s, -, -, -, ⟨-, -, rfl, -⟩ | ⟨-, -, rfl, -⟩⟩
  · exact Nat.le_refl _
  · exact Nat.le_refl _
  · exact Nat.le_refl _
  · rw [List.length_drop]; omega
theorem tLeft_le (L : List UInt8) (e n : Int) : (tLeft L e n).length ≤ L.length := by
  unfold tLeft
  split
  · rw [List.length_drop]; omega
  · exact Nat.le_refl _
/-- A node of which the head alone is known. -/
def headNd (t : List UInt8) (k m i : Int) : Nd := ⟨t, k, m, i, 0, [], [], noughts⟩
theorem build_head (t : List UInt8) (k m i : Int) (w : World) : (Instr.build 33 #[(0, .string (str t)), (1, .int .i64 k), (2, .int .i64 m), (3, .int .i64 i)]).run Try.prog w = .ok (.agg ((headNd t k m i).cells (.slice none 0 0)).toArray) w := by
  refine run_build_struct w 33 (Try.prog.fieldsOf 33) ndPlaces _ _ _ (by kernel_rfl) (zero_nd w) (by kernel_rfl) ?_
  have hz : zeroNd.cells (.slice none 0 0) = [.string (str []), .int .i64 0, .int .i64 0, .int .i64 0, .int .i64 0, .string (str []), .slice none 0 0] ++ bvals noughts := rfl
  show Instr.fill (ndPlaces[·]?) (zeroNd.cells (.slice none 0 0)).toArray [(0, .string (str t)), (1, .int .i64 k), (2, .int .i64 m), (3, .int .i64 i)] = _
  rw [hz, fill_cell _ _ 0 _ _ 0 rfl rfl (by simp), fill_cell _ _ 1 _ _ 1 rfl rfl (by simp), fill_cell _ _ 2 _ _ 2 rfl rfl (by simp), fill_cell _ _ 3 _ _ 3 rfl rfl (by simp)]
  rfl
theorem build_op4 {w : World} {ops : Array Oper} {rest : List Oper} {o : Oper} {a : Act} {Q : Exit → Act → World → Prop} (hw : Region.wanted o (yielded ops a.tmps) = true) (x0 x1 x2 x3 : Operand) (ho : o.op = .build 33 #[(0, x0), (1, x1), (2, x2), (3, x3)])
    (t : List UInt8) (k m i : Int) (h0 : a.eval x0 = .string (str t)) (h1 : a.eval x1 = .int .i64 k) (h2 : a.eval x2 = .int .i64 m) (h3 : a.eval x3 = .int .i64 i)
    (cs : List Value) (hcs : cs = (headNd t k m i).cells (.slice none 0 0)) (h : wpList Try.prog ops Q rest (a.put o.dst (.agg cs.toArray)) w) : wpList Try.prog ops Q (o :: rest) a w := by
  refine BigFrame.wpList_want hw fun K hK => ?_
  have e : (#[((0 : Nat), x0), ((1 : Nat), x1), ((2 : Nat), x2), ((3 : Nat), x3)].map fun (p : Nat × Operand) => (p.1, a.eval p.2)) = #[(0, .string (str t)), (1, .int .i64 k), (2, .int .i64 m), (3, .int .i64 i)] := by simp [h0, h1, h2, h3]
  unfold Oper.wp execOp
  simp only [ho, Sem.run_bind]
  rw [show (#[((0 : Nat), x0), ((1 : Nat), x1), ((2 : Nat), x2), ((3 : Nat), x3)].map fun ((i, x) : Nat × Operand) => (i, a.eval x)) = #[(0, .string (str t)), (1, .int .i64 k), (2, .int .i64 m), (3, .int .i64 i)] from e, build_head]
  simp only [Result.andThen_ok, Sem.run_pure]
  rw [hcs] at h
  exact hK _ _ h
theorem read_ret (tmps : Array Value) (w : World) (g : Nat) (cs : List Value) (hp : tmps.getD 2 undef = .pointer (some ⟨g, 0, none⟩)) (hc : blockIs w g cs 33) (hl : cs.length = 39) : (results Try.f44 tmps).run Try.prog w = .ok (.agg cs.toArray) w :=
  results_cell_row rfl tmps w g 33 cs.toArray (0, 0) _ hp hc Try.underlying33 rfl (by rw [List.size_toArray, hl]; kernel_rfl)
theorem But.then {b : Nat} {x y z : World} (h : But b x y) (k : Below x.heap.size y z) : But b x z :=
  ⟨k.os.trans h.os, k.tape.trans h.tape, k.output.trans h.output, Nat.le_trans h.size k.size, fun j hj hn => (k.block j hj).trans (h.block j hj hn)⟩
theorem step_copy_tree {w : World} {ops : Array Oper} {o : Oper} {a : Act} {K : Act → World → Prop} {Q : Exit → Act → World → Prop} {E : Prop} (hw : Region.wanted o (yielded ops a.tmps) = true) (d x : Operand) (ho : o.op = .call { callee := .builtin .copy, args := #[d, x], argTypes := #[40, 40] })
    (g : Nat) (hd : a.eval d = .slice (some ⟨g, 7, none⟩) 32 32) (n : Nd) (pv : Value) (ht : n.tree.length = 32) (hb : blockIs w g (n.cells pv) 33) (sa : Option Addr) (tr : List UInt8) (sc : Nat) (hs : a.eval x = .slice sa tr.length sc) (hin : bytesIn w sa tr) (hl : tr = [] ∨ tr.length = 32)
    (h : ∀ w' u, blockIs w' g (Nd.cells { n with tree := if tr = [] then n.tree else tr } pv) 33 → But g w w' → K (a.put o.dst u) w') : if Region.wanted o (yielded ops a.tmps) = true then Oper.wp Try.prog o a w K Q else E := by
  rw [if_pos hw]
  have hu : Try.prog.underlying 40 = some (.slice 5) := by kernel_rfl
  have hsz : (Try.prog.info? 5).map (·.size) = some 1 := by kernel_rfl
  by_cases h0 : tr = []
  · subst h0
    have hrun := run_copy_none (P := Try.prog) w 40 40 o.type 5 (some ⟨g, 7, none⟩) sa 32 32 0 sc hu hsz rfl
    have hs' : a.eval x = .slice sa 0 sc := hs
    unfold Oper.wp
    simp [execOp, ho, resolve, invoke, builtin, hd, hs', hrun, Result.andThen]
    exact h w _ (by rw [if_pos rfl]; exact hb) (But.refl _ _)
  · have h32 := hl.resolve_left h0
    rcases hin with hin | ⟨b, o', rfl, hc⟩
    · exact absurd hin h0
    · have hbl : (bvals tr).length = 32 := by rw [bvals_length, h32]
      have hcl := n.cells_length pv ht
      have hrun0 := run_copy_row (P := Try.prog) w 40 40 o.type 5 g 7 32 32 ⟨b, o', none⟩ tr.length sc (n.cells pv).toArray 33 (bvals tr) hu hsz hb (by rw [hbl, h32]; rfl) (fun j v hj => by
        have hjl := (List.getElem?_eq_some_iff.1 hj).1
        rw [bvals_length] at hjl
        rw [Addr.add_lit, hc j hjl]
        rw [bvals, List.getElem?_map, List.getElem?_eq_getElem hjl] at hj
        rw [List.getD_eq_getElem?_getD, List.getElem?_eq_getElem hjl]
        exact hj) (by rw [hbl, List.size_toArray, hcl]; omega) (fun v hv => bvals_one tr v hv)
      have er : (n.cells pv).take 7 ++ bvals tr ++ (n.cells pv).drop (7 + (bvals tr).length) = Nd.cells { n with tree := if tr = [] then n.tree else tr } pv := by
        have hd : (n.cells pv).drop (7 + (bvals tr).length) = [] := List.drop_eq_nil_of_le (by rw [hbl, hcl]; omega)
        rw [hd, List.append_nil, if_neg h0]
        rfl
      rw [List.toList_toArray, er] at hrun0
      generalize hX : (Nd.cells { n with tree := if tr = [] then n.tree else tr } pv).toArray = X at hrun0
      unfold Oper.wp
      simp [execOp, ho, resolve, invoke, builtin, hd, hs, hrun0, Result.andThen]
      refine h _ _ ?_ ⟨rfl, rfl, rfl, by simp [World.setRow], fun k _ hk => setRow_other w g k _ hk⟩
      have e2 := setRow_heap w g (n.cells pv).toArray X 33 (0, 0) hb
      rw [← hX] at e2 ⊢
      exact e2
theorem lit_wf {x m : Int} (h0 : 0 ≤ x) (h1 : x ≤ m) (hm : m ≤ 1099511627776) : (Lit.int .i64 x).wf = true := by
  have e1 : IntKind.i64.min = -9223372036854775808 := by decide
  have e2 : IntKind.i64.max = 9223372036854775807 := by decide
  simp only [Lit.wf, e1, e2, Bool.and_eq_true, decide_eq_true_eq]
  omega
def ReadNd (B : Nat) (w : World) (k : Nat) (L : List UInt8) (r : Ending) (w' : World) : Prop := ∃ n pv L1 e1, r = .returned (.agg (n.cells pv).toArray) ∧ n.Wf ∧ NdRd L n L1 e1 ∧ w'.ownsRow w.heap.size 24 32 pv n.parts.length (idcells n.parts) ∧ RdAt B w' k L1 e1 ∧ But k w w' ∧ L1.length ≤ L.length
set_option maxRecDepth 100000 in
set_option maxHeartbeats 8000000 in
theorem read_any (k : Nat) (L : List UInt8) (w : World) (h : RdAt B w k L 0) (hl : L.length ≤ 100000000) (hk : k < w.heap.size) (hBw : B ≤ w.heap.size) :
    Calls Try.prog 44 #[.pointer (some ⟨k, 0, none⟩)] w (ReadNd B w k L) := by
  have hz := zero_nd
  have HZ := Lib.hid (zeroNd.cells_length (.slice none 0 0) rfl)
  have HB0 := blockIs.new w (zeroNd.cells (.slice none 0 0)) 33
  have A0 := alloc_below w (.cells (zeroNd.cells (.slice none 0 0)).toArray 33 (0, 0))
  generalize hzs : zeroNd.cells (.slice none 0 0) = zs at *
  have h0 := h.below A0
  have PT := Lib.hid (rtext_to k L 0 255 _ h0)
  have HL := Lib.hid hl
  have HB := Lib.hid HB0
  have HA0 := Lib.hid (But.of_below (b := k) A0)
  clear h h0 hl HB0 A0
  go_enter Try.func44, Try.ntmps44
  go_wp2_with fail
  with_reducible refine PT.out.mono ?_
  rintro r w1 ⟨n1, K1, d1, hn, rfl, hr, hb⟩
  have T1 := Lib.hid (rd_text hn.out)
  have HL1 := Lib.hid (Nat.le_trans (tLeft_le K1 d1 n1) hn.out.le)
  clear hn PT
  generalize tOut K1 d1 n1 = t at *
  generalize tLeft K1 d1 n1 = L1 at *
  generalize tErr K1 d1 n1 = e1 at *
  clear K1 d1 n1
  have HNE : Hid (w.heap.size ≠ k) := Lib.hid (by omega)
  have HB1 := Lib.hid (blockIs.but hb.out HB.out HNE.out)
  have BU1 := Lib.hid (HA0.out.trans hb.out)
  clear HB HA0 hb
  generalize w.alloc (.cells zs.toArray 33 (0, 0)) = w0 at *
  have PN := rnum_to k L1 e1 2 w1 hr.out
  go_wp2_with fail
  with_reducible refine PN.mono ?_
  rintro r w2 ⟨kd, L2, e2, hn, rfl, hr2, hb⟩
  have T2 := Lib.hid (rd_num hn.out)
  have HL2 := Lib.hid (Nat.le_trans hn.out.le HL1.out)
  have HB2 := Lib.hid (blockIs.but hb.out HB1.out HNE.out)
  have BU2 := Lib.hid (BU1.out.trans hb.out)
  clear hn PN hb HB1 BU1 hr w1
  have PN := rnum_to k L2 e2 4095 w2 hr2.out
  go_wp2_with fail
  with_reducible refine PN.mono ?_
  rintro r w3 ⟨md, L3, e3, hn, rfl, hr3, hb⟩
  have T3 := Lib.hid (rd_num hn.out)
  have HL3 := Lib.hid (Nat.le_trans hn.out.le HL2.out)
  have HB3 := Lib.hid (blockIs.but hb.out HB2.out HNE.out)
  have BU3 := Lib.hid (BU2.out.trans hb.out)
  clear hn PN hb HB2 BU2 hr2 w2
  have PN := rnum_to k L3 e3 1099511627776 w3 hr3.out
  go_wp2_with fail
  with_reducible refine PN.mono ?_
  rintro r w4 ⟨ti, L4, e4, hn, rfl, hr4, hb⟩
  have T4 := Lib.hid (rd_num hn.out)
  have HL4 := Lib.hid (Nat.le_trans hn.out.le HL3.out)
  have HB4 := Lib.hid (blockIs.but hb.out HB3.out HNE.out)
  have BU4 := Lib.hid (BU3.out.trans hb.out)
  clear hn PN hb HB3 BU3 hr3 w3
  have HD := Lib.hid (hd_rd T1.out T2.out T3.out T4.out)
  have BK := T2.out.bound (by decide)
  have BM := T3.out.bound (by decide)
  have BT := T4.out.bound (by decide)
  have BN := Lib.hid T1.out.tbound
  clear T1 T2 T3 T4 HL1 HL2 HL3
  have HCH := Lib.hid ((headNd t kd md ti).cells_length (.slice none 0 0) rfl)
  have HCO := Lib.hid (cells_one (headNd t kd md ti) (.slice none 0 0) rfl)
  obtain ⟨cs, hcs⟩ : ∃ cs, cs = (headNd t kd md ti).cells (.slice none 0 0) := ⟨_, rfl⟩
  have HCS := Lib.hid hcs
  rw [← hcs] at HCH HCO
  clear hcs
  go_wp2_with (first | (refine build_op4 (by rfl) _ _ _ _ rfl t kd md ti rfl rfl rfl rfl cs HCS.out ?_) | (refine store_new 33 info_nd rfl _ _ rfl cs zs rfl rfl HCH.out HZ.out HCO.out ?_))
  intro w5 h1 h2
  have HK5 := h1
  have BU5 := Lib.hid (BU4.out.then (h2.out.mono BU4.out.size))
  have HR5 := Lib.hid (hr4.out.below h2.out)
  have HB5 := Lib.hid (HB4.out.below h2.out HB4.out.lt)
  have HG : Hid (w.heap.size < w4.heap.size) := Lib.hid HB4.out.lt
  have HBW := Lib.hid hBw
  clear h1 h2 BU4 hr4 HB4 hBw
  generalize w4.heap.size = g at *
  have HGK : Hid (k ≠ g) := Lib.hid (by have := HG.out; omega)
  have HKG : Hid (g ≠ k) := Lib.hid (by have := HG.out; omega)
  have HGW : Hid (g ≠ w.heap.size) := Lib.hid (by have := HG.out; omega)
  have HWG : Hid (w.heap.size ≠ g) := Lib.hid (by have := HG.out; omega)
  have HWK : Hid (k ≠ w.heap.size) := Lib.hid (by omega)
  have HBG : Hid (B ≤ g) := Lib.hid (by have := HG.out; have := HBW.out; omega)
  have HZL := HZ
  clear hz HCH HCO hzs HZ
  have hk5 := HK5.out
  rw [HCS.out] at hk5
  have HKC := Lib.hid hk5
  obtain ⟨-, c1, -⟩ := nd_block hk5
  clear hk5 HCS HK5
  replace c1 : w5.cell? ⟨g, 1, none⟩ = some (.int .i64 kd) := c1
  have BMH := Lib.hid BM
  have BTH := Lib.hid BT
  clear BM BT hk
  have BKH := Lib.hid BK
  obtain rfl | rfl | rfl : kd = 0 ∨ kd = 1 ∨ kd = 2 := by omega
  · clear BK
    have PN := rnum_to k L4 e4 1048576 w5 HR5.out
    go_wp2_with fail
    with_reducible refine PN.mono ?_
    rintro r w6 ⟨sz, L5, e5, hn, rfl, hr6, hb⟩
    have T5 := Lib.hid (rd_num hn.out)
    have HL5 := Lib.hid (Nat.le_trans hn.out.le HL4.out)
    have BS := T5.out.bound (by decide)
    have BSH := Lib.hid BS
    have HK6 := Lib.hid (HKC.out.but hb.out HKG.out)
    have HB6 := Lib.hid (HB5.out.but hb.out HNE.out)
    have BU6 := Lib.hid (BU5.out.trans hb.out)
    clear hn PN hb HKC HB5 BU5 HR5 c1
    have f4 := HK6.out.free 4
    have c4 := (nd_block HK6.out).2.2.2.2.1
    replace c4 : w6.cell? ⟨g, 4, none⟩ = some (.int .i64 0) := c4
    have HK7 : Hid (blockIs (w6.setCell ⟨g, 4, none⟩ (.int .i64 sz)) g (Nd.cells (⟨t, 0, md, ti, sz, [], [], noughts⟩ : Nd) (.slice none 0 0)) 33) := Lib.hid (HK6.out.set 4 _)
    have HB7 : Hid (blockIs (w6.setCell ⟨g, 4, none⟩ (.int .i64 sz)) w.heap.size zs 33) := Lib.hid (HB6.out.other _ _ HWG.out)
    have BG : But g w6 (w6.setCell ⟨g, 4, none⟩ (.int .i64 sz)) := (But.refl g w6).setCell _ _ (Or.inl rfl)
    have HR7 : Hid (RdAt B (w6.setCell ⟨g, 4, none⟩ (.int .i64 sz)) k L5 e5) := Lib.hid (hr6.out.keep BG HBG.out HGK.out)
    have BU7 : Hid (But k w (w6.setCell ⟨g, 4, none⟩ (.int .i64 sz))) := Lib.hid (BU6.out.then (BG.below (Nat.le_of_lt HG.out) BU6.out.size))
    have PN := rnum_to k L5 e5 sz (w6.setCell ⟨g, 4, none⟩ (.int .i64 sz)) HR7.out
    clear BG HK6 HB6 BU6 hr6 HR7
    have BSX := BSH
    clear BS
    go_wp2_with fail
    with_reducible refine PN.mono ?_
    clear PN f4 c4
    generalize w6.setCell ⟨g, 4, none⟩ (.int .i64 sz) = w7 at *
    rintro r w8 ⟨c, L6, e6, hn, rfl, hr8, hb⟩
    have T6 := Lib.hid (rd_num hn.out)
    have HL6 := Lib.hid (Nat.le_trans hn.out.le HL5.out)
    have BC := T6.out.bound BSH.out.1
    have HK8 := Lib.hid (HK7.out.but hb.out HKG.out)
    have HB8 := Lib.hid (HB7.out.but hb.out HNE.out)
    have BU8 := Lib.hid (BU7.out.trans hb.out)
    clear hn hb HK7 HB7 BU7
    have PI := readIds_any k L6 e6 c w8 hr8.out (Nat.le_trans HL6.out HL.out) BC.1 (by have := BSH.out; omega)
    have T7 := Lib.hid (rd_ids L6 e6 c BC.1)
    have HL7 := Lib.hid (Nat.le_trans (tLeft_le L6 e6 (c * 32)) HL6.out)
    generalize chunksOf (tOut L6 e6 (c * 32)) = PL at *
    generalize tLeft L6 e6 (c * 32) = L7 at *
    generalize tErr L6 e6 (c * 32) = e7 at *
    clear hr8 BC
    go_wp2_with fail
    with_reducible refine PI.mono ?_
    clear PI
    rintro r w9 ⟨⟨v, rfl, hrow⟩, hr9, hb⟩
    have HP32 : Hid (∀ p ∈ PL, p.length = 32) := Lib.hid (by
      rcases T7.out with ⟨-, -, -, h32, -⟩ | ⟨-, h0, -⟩
      · exact h32
      · rw [h0]; intro p hp; cases hp)
    obtain ⟨va, vc, rfl⟩ := (own_ids hrow HP32.out 0).1.form
    have HK9 := Lib.hid (HK8.out.but hb HKG.out)
    have HB9 := Lib.hid (HB8.out.but hb HNE.out)
    have BU9 := Lib.hid (BU8.out.trans hb)
    have HLW : Hid (w.heap.size < w8.heap.size) := Lib.hid HB8.out.lt
    have HLG : Hid (g < w8.heap.size) := Lib.hid HK8.out.lt
    have ROW := Lib.hid hrow
    have HR9 := Lib.hid hr9
    clear hrow hr9 hb HK8 HB8 BU8
    generalize w8.heap.size = s8 at *
    have f6 := HK9.out.free 6
    have c6 := (nd_block HK9.out).2.2.2.2.2.2
    have HKF : Hid (blockIs (w9.setCell ⟨g, 6, none⟩ (.slice va PL.length vc)) g (Nd.cells (⟨t, 0, md, ti, sz, [], PL, noughts⟩ : Nd) (.slice va PL.length vc)) 33) := Lib.hid (HK9.out.set 6 _)
    have HBF : Hid (blockIs (w9.setCell ⟨g, 6, none⟩ (.slice va PL.length vc)) w.heap.size zs 33) := Lib.hid (HB9.out.other _ _ HWG.out)
    have BG : But g w9 (w9.setCell ⟨g, 6, none⟩ (.slice va PL.length vc)) := (But.refl g w9).setCell _ _ (Or.inl rfl)
    have HRF : Hid (RdAt B (w9.setCell ⟨g, 6, none⟩ (.slice va PL.length vc)) k L7 e7) := Lib.hid (HR9.out.keep BG HBG.out HGK.out)
    have BUF : Hid (But k w (w9.setCell ⟨g, 6, none⟩ (.slice va PL.length vc))) := Lib.hid (BU9.out.then (BG.below (Nat.le_of_lt HG.out) BU9.out.size))
    have ROWF := Lib.hid (own_but ROW.out BG HLG.out)
    clear BG HK9 HB9 BU9 ROW HR9
    have HND : Hid ((⟨t, 0, md, ti, sz, [], PL, noughts⟩ : Nd).tree.length = 32) := Lib.hid rfl
    have HCV := Lib.hid (Nd.cells_length (⟨t, 0, md, ti, sz, [], PL, noughts⟩ : Nd) (.slice va PL.length vc) HND.out)
    have HCO := Lib.hid (cells_one (⟨t, 0, md, ti, sz, [], PL, noughts⟩ : Nd) (.slice va PL.length vc) rfl)
    have HIN : Hid ((Try.prog.info? 33).map (·.size) = some (Nd.cells (⟨t, 0, md, ti, sz, [], PL, noughts⟩ : Nd) (.slice va PL.length vc)).length) := Lib.hid (by rw [HCV.out]; exact info_nd)
    have R7 := Lib.hid (nd_all HKF.out)
    obtain ⟨es, hes⟩ : ∃ es, es = Nd.cells (⟨t, 0, md, ti, sz, [], PL, noughts⟩ : Nd) (.slice va PL.length vc) := ⟨_, rfl⟩
    rw [← hes] at R7 HCV HCO HIN
    have HES := Lib.hid hes
    clear hes HKF
    go_wp2_with (first | (refine load_nd (by rfl) _ rfl g 0 rfl es R7.out HCV.out ?_) | (refine wpList_store_block rfl 33 _ _ rfl w.heap.size 0 es rfl rfl zs 33 HBF.out HIN.out (by rw [HCV.out, HZL.out]; omega) HCO.out ?_))
    intro wz k1 k2 k3
    have HB8 := k1.out
    rw [splice_all zs es (by rw [HCV.out, HZL.out])] at HB8
    have R8 := Lib.hid HB8
    have K2 := k2
    clear k1 k2 k3 HB8
    go_wp2_with fail
    refine bodyPost_ret (read_ret _ _ w.heap.size es rfl R8.out HCV.out) rfl ?_
    refine ⟨⟨t, 0, md, ti, sz, [], PL, noughts⟩, .slice va PL.length vc, L7, e7, by rw [HES.out], ?_, rd_file HD.out rfl T5.out T6.out T7.out, Go.Joins.ownsRow_le (own_but ROWF.out K2.out HLW.out) (Nat.le_of_lt HLW.out), HRF.out.keep K2.out HBW.out HWK.out, BUF.out.then (K2.out.below (Nat.le_refl _) BUF.out.size), HL7.out⟩
    refine ⟨rfl, ?_, ?_, ?_, lit_wf BSH.out.1 BSH.out.2 (by omega), by have h9 := BN.out; show t.length ≤ 9223372036854775807; omega, Nat.zero_le _, HP32.out⟩
    · exact lit_wf BKH.out.1 BKH.out.2 (by omega)
    · exact lit_wf BMH.out.1 BMH.out.2 (by omega)
    · exact lit_wf BTH.out.1 BTH.out.2 (by omega)
  · clear BK
    go_upto_region 7 with fail
    refine wp_region_noPanic ?_
    refine wp_region_held_drew (S := fun _ => True) (by kernel_rfl) trivial (fun hH => ?_)
    have HK6 : Hid (blockIs w5.drew g _ 33) := HKC
    have HB6 : Hid (blockIs w5.drew _ _ 33) := HB5
    have HR6 : Hid (RdAt B w5.drew k L4 e4) := Lib.hid (HR5.out.below (below_drewN (Below.refl w5.heap.size w5) 1))
    have BU6 : Hid (But k w w5.drew) := Lib.hid (BU5.out.drewN 1)
    clear HKC HB5 HR5 BU5 c1
    generalize w5.drew = w6 at *
    have PN := rraw_any k L4 e4 32 w6 HR6.out (Nat.le_trans HL4.out HL.out)
    have T5 := Lib.hid (rd_raw L4 e4 32)
    have HL5 := Lib.hid (Nat.le_trans (tLeft_le L4 e4 32) HL4.out)
    unfold RawRead at PN
    generalize tOut L4 e4 32 = TR at *
    generalize tLeft L4 e4 32 = L5 at *
    generalize tErr L4 e4 32 = e5 at *
    refine wpAnyH_take (i := 0) (oi := { dst := some 29, op := Op.fieldAddr 33 (Operand.tmp 3) 7, type := 0, pos := "bytes.go:86", after := #[], guard := none }) (v := .pointer (some ⟨g, 7, none⟩)) rfl (by kernel_rfl) (by kernel_rfl) (by kernel_rfl) (fun _ _ _ h => h) (Or.inl ⟨by rfl, fun wx hS => ?_⟩) hH ?_
    · go_simp
    simp only [Act.put, List.setIfInBounds_toArray, List.set_cons_zero, List.set_cons_succ]
    refine wpAnyH_take (i := 1) (oi := { dst := some 30, op := Op.slice 24 (Operand.tmp 29) none none none, type := 40, pos := "bytes.go:86", after := #[{ on := 0, ground := Ground.data }], guard := none }) (v := .slice (some ⟨g, 7, none⟩) 32 32) rfl (by kernel_rfl) (by kernel_rfl) (by kernel_rfl) (fun _ _ _ h => h) (Or.inl ⟨by rfl, fun wx hS => ?_⟩) hH ?_
    · go_simp
    simp only [Act.put, List.setIfInBounds_toArray, List.set_cons_zero, List.set_cons_succ]
    refine wpAnyH_take (i := 2) (oi := { dst := some 31, op := Op.move (Operand.tmp 0), type := 76, pos := "bytes.go:86", after := #[], guard := none }) (v := .pointer (some ⟨k, 0, none⟩)) rfl (by kernel_rfl) (by kernel_rfl) (by kernel_rfl) (fun _ _ _ h => h) (Or.inl ⟨by rfl, fun wx hS => ?_⟩) hH ?_
    · go_simp
    simp only [Act.put, List.setIfInBounds_toArray, List.set_cons_zero, List.set_cons_succ]
    refine wpAnyH_ready (rs := [3]) (by kernel_rfl) (by simp) ?_
    refine AllReadyH.cons (o := { dst := some 32, op := Op.call { callee := Callee.value (Operand.func 63), args := #[Operand.tmp 31, Operand.const (Value.int IntKind.i64 32)], argTypes := #[76, 3] }, type := 40, pos := "bytes.go:86", after := #[{ on := 2, ground := Ground.data }], guard := none }) rfl (fun KK hKK => ?_) AllReadyH.nil
    go_simp
    refine PN.mono ?_
    rintro r w7 ⟨v, rfl, hrow, hr7, hb⟩
    obtain ⟨va, vc, rfl, hvc, hv9, hin, hvn, hvlt⟩ := hrow.form2
    have HK7 := Lib.hid (HK6.out.but hb HKG.out)
    have HB7 := Lib.hid (HB6.out.but hb HNE.out)
    have BU7 := Lib.hid (BU6.out.trans hb)
    clear hH
    refine hKK.out _ _ trivial (fun hH => ?_)
    clear hKK KK PN
    try simp only [Act.put, List.setIfInBounds_toArray, List.set_cons_zero, List.set_cons_succ]
    have HTL : TR = [] ∨ TR.length = 32 := by
      rcases T5.out with ⟨-, -, h1, -⟩ | ⟨-, h0, -⟩
      · exact .inr (by omega)
      · exact .inl h0
    refine wpAnyH_ready (rs := [4]) (by kernel_rfl) (by simp) ?_
    refine AllReadyH.cons (o := { dst := some 33, op := Op.call { callee := Callee.builtin Builtin.copy, args := #[Operand.tmp 30, Operand.tmp 32], argTypes := #[40, 40] }, type := 3, pos := "bytes.go:86", after := #[{ on := 1, ground := Ground.data }, { on := 3, ground := Ground.data }, { on := 3, ground := Ground.chain }], guard := none }) rfl (fun KK hKK => ?_) AllReadyH.nil
    refine step_copy_tree (by rfl) _ _ rfl g rfl (headNd t 1 md ti) (.slice none 0 0) rfl HK7.out va TR vc rfl hin HTL (fun w8 u k8 b8 => ?_)
    have HKF := Lib.hid k8
    have HBF := Lib.hid (HB7.out.but b8 HWG.out)
    have BUF := Lib.hid (BU7.out.then (b8.below (Nat.le_of_lt HG.out) BU7.out.size))
    have HRF := Lib.hid (hr7.keep b8 HBG.out HGK.out)
    clear k8 b8 hr7 hrow hin hb HK6 HB6 BU6 HK7 HB7 BU7 HR6
    clear hH
    refine hKK.out _ _ trivial (fun hH => ?_)
    clear hKK KK
    try simp only [Act.put, List.setIfInBounds_toArray, List.set_cons_zero, List.set_cons_succ]
    refine wpAnyH_done (by kernel_rfl) ?_ _
    refine NoPanic.normal ?_
    have HTT : Hid ((if TR = [] then noughts else TR).length = 32) := Lib.hid (by split; rfl; exact HTL.resolve_left (by assumption))
    have HTE : Hid (e5 = 0 → (if TR = [] then noughts else TR) = TR) := Lib.hid (fun h => by have h1 := (T5.out.fine h).2.1; rw [if_neg (fun h0 => by rw [h0] at h1; simp at h1)])
    change Hid (blockIs w8 g (Nd.cells (⟨t, 1, md, ti, 0, [], [], if TR = [] then noughts else TR⟩ : Nd) (.slice none 0 0)) 33) at HKF
    clear HTL
    generalize (if TR = [] then noughts else TR) = TQ at *
    have HND : Hid ((⟨t, 1, md, ti, 0, [], [], TQ⟩ : Nd).tree.length = 32) := Lib.hid HTT.out
    have HCV := Lib.hid (Nd.cells_length (⟨t, 1, md, ti, 0, [], [], TQ⟩ : Nd) (.slice none 0 0) HND.out)
    have HCO := Lib.hid (cells_one (⟨t, 1, md, ti, 0, [], [], TQ⟩ : Nd) (.slice none 0 0) rfl)
    have HIN : Hid ((Try.prog.info? 33).map (·.size) = some (Nd.cells (⟨t, 1, md, ti, 0, [], [], TQ⟩ : Nd) (.slice none 0 0)).length) := Lib.hid (by rw [HCV.out]; exact info_nd)
    have R7 := Lib.hid (nd_all HKF.out)
    obtain ⟨es, hes⟩ : ∃ es, es = Nd.cells (⟨t, 1, md, ti, 0, [], [], TQ⟩ : Nd) (.slice none 0 0) := ⟨_, rfl⟩
    rw [← hes] at R7 HCV HCO HIN
    have HES := Lib.hid hes
    clear hes HKF
    go_wp2_with (first | (refine load_nd (by rfl) _ rfl g 0 rfl es R7.out HCV.out ?_) | (refine wpList_store_block rfl 33 _ _ rfl w.heap.size 0 es rfl rfl zs 33 HBF.out HIN.out (by rw [HCV.out, HZL.out]; omega) HCO.out ?_))
    intro wz k1 k2 k3
    have HB8 := k1.out
    rw [splice_all zs es (by rw [HCV.out, HZL.out])] at HB8
    have R8 := Lib.hid HB8
    have K2 := k2
    clear k1 k2 k3 HB8
    go_wp2_with fail
    refine bodyPost_ret (read_ret _ _ w.heap.size es rfl R8.out HCV.out) rfl ?_
    refine ⟨⟨t, 1, md, ti, 0, [], [], TQ⟩, .slice none 0 0, L5, e5, by rw [HES.out], ?_, rd_dir HD.out rfl T5.out TQ HTE.out, World.ownsRow_nil _ _ _ _, HRF.out.keep K2.out HBW.out HWK.out, BUF.out.then (K2.out.below (Nat.le_refl _) BUF.out.size), HL5.out⟩
    refine ⟨HTT.out, ?_, ?_, ?_, rfl, by have h9 := BN.out; show t.length ≤ 9223372036854775807; omega, Nat.zero_le _, (fun p hp => by cases hp)⟩
    · exact lit_wf BKH.out.1 BKH.out.2 (by omega)
    · exact lit_wf BMH.out.1 BMH.out.2 (by omega)
    · exact lit_wf BTH.out.1 BTH.out.2 (by omega)
  · clear BK
    have PN := rtext_to k L4 e4 4095 w5 HR5.out
    go_wp2_with fail
    with_reducible refine PN.mono ?_
    rintro r w6 ⟨n1, K1, d1, hn, rfl, hr6, hb⟩
    have T5 := Lib.hid (rd_text hn.out)
    have HL5 := Lib.hid (Nat.le_trans (Nat.le_trans (tLeft_le K1 d1 n1) hn.out.le) HL4.out)
    generalize tOut K1 d1 n1 = tg at *
    generalize tLeft K1 d1 n1 = L5 at *
    generalize tErr K1 d1 n1 = e5 at *
    have BG5 := Lib.hid T5.out.tbound
    have HK6 := Lib.hid (HKC.out.but hb.out HKG.out)
    have HB6 := Lib.hid (HB5.out.but hb.out HNE.out)
    have BU6 := Lib.hid (BU5.out.trans hb.out)
    clear hn PN hb HKC HB5 BU5 HR5 c1 K1 d1 n1
    have f5 := HK6.out.free 5
    have c5 := (nd_block HK6.out).2.2.2.2.2.1
    have HKF : Hid (blockIs (w6.setCell ⟨g, 5, none⟩ (.string (str tg))) g (Nd.cells (⟨t, 2, md, ti, 0, tg, [], noughts⟩ : Nd) (.slice none 0 0)) 33) := Lib.hid (HK6.out.set 5 _)
    have HBF : Hid (blockIs (w6.setCell ⟨g, 5, none⟩ (.string (str tg))) w.heap.size zs 33) := Lib.hid (HB6.out.other _ _ HWG.out)
    have BG : But g w6 (w6.setCell ⟨g, 5, none⟩ (.string (str tg))) := (But.refl g w6).setCell _ _ (Or.inl rfl)
    have HRF : Hid (RdAt B (w6.setCell ⟨g, 5, none⟩ (.string (str tg))) k L5 e5) := Lib.hid (hr6.out.keep BG HBG.out HGK.out)
    have BUF : Hid (But k w (w6.setCell ⟨g, 5, none⟩ (.string (str tg)))) := Lib.hid (BU6.out.then (BG.below (Nat.le_of_lt HG.out) BU6.out.size))
    clear BG HK6 HB6 BU6 hr6
    have HND : Hid ((⟨t, 2, md, ti, 0, tg, [], noughts⟩ : Nd).tree.length = 32) := Lib.hid rfl
    have HCV := Lib.hid (Nd.cells_length (⟨t, 2, md, ti, 0, tg, [], noughts⟩ : Nd) (.slice none 0 0) HND.out)
    have HCO := Lib.hid (cells_one (⟨t, 2, md, ti, 0, tg, [], noughts⟩ : Nd) (.slice none 0 0) rfl)
    have HIN : Hid ((Try.prog.info? 33).map (·.size) = some (Nd.cells (⟨t, 2, md, ti, 0, tg, [], noughts⟩ : Nd) (.slice none 0 0)).length) := Lib.hid (by rw [HCV.out]; exact info_nd)
    have R7 := Lib.hid (nd_all HKF.out)
    obtain ⟨es, hes⟩ : ∃ es, es = Nd.cells (⟨t, 2, md, ti, 0, tg, [], noughts⟩ : Nd) (.slice none 0 0) := ⟨_, rfl⟩
    rw [← hes] at R7 HCV HCO HIN
    have HES := Lib.hid hes
    clear hes HKF
    go_wp2_with (first | (refine load_nd (by rfl) _ rfl g 0 rfl es R7.out HCV.out ?_) | (refine wpList_store_block rfl 33 _ _ rfl w.heap.size 0 es rfl rfl zs 33 HBF.out HIN.out (by rw [HCV.out, HZL.out]; omega) HCO.out ?_))
    intro wz k1 k2 k3
    have HB8 := k1.out
    rw [splice_all zs es (by rw [HCV.out, HZL.out])] at HB8
    have R8 := Lib.hid HB8
    have K2 := k2
    clear k1 k2 k3 HB8
    go_wp2_with fail
    refine bodyPost_ret (read_ret _ _ w.heap.size es rfl R8.out HCV.out) rfl ?_
    refine ⟨⟨t, 2, md, ti, 0, tg, [], noughts⟩, .slice none 0 0, L5, e5, by rw [HES.out], ?_, rd_link HD.out rfl T5.out, World.ownsRow_nil _ _ _ _, HRF.out.keep K2.out HBW.out HWK.out, BUF.out.then (K2.out.below (Nat.le_refl _) BUF.out.size), HL5.out⟩
    refine ⟨rfl, ?_, ?_, ?_, rfl, by have h9 := BN.out; show t.length ≤ 9223372036854775807; omega, by have h9 := BG5.out; show tg.length ≤ 9223372036854775807; omega, (fun p hp => by cases hp)⟩
    · exact lit_wf BKH.out.1 BKH.out.2 (by omega)
    · exact lit_wf BMH.out.1 BMH.out.2 (by omega)
    · exact lit_wf BTH.out.1 BTH.out.2 (by omega)
end Go.Proofs.Ytjgmhaajcglpmaa
