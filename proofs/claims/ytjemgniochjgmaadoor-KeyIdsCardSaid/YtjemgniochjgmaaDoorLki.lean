/- The law KeyIds: its walk. -/
import Derived.Test.YtjemgniochjgmaaDoorDid
import Derived.Test.YtjemgniochjgmaaDoorRgs
namespace Go.Proofs.YtjemgniochjgmaaDoor
open Go.RowKit Sha

theorem slice_len' {a : Option Addr} {n m c : Nat} (h : n = m) : Value.slice a n c = .slice a m c := by rw [h]
theorem cut_num (z : Int) (n : Nat) (hn : n ≤ 1000000) : ∃ i : Nat, i ≤ n ∧ wrap64 ((IntKind.u64.wrap z).tmod ((n : Int) + 1)) = (i : Int) := by
  have hw := wrap_u64_nonneg z
  have h1 := Int.emod_lt_of_pos (IntKind.u64.wrap z) (show (0 : Int) < (n : Int) + 1 by omega)
  have h0 := Int.emod_nonneg (IntKind.u64.wrap z) (show ((n : Int) + 1) ≠ 0 by omega)
  rw [Int.tmod_eq_emod_of_nonneg hw]
  refine ⟨(IntKind.u64.wrap z % ((n : Int) + 1)).toNat, by omega, ?_⟩
  unfold wrap64
  omega
theorem parts2 (l : List UInt8) (i : Nat) : [(l.take i).drop 0, (l.take l.length).drop i].flatten = l := by
  rw [List.take_length]
  simp
/-- The three rings' keys that hide and mark. -/
def noKeys : List UInt8 := List.replicate 64 0
def otherKeys : List UInt8 := (9 :: List.replicate 31 0) ++ (8 :: List.replicate 31 0)
theorem build_ring_name (N : List UInt8) (hN : N.length = 32) (w : World) : (Instr.build 27 #[(1, .agg (byteCells N).toArray)]).run Tryd.prog w = .ok (.agg (byteCells (noKeys ++ N)).toArray) w := by
  refine run_build_struct w _ (Tryd.prog.fieldsOf 27) #[(0, 64), (64, 32)] (.agg (zeros 96).toArray) _ _ (by kernel_rfl) (by kernel_rfl) (by kernel_rfl) ?_
  show Instr.fill _ (zeros 96).toArray [(1, .agg (byteCells N).toArray)] = _
  rw [fill_splice _ _ 1 (byteCells N) _ 64 (by rw [byteCells_length, hN]; rfl) (by rw [byteCells_length, hN]; decide)]
  have e : zeros 96 = splice (zeros 96) 0 (byteCells noKeys) := by rw [show zeros 96 = byteCells noKeys ++ zeros 32 by rw [show byteCells noKeys = zeros 64 from (zeros_bytes 64).symm]; rfl]; simp [splice]
  rw [e, splice_two (byteCells noKeys) (byteCells N) 64 32 (by decide) (by rw [byteCells_length, hN]) _ (by decide), show byteCells (noKeys ++ N) = byteCells noKeys ++ byteCells N by simp [byteCells]]
  rfl
theorem build_ring2_name (N : List UInt8) (hN : N.length = 32) (w : World) : (Instr.build 33 #[(1, .agg (byteCells N).toArray)]).run Tryd.prog w = .ok (.agg (byteCells (noKeys ++ N)).toArray) w := by
  refine run_build_struct w _ (Tryd.prog.fieldsOf 33) #[(0, 64), (64, 32)] (.agg (zeros 96).toArray) _ _ (by kernel_rfl) (by kernel_rfl) (by kernel_rfl) ?_
  show Instr.fill _ (zeros 96).toArray [(1, .agg (byteCells N).toArray)] = _
  rw [fill_splice _ _ 1 (byteCells N) _ 64 (by rw [byteCells_length, hN]; rfl) (by rw [byteCells_length, hN]; decide)]
  have e : zeros 96 = splice (zeros 96) 0 (byteCells noKeys) := by rw [show zeros 96 = byteCells noKeys ++ zeros 32 by rw [show byteCells noKeys = zeros 64 from (zeros_bytes 64).symm]; rfl]; simp [splice]
  rw [e, splice_two (byteCells noKeys) (byteCells N) 64 32 (by decide) (by rw [byteCells_length, hN]) _ (by decide), show byteCells (noKeys ++ N) = byteCells noKeys ++ byteCells N by simp [byteCells]]
  rfl
theorem build_other (w : World) : (Instr.build 25 #[(0, .agg (byteCells (9 :: List.replicate 31 0)).toArray), (1, .agg (byteCells (8 :: List.replicate 31 0)).toArray)]).run Tryd.prog w = .ok (.agg (byteCells otherKeys).toArray) w := by kernel_rfl
theorem build_nine (w : World) : (Instr.build 23 #[(0, .int .u8 9)]).run Tryd.prog w = .ok (.agg (byteCells (9 :: List.replicate 31 0)).toArray) w := by kernel_rfl
theorem build_eight (w : World) : (Instr.build 23 #[(0, .int .u8 8)]).run Tryd.prog w = .ok (.agg (byteCells (8 :: List.replicate 31 0)).toArray) w := by kernel_rfl
theorem splice_swap (A B z : List Value) (a b : Nat) (hA : A.length = a) (hB : B.length = b) (hz : z.length = a + b) : splice (splice z a B) 0 A = A ++ B := by
  have h1 : (splice z a B).length = a + b := by rw [splice_keep (by omega)]; exact hz
  apply List.ext_getElem?
  intro k
  rw [splice_get _ _ _ _ (by omega), splice_get _ _ _ _ (by omega)]
  by_cases c : k < a
  · rw [if_pos (by omega), List.getElem?_append_left (by omega), Nat.sub_zero]
  · rw [if_neg (by omega), List.getElem?_append_right (by omega), hA]
    by_cases d : k < a + b
    · rw [if_pos (by omega)]
    · rw [if_neg (by omega), List.getElem?_eq_none (by omega), List.getElem?_eq_none (by omega)]
theorem build_ring_other (N : List UInt8) (hN : N.length = 32) (w : World) : (Instr.build 27 #[(1, .agg (byteCells N).toArray), (0, .agg (byteCells otherKeys).toArray)]).run Tryd.prog w = .ok (.agg (byteCells (otherKeys ++ N)).toArray) w := by
  refine run_build_struct w _ (Tryd.prog.fieldsOf 27) #[(0, 64), (64, 32)] (.agg (zeros 96).toArray) _ _ (by kernel_rfl) (by kernel_rfl) (by kernel_rfl) ?_
  show Instr.fill _ (zeros 96).toArray [(1, .agg (byteCells N).toArray), (0, .agg (byteCells otherKeys).toArray)] = _
  rw [fill_splice _ _ 1 (byteCells N) _ 64 (by rw [byteCells_length, hN]; rfl) (by rw [byteCells_length, hN]; decide), fill_splice _ _ 0 (byteCells otherKeys) _ 0 (by rw [byteCells_length]; rfl) (by rw [splice_keep (by rw [byteCells_length, hN]; decide)]; decide),
    splice_swap (byteCells otherKeys) (byteCells N) _ 64 32 (by decide) (by rw [byteCells_length, hN]) (by decide), show byteCells (otherKeys ++ N) = byteCells otherKeys ++ byteCells N by simp [byteCells]]
  rfl
theorem egtId : Tryd.prog.eqGuardType Tryd.prog.depth 42 = false := by kernel_rfl
theorem eql_op_id (l : List UInt8) (hl : l.length = 32) (a : Act) (o : Oper) (x y : Operand) (ho : o.op = .binOp .eql 42 x y 42) (hx : a.eval x = .agg (byteCells l).toArray) (hy : a.eval y = .agg (byteCells l).toArray) (w : World) :
    (execOp a.eval o).run Tryd.prog w = .ok (.value (.bool true)) w := by
  have hq : (binOp .eql 42 (.agg (byteCells l).toArray) (.agg (byteCells l).toArray)).run Tryd.prog w = .ok (.bool true) w := by
    have h : (Op.equalIn 10000 42 (.agg (byteCells l).toArray) (.agg (byteCells l).toArray)).run Tryd.prog w = .ok true w := by
      obtain ⟨i0, hi, hz0, hz1, hz2⟩ := info_parts info_u8
      rw [show (10000 : Nat) = 9998 + 1 + 1 from rfl, run_equalIn_array w (9998 + 1) _ _ Tryd.underlying42 hi, run_eqItems_at 9998 l l w _ (fun i hi => by have := List.mem_range.1 hi; omega)]
      simp
    rw [run_eql_struct, h]
    rfl
  unfold execOp
  simp only [ho, hx, hy, Sem.run_bind, hq, run_eqGuard_agg _ _ _ _ _ _ _ egtId, Result.andThen_ok, Sem.run_pure]
/-- Id, called with a literal of parts. -/
theorem id_lit (W : World) (A N : List UInt8) (k : UInt8) (hA : A.length = 64) (hN : N.length = 32) (ps : List Pt) (hW : tables W) (h : ∀ p ∈ ps, p.ok W) (hm : (ps.map Pt.l).flatten.length ≤ 800000) (hn : ps.length ≤ 100000) (n : Nat) (hnn : n = ps.length) (cs : Array Value) (hcs : cs = (ps.map Pt.val).toArray) (X : World) (hX : Below W.heap.size W X) :
    Calls Tryd.prog 10 #[.agg (byteCells (A ++ N)).toArray, .int .u8 (V k), .slice (some ⟨X.heap.size, 0, none⟩) n n] (X.alloc (.cells cs 22 (0, 0))) fun e w' => e = .returned (.agg (byteCells (hmac N (k :: (ps.map Pt.l).flatten))).toArray) ∧ Below W.heap.size W w' := by
  subst hnn
  have hp := parts_lit X ps (fun p hp => ⟨(h p hp).1, (h p hp).2.1, (h p hp).2.2.below hX⟩) cs hcs
  have hb : Below W.heap.size W (X.alloc (.cells cs 22 (0, 0))) := hX.alloc hX.size _
  have := id_any A N k (some ⟨X.heap.size, 0, none⟩) ps.length (ps.map Pt.l) (X.alloc (.cells cs 22 (0, 0))) hA hN (by simpa using hn) (by simp) (fun e => by cases e) hm hp (hW.below hb hW.2.2.1 hW.2.2.2)
  rw [List.length_map] at this
  exact this.mono fun e w' ⟨h1, h2⟩ => ⟨h1, hb.trans (h2.mono hb.size)⟩

/-- What a Tag's cells are. -/
def tagCells (N : List UInt8) (kd : UInt8) (v : Value) (z : Int) : List Value := byteCells N ++ [.int .u8 (V kd), v, .int .i64 z]

set_option maxRecDepth 100000 in
set_option maxHeartbeats 2000000 in
theorem law_keyIds (N : List UInt8) (kd : UInt8) (a : Option Addr) (c : Nat) (F0 : List UInt8) (z : Int) (w : World) (hN : N.length = 32) (hF : F0.length ≤ c) (hc : c ≤ 9223372036854775807) (hin : bytesIn w a F0) (ht : tables w) :
    Calls Tryd.prog 4 #[.agg (tagCells N kd (.slice a F0.length c) z).toArray] w fun e w' => e = .returned (.bool true) ∧ Below w.heap.size w w' := by
  have HN := Lib.hid hN
  have G1 := Lib.hid (blockIs.new w (tagCells N kd (.slice a F0.length c) z) 40)
  have B1 := Lib.hid (alloc_below w (.cells (tagCells N kd (.slice a F0.length c) z).toArray 40 (0, 0)))
  have C32 : Hid ((tagCells N kd (.slice a F0.length c) z)[32]? = some (.int .u8 (V kd))) := Lib.hid (by unfold tagCells; rw [List.getElem?_append_right (by rw [byteCells_length]; omega), byteCells_length, hN]; rfl)
  have C33 : Hid ((tagCells N kd (.slice a F0.length c) z)[33]? = some (.slice a F0.length c)) := Lib.hid (by unfold tagCells; rw [List.getElem?_append_right (by rw [byteCells_length]; omega), byteCells_length, hN]; rfl)
  have C34 : Hid ((tagCells N kd (.slice a F0.length c) z)[34]? = some (.int .i64 z)) := Lib.hid (by unfold tagCells; rw [List.getElem?_append_right (by rw [byteCells_length]; omega), byteCells_length, hN]; rfl)
  have CN : Hid (tagCells N kd (.slice a F0.length c) z = [] ++ (byteCells N ++ [.int .u8 (V kd), .slice a F0.length c, .int .i64 z])) := Lib.hid rfl
  have Q1 := Lib.hid ((hin.take 1000).below B1.out)
  have T1 := Lib.hid (ht.below B1.out ht.2.2.1 ht.2.2.2)
  have Z1 : Hid (w.heap.size < (w.alloc (.cells (tagCells N kd (.slice a F0.length c) z).toArray 40 (0, 0))).heap.size) := Lib.hid G1.out.lt
  clear hN hin ht
  generalize tagCells N kd (.slice a F0.length c) z = C at *
  have e3 : (F0.take 1000).length ≤ c := by rw [List.length_take]; omega
  have e4 : (F0.take 1000).length ≤ 1000 := by rw [List.length_take]; omega
  go_enter Tryd.func4, Tryd.ntmps4
  go_upto_region 1 with fail
  generalize w.alloc (.cells C.toArray 40 (0, 0)) = w1 at *
  have c33 : w1.cell? ⟨w.heap.size, 33, none⟩ = some (.slice a F0.length c) := by rw [G1.out.cell]; exact C33.out
  have c34 : w1.cell? ⟨w.heap.size, 34, none⟩ = some (.int .i64 z) := by rw [G1.out.cell]; exact C34.out
  have c32 : w1.cell? ⟨w.heap.size, 32, none⟩ = some (.int .u8 (V kd)) := by rw [G1.out.cell]; exact C32.out
  go_cut [3] (fun v wx => v = .slice a (F0.take 1000).length c ∧ w1 = wx)
  case first =>
    go_wp2_with fail
    all_goals
      go_meet
      case rel => exact ⟨slice_len' (by rw [List.length_take]; omega), rfl⟩
  obtain ⟨rfl, rfl⟩ := hcut
  clear hF c33
  generalize F0.take 1000 = f at *
  obtain ⟨i, hi, r0⟩ := cut_num z f.length (by omega)
  have R0 := Lib.hid r0
  clear r0
  have s1 : IntKind.i64.wrap ((f.length : Int) + 1) = (f.length : Int) + 1 := IntWalk.i64_in _ (by omega)
  have s2 : IntKind.u64.wrap ((f.length : Int) + 1) = (f.length : Int) + 1 := IntWalk.u64_in _ (by omega)
  have s5 : ¬ (f.length : Int) + 1 = 0 := by omega
  have s6 : (0 : Int) ≤ (f.length : Int) + 1 := by omega
  go_upto_region 3 with fail
  rw [R0.out]
  clear R0 s1 s2 s5 s6 c34
  have RN : Hid (∀ X : World, Below w1.heap.size w1 X → X.rangeAt w.heap.size 0 (byteCells N)) := Lib.hid (fun X hX => by
    have h := G1.out.below hX G1.out.lt
    rw [CN.out] at h
    exact rangeAt_block (p := []) h)
  have RK : Hid (∀ X : World, Below w1.heap.size w1 X → X.cell? ⟨w.heap.size, 32, none⟩ = some (.int .u8 (V kd))) := Lib.hid (fun X hX => (hX.cell (p := ⟨w.heap.size, 32, none⟩) (block_lt_of_cell c32)).trans c32)
  clear C32 C33 C34 CN c32 G1
  have HB1 := Lib.hid (fun X => build_ring_name N HN.out X)
  have HB2 := Lib.hid (fun X => build_ring_other N HN.out X)
  have HB3 := Lib.hid (fun X => build_ring2_name N HN.out X)
  have HL1 : Hid ((byteCells (noKeys ++ N)).length = 96) := Lib.hid (by rw [byteCells_length, List.length_append, HN.out]; rfl)
  have HL2 : Hid ((byteCells (otherKeys ++ N)).length = 96) := Lib.hid (by rw [byteCells_length, List.length_append, HN.out]; rfl)
  have HO1 := Lib.hid (byteCells_one (noKeys ++ N))
  have HO2 := Lib.hid (byteCells_one (otherKeys ++ N))
  have HM : Hid ((hmac N (kd :: f)).length = 32) := Lib.hid (hmac_length _ _)
  have HEQ := Lib.hid (eql_op_id (hmac N (kd :: f)) HM.out)
  have hkk : Hid (∀ X : World, Below w1.heap.size w1 X → (⟨a, c, f⟩ : Pt).ok X) := Lib.hid (fun X hX => ⟨e3, hc, Q1.out.below hX⟩)
  have PD := Lib.hid (fun X => docId_any noKeys N f kd X rfl HN.out (by omega))
  have PI1 := Lib.hid (fun (W : World) (hW : Below w1.heap.size w1 W) => id_lit W noKeys N kd rfl HN.out [⟨a, c, f⟩] (T1.out.below hW T1.out.2.2.1 T1.out.2.2.2) (by simp only [List.mem_singleton]; rintro p rfl; exact hkk.out W hW) (by simp; omega) (by simp) 1 rfl #[.slice a f.length c] rfl)
  have PI2 := Lib.hid (fun (W : World) (hW : Below w1.heap.size w1 W) => id_lit W noKeys N kd rfl HN.out [(⟨a, c, f⟩ : Pt).sub 0 i, (⟨a, c, f⟩ : Pt).sub i f.length] (T1.out.below hW T1.out.2.2.1 T1.out.2.2.2) (by
    simp only [List.mem_cons, List.not_mem_nil, or_false]
    rintro p (rfl | rfl)
    · exact Pt.sub_ok (hkk.out W hW) 0 i (Nat.zero_le _) hi
    · exact Pt.sub_ok (hkk.out W hW) i f.length hi (Nat.le_refl _)) (by
    show ([(f.take i).drop 0, (f.take f.length).drop i].flatten).length ≤ 800000
    rw [parts2]; omega) (by simp) 2 rfl _ rfl)
  have PI3 := Lib.hid (fun (W : World) (hW : Below w1.heap.size w1 W) => id_lit W otherKeys N kd rfl HN.out [⟨none, 0, []⟩, ⟨a, c, f⟩] (T1.out.below hW T1.out.2.2.1 T1.out.2.2.2) (by
    simp only [List.mem_cons, List.not_mem_nil, or_false]
    rintro p (rfl | rfl)
    · exact ⟨Nat.le_refl _, by decide, Or.inl rfl⟩
    · exact hkk.out W hW) (by simp; omega) (by simp) 2 rfl #[.slice none 0 0, .slice a f.length c] rfl)
  rw [show ([⟨a, c, f⟩] : List Pt).map Pt.l = [f] from rfl, show [f].flatten = f by simp] at PI1
  rw [show [(⟨a, c, f⟩ : Pt).sub 0 i, (⟨a, c, f⟩ : Pt).sub i f.length].map Pt.l = [(f.take i).drop 0, (f.take f.length).drop i] from rfl, parts2] at PI2
  rw [show ([⟨none, 0, []⟩, ⟨a, c, f⟩] : List Pt).map Pt.l = [[], f] from rfl, show [[], f].flatten = f by simp] at PI3
  have PI2 : Hid (∀ (W : World) (hW : Below w1.heap.size w1 W) (X : World), Below W.heap.size W X → Calls Tryd.prog 10 #[.agg (byteCells (noKeys ++ N)).toArray, .int .u8 (V kd), .slice (some ⟨X.heap.size, 0, none⟩) 2 2] (X.alloc (.cells #[.slice ((⟨a, c, f⟩ : Pt).sub 0 i).a ((⟨a, c, f⟩ : Pt).sub 0 i).l.length ((⟨a, c, f⟩ : Pt).sub 0 i).c, .slice ((⟨a, c, f⟩ : Pt).sub i f.length).a ((⟨a, c, f⟩ : Pt).sub i f.length).l.length ((⟨a, c, f⟩ : Pt).sub i f.length).c] 22 (0, 0))) fun e w' => e = .returned (.agg (byteCells (hmac N (kd :: f))).toArray) ∧ Below W.heap.size W w') := PI2
  have g1 := fun wx => (⟨a, c, f⟩ : Pt).run_h i hi e3 wx
  have g3 := fun wx => (⟨a, c, f⟩ : Pt).run_l i hi e3 wx
  dsimp only at g1 g3
  have CV : Hid (∀ X : World, Below w1.heap.size w1 X → (convert 22 9 (.slice a f.length c)).run Tryd.prog X = .ok (.string (str f)) X) := Lib.hid (fun X hX => conv_string X a f c (Q1.out.below hX))
  generalize (⟨a, c, f⟩ : Pt).sub 0 i = q1 at *
  generalize (⟨a, c, f⟩ : Pt).sub i f.length = q3 at *
  generalize byteCells (noKeys ++ N) = L1 at *
  generalize byteCells (otherKeys ++ N) = L2 at *
  generalize hmac N (kd :: f) = M at *
  have G1 := Lib.hid g1
  have G3 := Lib.hid g3
  clear g1 g3 hkk Q1 e3 e4 hc hi
  have HNL : Hid ((byteCells N).length = 32) := Lib.hid (by rw [byteCells_length]; exact HN.out)
  generalize byteCells N = LN at *
  have hzr := zeroRing
  have R1 := Lib.hid (RN.out w1 (Below.refl _ _))
  have N1 := Lib.hid (blockIs.new w1 (zeros 96) 27)
  have A1 := Lib.hid (alloc_below w1 (.cells (zeros 96).toArray 27 (0, 0)))
  go_wp2_with (first
    | (refine wpList_load_mid rfl 23 _ rfl w.heap.size 0 rfl LN _ R1.out Tryd.underlying23 rfl (by rw [info28, HNL.out]) ?_)
    | (refine wpList_build rfl 27 _ rfl _ _ (HB1.out _) rfl ?_)
    | (refine wpList_store_block rfl 27 _ _ rfl w1.heap.size 0 L1 rfl rfl (zeros 96) 27 N1.out (by rw [infoRing, HL1.out]) (by simp [zeros, HL1.out]) HO1.out ?_))
  intro w2 h1 h2 h3
  have h1 := h1.out
  rw [splice_all _ _ (by simp [zeros, HL1.out])] at h1
  have E2 := Lib.hid h1
  have D2 := Lib.hid (A1.out.trans (h2.out.below (Nat.le_refl _) A1.out.size))
  clear h1 h2 h3 N1 A1 R1 HB1
  have Zr1 : Hid (w1.heap.size < w2.heap.size) := Lib.hid E2.out.lt
  generalize hr1 : w1.heap.size = r1 at E2 Zr1 ⊢
  have Hr1 := Lib.hid hr1
  clear hr1
  have R2 := Lib.hid (RN.out w2 D2.out)
  have N2 := Lib.hid (blockIs.new w2 (zeros 96) 27)
  have A2 := Lib.hid (alloc_below w2 (.cells (zeros 96).toArray 27 (0, 0)))
  have hb9 := build_nine
  have hb8 := build_eight
  have hbo := build_other
  go_wp2_with (first
    | (refine wpList_load_mid rfl 23 _ rfl w.heap.size 0 rfl LN _ R2.out Tryd.underlying23 rfl (by rw [info28, HNL.out]) ?_)
    | (refine wpList_build rfl 23 _ rfl _ _ (hb9 _) rfl ?_)
    | (refine wpList_build rfl 23 _ rfl _ _ (hb8 _) rfl ?_)
    | (refine wpList_build rfl 25 _ rfl _ _ (hbo _) rfl ?_)
    | (refine wpList_build rfl 27 _ rfl _ _ (HB2.out _) rfl ?_)
    | (refine wpList_store_block rfl 27 _ _ rfl w2.heap.size 0 L2 rfl rfl (zeros 96) 27 N2.out (by rw [infoRing, HL2.out]) (by simp [zeros, HL2.out]) HO2.out ?_))
  intro w3 h1 h2 h3
  have h1 := h1.out
  rw [splice_all _ _ (by simp [zeros, HL2.out])] at h1
  have E3b := Lib.hid h1
  have k3 := A2.out.trans (h2.out.below (Nat.le_refl _) A2.out.size)
  have E3 := Lib.hid (E2.out.below k3 Zr1.out)
  have D3 := Lib.hid (D2.out.trans (k3.mono D2.out.size))
  clear h1 h2 h3 N2 A2 R2 HB2 hb9 hb8 hbo k3 E2 D2 Zr1
  generalize w2.heap.size = r2 at *
  have R3 := Lib.hid (RN.out w3 D3.out)
  have c3 := RK.out w3 D3.out
  have cv3 := CV.out w3 D3.out
  go_wp2_with (first
    | (refine wpList_load_mid rfl 23 _ rfl w.heap.size 0 rfl LN _ R3.out Tryd.underlying23 rfl (by rw [info28, HNL.out]) ?_)
    | (refine wpList_build rfl 33 _ rfl _ _ (HB3.out _) rfl ?_))
  with_reducible refine (PD.out w3).mono ?_
  rintro e w4 ⟨rfl, k4⟩
  have E4 := Lib.hid (E3.out.below k4 E3.out.lt)
  have E4b := Lib.hid (E3b.out.below k4 E3b.out.lt)
  have D4 := Lib.hid (D3.out.trans (k4.mono D3.out.size))
  clear E3 E3b D3 k4 R3 c3 cv3 HB3 PD
  have hzi := zeroId
  have N4 := Lib.hid (blockIs.new w4 (zeros 32) 42)
  have A4 := Lib.hid (alloc_below w4 (.cells (zeros 32).toArray 42 (0, 0)))
  go_wp2_with (refine wpList_store_block rfl 42 _ _ rfl w4.heap.size 0 (byteCells M) rfl rfl (zeros 32) 42 N4.out (by rw [infoId, byteCells_length, HM.out]) (by simp [zeros, byteCells_length, HM.out]) (byteCells_one _) ?_)
  intro w6 h1 h2 h3
  have h1 := h1.out
  rw [splice_all _ _ (by simp [zeros, byteCells_length, HM.out])] at h1
  have G6c := Lib.hid h1
  have k6 := A4.out.trans (h2.out.below (Nat.le_refl _) A4.out.size)
  have G6a := Lib.hid (E4.out.below k6 E4.out.lt)
  have G6b := Lib.hid (E4b.out.below k6 E4b.out.lt)
  have D6 := Lib.hid (D4.out.trans (k6.mono D4.out.size))
  clear h1 h2 h3 N4 A4 k6 E4 E4b D4
  generalize w4.heap.size = r3 at *
  have PI1 := Lib.hid (PI1.out w6 D6.out)
  have PI2 := Lib.hid (PI2.out w6 D6.out)
  have PI3 := Lib.hid (PI3.out w6 D6.out)
  have RG1 : Hid (∀ X : World, Below w6.heap.size w6 X → X.rangeAt r1 0 L1) := Lib.hid (fun X hX => range_of (G6a.out.below hX G6a.out.lt))
  have RG2 : Hid (∀ X : World, Below w6.heap.size w6 X → X.rangeAt r2 0 L2) := Lib.hid (fun X hX => range_of (G6b.out.below hX G6b.out.lt))
  have RG3 : Hid (∀ X : World, Below w6.heap.size w6 X → X.rangeAt r3 0 (byteCells M)) := Lib.hid (fun X hX => range_of (G6c.out.below hX G6c.out.lt))
  have CK : Hid (∀ X : World, Below w6.heap.size w6 X → X.cell? ⟨w.heap.size, 32, none⟩ = some (.int .u8 (V kd))) := Lib.hid (fun X hX => RK.out X (D6.out.trans (hX.mono D6.out.size)))
  have T6 := Lib.hid (T1.out.below D6.out T1.out.2.2.1 T1.out.2.2.2)
  have PR : Hid (∀ X : World, Below w6.heap.size w6 X → Calls Tryd.prog 7 #[] X fun e w' => e = .returned (.bool true) ∧ Below w6.heap.size w6 w') := Lib.hid (fun X hX => (rings_any X (T6.out.below hX T6.out.2.2.1 T6.out.2.2.2)).mono fun e w' ⟨q1, q2⟩ => ⟨q1, hX.trans (q2.mono hX.size)⟩)
  have BE := Lib.hid (B1.out.trans (D6.out.mono B1.out.size))
  clear G6a G6b G6c RN RK CV D6 T6 T1 B1 Z1 Hr1
  have BB := Below.refl w6.heap.size w6
  have g1 := G1.out
  have g3 := G3.out
  clear G1 G3
  go_wp2_with fail
  refine wp_region_noPanic ?_
  refine wp_region_held_drew (S := fun w' => Below w6.heap.size w6 w') (by kernel_rfl) (below_drew' BB) (fun hH => ?_)
  refine wpAnyH_ready (rs := [0]) (by kernel_rfl) (by simp) ?_
  refine AllReadyH.cons (o := { dst := some 41, op := Op.call { callee := Callee.value (Operand.func 7), args := #[], argTypes := #[] }, type := 4, pos := "law.go:55", after := #[], guard := none }) rfl (fun KK hKK => ?_) AllReadyH.nil
  go_simp
  refine (PR.out _ hH).mono ?_
  rintro e x0 ⟨rfl, kk⟩
  clear hH
  refine hKK.out _ _ kk (fun hH => ?_)
  clear hKK KK kk
  try simp only [Act.put, List.setIfInBounds_toArray, List.set_cons_zero, List.set_cons_succ]
  refine wpAnyH_take (i := 1) (oi := { dst := some 42, op := Op.move (Operand.tmp 41), type := 4, pos := "law.go:55", after := #[{ on := 0, ground := Ground.data }, { on := 0, ground := Ground.chain }], guard := none }) (v := .bool true) rfl (by kernel_rfl) (by kernel_rfl) (by kernel_rfl) (fun _ _ _ h => h) (Or.inl ⟨by rfl, fun wx hS => ?_⟩) hH ?_
  · go_simp
  simp only [Act.put, List.setIfInBounds_toArray, List.set_cons_zero, List.set_cons_succ]
  refine wpAnyH_take (i := 2) (oi := { dst := some 43, op := Op.load 27 (Operand.tmp 5), type := 27, pos := "law.go:55", after := #[{ on := 1, ground := Ground.guard }], guard := some (1, true) }) (v := .agg L1.toArray) rfl (by kernel_rfl) (by kernel_rfl) (by kernel_rfl) (fun _ _ _ h => h) (yieldsIf_load_mid (by rfl) 27 _ rfl r1 0 rfl L1 _ (fun wx hS => RG1.out wx hS) Tryd.underlying27 rfl (by rw [infoRing, HL1.out])) hH ?_
  simp only [Act.put, List.setIfInBounds_toArray, List.set_cons_zero, List.set_cons_succ]
  refine wpAnyH_take (i := 3) (oi := { dst := some 44, op := Op.fieldAddr 40 (Operand.tmp 1) 1, type := 0, pos := "law.go:55", after := #[{ on := 1, ground := Ground.guard }], guard := some (1, true) }) (v := .pointer (some ⟨w.heap.size, 32, none⟩)) rfl (by kernel_rfl) (by kernel_rfl) (by kernel_rfl) (fun _ _ _ h => h) (Or.inl ⟨by rfl, fun wx hS => ?_⟩) hH ?_
  · go_simp
  simp only [Act.put, List.setIfInBounds_toArray, List.set_cons_zero, List.set_cons_succ]
  refine wpAnyH_take (i := 4) (oi := { dst := some 45, op := Op.load 5 (Operand.tmp 44), type := 5, pos := "law.go:55", after := #[{ on := 3, ground := Ground.data }, { on := 1, ground := Ground.guard }], guard := some (1, true) }) (v := .int .u8 (V kd)) rfl (by kernel_rfl) (by kernel_rfl) (by kernel_rfl) (fun _ _ _ h => h) (Or.inl ⟨by rfl, fun wx hS => ?_⟩) hH ?_
  · have hk := CK.out wx hS; go_simp
  simp only [Act.put, List.setIfInBounds_toArray, List.set_cons_zero, List.set_cons_succ]
  refine wpAnyH_take (i := 5) (oi := { dst := some 46, op := Op.move (Operand.tmp 3), type := 22, pos := "law.go:55", after := #[{ on := 1, ground := Ground.guard }], guard := some (1, true) }) (v := .slice a f.length c) rfl (by kernel_rfl) (by kernel_rfl) (by kernel_rfl) (fun _ _ _ h => h) (Or.inl ⟨by rfl, fun wx hS => ?_⟩) hH ?_
  · go_simp
  simp only [Act.put, List.setIfInBounds_toArray, List.set_cons_zero, List.set_cons_succ]
  refine wpAnyH_take (i := 8) (oi := { dst := some 49, op := Op.load 42 (Operand.tmp 7), type := 42, pos := "law.go:55", after := #[{ on := 1, ground := Ground.guard }], guard := some (1, true) }) (v := .agg (byteCells M).toArray) rfl (by kernel_rfl) (by kernel_rfl) (by kernel_rfl) (fun _ _ _ h => h) (yieldsIf_load_mid (by rfl) 42 _ rfl r3 0 rfl (byteCells M) _ (fun wx hS => RG3.out wx hS) Tryd.underlying42 rfl (by rw [infoId, byteCells_length, HM.out])) hH ?_
  simp only [Act.put, List.setIfInBounds_toArray, List.set_cons_zero, List.set_cons_succ]
  refine wpAnyH_ready (rs := [6]) (by kernel_rfl) (by simp) ?_
  refine AllReadyH.cons (o := { dst := some 47, op := Op.buildSlice 52 1 #[(0, Operand.tmp 46)], type := 52, pos := "law.go:55", after := #[{ on := 5, ground := Ground.data }, { on := 1, ground := Ground.guard }], guard := some (1, true) }) rfl (fun KK hKK => ?_) AllReadyH.nil
  go_simp
  refine hKK.out _ _ (below_alloc' hH (.cells #[.slice a f.length c] 22 (0, 0))) (fun hH' => ?_)
  clear hKK KK hH'
  try simp only [Act.put, List.setIfInBounds_toArray, List.set_cons_zero, List.set_cons_succ]
  refine wpAnyH_ready (rs := [7]) (by kernel_rfl) (by simp) ?_
  refine AllReadyH.cons (o := { dst := some 48, op := Op.call { callee := Callee.value (Operand.func 10), args := #[Operand.tmp 43, Operand.tmp 45, Operand.tmp 47], argTypes := #[27, 5, 52] }, type := 42, pos := "law.go:55", after := #[{ on := 2, ground := Ground.data }, { on := 4, ground := Ground.data }, { on := 6, ground := Ground.data }, { on := 1, ground := Ground.chain }, { on := 1, ground := Ground.guard }], guard := some (1, true) }) rfl (fun KK hKK => ?_) AllReadyH.nil
  go_simp
  refine (PI1.out _ hH).mono ?_
  rintro e x1 ⟨rfl, kk⟩
  clear hH
  refine hKK.out _ _ kk (fun hH => ?_)
  clear hKK KK kk
  try simp only [Act.put, List.setIfInBounds_toArray, List.set_cons_zero, List.set_cons_succ]
  refine wpAnyH_take (i := 9) (oi := { dst := some 50, op := Op.binOp BinOp.eql 42 (Operand.tmp 48) (Operand.tmp 49) 42, type := 4, pos := "law.go:55", after := #[{ on := 7, ground := Ground.data }, { on := 8, ground := Ground.data }, { on := 1, ground := Ground.guard }], guard := some (1, true) }) (v := .bool true) rfl (by kernel_rfl) (by kernel_rfl) (by kernel_rfl) (fun _ _ _ h => h) (Or.inl ⟨by rfl, fun wx hS => ?_⟩) hH ?_
  · exact HEQ.out _ _ _ _ rfl rfl rfl wx
  simp only [Act.put, List.setIfInBounds_toArray, List.set_cons_zero, List.set_cons_succ]
  refine wpAnyH_take (i := 10) (oi := { dst := some 51, op := Op.pick (Operand.tmp 42) (Operand.tmp 50) (Operand.const (Value.bool false)), type := 4, pos := "law.go:55", after := #[{ on := 1, ground := Ground.data }, { on := 9, ground := Ground.data }], guard := none }) (v := .bool true) rfl (by kernel_rfl) (by kernel_rfl) (by kernel_rfl) (fun _ _ _ h => h) (Or.inl ⟨by rfl, fun wx hS => ?_⟩) hH ?_
  · go_simp
  simp only [Act.put, List.setIfInBounds_toArray, List.set_cons_zero, List.set_cons_succ]
  refine wpAnyH_take (i := 11) (oi := { dst := some 52, op := Op.move (Operand.tmp 51), type := 4, pos := "law.go:55", after := #[{ on := 10, ground := Ground.data }, { on := 7, ground := Ground.chain }], guard := none }) (v := .bool true) rfl (by kernel_rfl) (by kernel_rfl) (by kernel_rfl) (fun _ _ _ h => h) (Or.inl ⟨by rfl, fun wx hS => ?_⟩) hH ?_
  · go_simp
  simp only [Act.put, List.setIfInBounds_toArray, List.set_cons_zero, List.set_cons_succ]
  refine wpAnyH_take (i := 12) (oi := { dst := some 53, op := Op.load 27 (Operand.tmp 5), type := 27, pos := "law.go:55", after := #[{ on := 11, ground := Ground.guard }], guard := some (11, true) }) (v := .agg L1.toArray) rfl (by kernel_rfl) (by kernel_rfl) (by kernel_rfl) (fun _ _ _ h => h) (yieldsIf_load_mid (by rfl) 27 _ rfl r1 0 rfl L1 _ (fun wx hS => RG1.out wx hS) Tryd.underlying27 rfl (by rw [infoRing, HL1.out])) hH ?_
  simp only [Act.put, List.setIfInBounds_toArray, List.set_cons_zero, List.set_cons_succ]
  refine wpAnyH_take (i := 13) (oi := { dst := some 54, op := Op.fieldAddr 40 (Operand.tmp 1) 1, type := 0, pos := "law.go:55", after := #[{ on := 11, ground := Ground.guard }], guard := some (11, true) }) (v := .pointer (some ⟨w.heap.size, 32, none⟩)) rfl (by kernel_rfl) (by kernel_rfl) (by kernel_rfl) (fun _ _ _ h => h) (Or.inl ⟨by rfl, fun wx hS => ?_⟩) hH ?_
  · go_simp
  simp only [Act.put, List.setIfInBounds_toArray, List.set_cons_zero, List.set_cons_succ]
  refine wpAnyH_take (i := 14) (oi := { dst := some 55, op := Op.load 5 (Operand.tmp 54), type := 5, pos := "law.go:55", after := #[{ on := 13, ground := Ground.data }, { on := 11, ground := Ground.guard }], guard := some (11, true) }) (v := .int .u8 (V kd)) rfl (by kernel_rfl) (by kernel_rfl) (by kernel_rfl) (fun _ _ _ h => h) (Or.inl ⟨by rfl, fun wx hS => ?_⟩) hH ?_
  · have hk := CK.out wx hS; go_simp
  simp only [Act.put, List.setIfInBounds_toArray, List.set_cons_zero, List.set_cons_succ]
  refine wpAnyH_take (i := 15) (oi := { dst := some 56, op := Op.move (Operand.tmp 3), type := 22, pos := "law.go:55", after := #[{ on := 11, ground := Ground.guard }], guard := some (11, true) }) (v := .slice a f.length c) rfl (by kernel_rfl) (by kernel_rfl) (by kernel_rfl) (fun _ _ _ h => h) (Or.inl ⟨by rfl, fun wx hS => ?_⟩) hH ?_
  · go_simp
  simp only [Act.put, List.setIfInBounds_toArray, List.set_cons_zero, List.set_cons_succ]
  refine wpAnyH_take (i := 16) (oi := { dst := some 57, op := Op.move (Operand.tmp 4), type := 3, pos := "law.go:55", after := #[{ on := 11, ground := Ground.guard }], guard := some (11, true) }) (v := .int .i64 (i : Int)) rfl (by kernel_rfl) (by kernel_rfl) (by kernel_rfl) (fun _ _ _ h => h) (Or.inl ⟨by rfl, fun wx hS => ?_⟩) hH ?_
  · go_simp
  simp only [Act.put, List.setIfInBounds_toArray, List.set_cons_zero, List.set_cons_succ]
  refine wpAnyH_take (i := 17) (oi := { dst := some 58, op := Op.slice 22 (Operand.tmp 56) none (some (Operand.tmp 57)) none, type := 22, pos := "law.go:55", after := #[{ on := 15, ground := Ground.data }, { on := 16, ground := Ground.data }, { on := 11, ground := Ground.guard }], guard := some (11, true) }) (v := .slice q1.a q1.l.length q1.c) rfl (by kernel_rfl) (by kernel_rfl) (by kernel_rfl) (fun _ _ _ h => h) (Or.inl ⟨by rfl, fun wx hS => ?_⟩) hH ?_
  · have hg := g1 wx; go_simp
  simp only [Act.put, List.setIfInBounds_toArray, List.set_cons_zero, List.set_cons_succ]
  refine wpAnyH_take (i := 18) (oi := { dst := some 59, op := Op.move (Operand.tmp 3), type := 22, pos := "law.go:55", after := #[{ on := 11, ground := Ground.guard }], guard := some (11, true) }) (v := .slice a f.length c) rfl (by kernel_rfl) (by kernel_rfl) (by kernel_rfl) (fun _ _ _ h => h) (Or.inl ⟨by rfl, fun wx hS => ?_⟩) hH ?_
  · go_simp
  simp only [Act.put, List.setIfInBounds_toArray, List.set_cons_zero, List.set_cons_succ]
  refine wpAnyH_take (i := 19) (oi := { dst := some 60, op := Op.move (Operand.tmp 4), type := 3, pos := "law.go:55", after := #[{ on := 11, ground := Ground.guard }], guard := some (11, true) }) (v := .int .i64 (i : Int)) rfl (by kernel_rfl) (by kernel_rfl) (by kernel_rfl) (fun _ _ _ h => h) (Or.inl ⟨by rfl, fun wx hS => ?_⟩) hH ?_
  · go_simp
  simp only [Act.put, List.setIfInBounds_toArray, List.set_cons_zero, List.set_cons_succ]
  refine wpAnyH_take (i := 20) (oi := { dst := some 61, op := Op.slice 22 (Operand.tmp 59) (some (Operand.tmp 60)) none none, type := 22, pos := "law.go:55", after := #[{ on := 18, ground := Ground.data }, { on := 19, ground := Ground.data }, { on := 11, ground := Ground.guard }], guard := some (11, true) }) (v := .slice q3.a q3.l.length q3.c) rfl (by kernel_rfl) (by kernel_rfl) (by kernel_rfl) (fun _ _ _ h => h) (Or.inl ⟨by rfl, fun wx hS => ?_⟩) hH ?_
  · have hg := g3 wx; go_simp
  simp only [Act.put, List.setIfInBounds_toArray, List.set_cons_zero, List.set_cons_succ]
  refine wpAnyH_take (i := 23) (oi := { dst := some 64, op := Op.load 42 (Operand.tmp 7), type := 42, pos := "law.go:55", after := #[{ on := 11, ground := Ground.guard }], guard := some (11, true) }) (v := .agg (byteCells M).toArray) rfl (by kernel_rfl) (by kernel_rfl) (by kernel_rfl) (fun _ _ _ h => h) (yieldsIf_load_mid (by rfl) 42 _ rfl r3 0 rfl (byteCells M) _ (fun wx hS => RG3.out wx hS) Tryd.underlying42 rfl (by rw [infoId, byteCells_length, HM.out])) hH ?_
  simp only [Act.put, List.setIfInBounds_toArray, List.set_cons_zero, List.set_cons_succ]
  refine wpAnyH_ready (rs := [21]) (by kernel_rfl) (by simp) ?_
  refine AllReadyH.cons (o := { dst := some 62, op := Op.buildSlice 52 2 #[(0, Operand.tmp 58), (1, Operand.tmp 61)], type := 52, pos := "law.go:55", after := #[{ on := 17, ground := Ground.data }, { on := 20, ground := Ground.data }, { on := 11, ground := Ground.guard }], guard := some (11, true) }) rfl (fun KK hKK => ?_) AllReadyH.nil
  go_simp
  refine hKK.out _ _ (below_alloc' hH (.cells #[.slice q1.a q1.l.length q1.c, .slice q3.a q3.l.length q3.c] 22 (0, 0))) (fun hH' => ?_)
  clear hKK KK hH'
  try simp only [Act.put, List.setIfInBounds_toArray, List.set_cons_zero, List.set_cons_succ]
  refine wpAnyH_ready (rs := [22]) (by kernel_rfl) (by simp) ?_
  refine AllReadyH.cons (o := { dst := some 63, op := Op.call { callee := Callee.value (Operand.func 10), args := #[Operand.tmp 53, Operand.tmp 55, Operand.tmp 62], argTypes := #[27, 5, 52] }, type := 42, pos := "law.go:55", after := #[{ on := 12, ground := Ground.data }, { on := 14, ground := Ground.data }, { on := 21, ground := Ground.data }, { on := 11, ground := Ground.chain }, { on := 11, ground := Ground.guard }], guard := some (11, true) }) rfl (fun KK hKK => ?_) AllReadyH.nil
  go_simp
  refine (PI2.out _ hH).mono ?_
  rintro e x2 ⟨rfl, kk⟩
  clear hH
  refine hKK.out _ _ kk (fun hH => ?_)
  clear hKK KK kk
  try simp only [Act.put, List.setIfInBounds_toArray, List.set_cons_zero, List.set_cons_succ]
  refine wpAnyH_take (i := 24) (oi := { dst := some 65, op := Op.binOp BinOp.eql 42 (Operand.tmp 63) (Operand.tmp 64) 42, type := 4, pos := "law.go:55", after := #[{ on := 22, ground := Ground.data }, { on := 23, ground := Ground.data }, { on := 11, ground := Ground.guard }], guard := some (11, true) }) (v := .bool true) rfl (by kernel_rfl) (by kernel_rfl) (by kernel_rfl) (fun _ _ _ h => h) (Or.inl ⟨by rfl, fun wx hS => ?_⟩) hH ?_
  · exact HEQ.out _ _ _ _ rfl rfl rfl wx
  simp only [Act.put, List.setIfInBounds_toArray, List.set_cons_zero, List.set_cons_succ]
  refine wpAnyH_take (i := 25) (oi := { dst := some 66, op := Op.pick (Operand.tmp 52) (Operand.tmp 65) (Operand.const (Value.bool false)), type := 4, pos := "law.go:55", after := #[{ on := 11, ground := Ground.data }, { on := 24, ground := Ground.data }], guard := none }) (v := .bool true) rfl (by kernel_rfl) (by kernel_rfl) (by kernel_rfl) (fun _ _ _ h => h) (Or.inl ⟨by rfl, fun wx hS => ?_⟩) hH ?_
  · go_simp
  simp only [Act.put, List.setIfInBounds_toArray, List.set_cons_zero, List.set_cons_succ]
  refine wpAnyH_take (i := 26) (oi := { dst := some 67, op := Op.move (Operand.tmp 66), type := 4, pos := "law.go:55", after := #[{ on := 25, ground := Ground.data }, { on := 22, ground := Ground.chain }], guard := none }) (v := .bool true) rfl (by kernel_rfl) (by kernel_rfl) (by kernel_rfl) (fun _ _ _ h => h) (Or.inl ⟨by rfl, fun wx hS => ?_⟩) hH ?_
  · go_simp
  simp only [Act.put, List.setIfInBounds_toArray, List.set_cons_zero, List.set_cons_succ]
  refine wpAnyH_take (i := 27) (oi := { dst := some 68, op := Op.load 27 (Operand.tmp 6), type := 27, pos := "law.go:55", after := #[{ on := 26, ground := Ground.guard }], guard := some (26, true) }) (v := .agg L2.toArray) rfl (by kernel_rfl) (by kernel_rfl) (by kernel_rfl) (fun _ _ _ h => h) (yieldsIf_load_mid (by rfl) 27 _ rfl r2 0 rfl L2 _ (fun wx hS => RG2.out wx hS) Tryd.underlying27 rfl (by rw [infoRing, HL2.out])) hH ?_
  simp only [Act.put, List.setIfInBounds_toArray, List.set_cons_zero, List.set_cons_succ]
  refine wpAnyH_take (i := 28) (oi := { dst := some 69, op := Op.fieldAddr 40 (Operand.tmp 1) 1, type := 0, pos := "law.go:55", after := #[{ on := 26, ground := Ground.guard }], guard := some (26, true) }) (v := .pointer (some ⟨w.heap.size, 32, none⟩)) rfl (by kernel_rfl) (by kernel_rfl) (by kernel_rfl) (fun _ _ _ h => h) (Or.inl ⟨by rfl, fun wx hS => ?_⟩) hH ?_
  · go_simp
  simp only [Act.put, List.setIfInBounds_toArray, List.set_cons_zero, List.set_cons_succ]
  refine wpAnyH_take (i := 29) (oi := { dst := some 70, op := Op.load 5 (Operand.tmp 69), type := 5, pos := "law.go:55", after := #[{ on := 28, ground := Ground.data }, { on := 26, ground := Ground.guard }], guard := some (26, true) }) (v := .int .u8 (V kd)) rfl (by kernel_rfl) (by kernel_rfl) (by kernel_rfl) (fun _ _ _ h => h) (Or.inl ⟨by rfl, fun wx hS => ?_⟩) hH ?_
  · have hk := CK.out wx hS; go_simp
  simp only [Act.put, List.setIfInBounds_toArray, List.set_cons_zero, List.set_cons_succ]
  refine wpAnyH_take (i := 30) (oi := { dst := some 71, op := Op.move (Operand.tmp 3), type := 22, pos := "law.go:55", after := #[{ on := 26, ground := Ground.guard }], guard := some (26, true) }) (v := .slice a f.length c) rfl (by kernel_rfl) (by kernel_rfl) (by kernel_rfl) (fun _ _ _ h => h) (Or.inl ⟨by rfl, fun wx hS => ?_⟩) hH ?_
  · go_simp
  simp only [Act.put, List.setIfInBounds_toArray, List.set_cons_zero, List.set_cons_succ]
  refine wpAnyH_take (i := 33) (oi := { dst := some 74, op := Op.load 42 (Operand.tmp 7), type := 42, pos := "law.go:55", after := #[{ on := 26, ground := Ground.guard }], guard := some (26, true) }) (v := .agg (byteCells M).toArray) rfl (by kernel_rfl) (by kernel_rfl) (by kernel_rfl) (fun _ _ _ h => h) (yieldsIf_load_mid (by rfl) 42 _ rfl r3 0 rfl (byteCells M) _ (fun wx hS => RG3.out wx hS) Tryd.underlying42 rfl (by rw [infoId, byteCells_length, HM.out])) hH ?_
  simp only [Act.put, List.setIfInBounds_toArray, List.set_cons_zero, List.set_cons_succ]
  refine wpAnyH_ready (rs := [31]) (by kernel_rfl) (by simp) ?_
  refine AllReadyH.cons (o := { dst := some 72, op := Op.buildSlice 52 2 #[(0, Operand.const (Value.slice none 0 0)), (1, Operand.tmp 71)], type := 52, pos := "law.go:55", after := #[{ on := 30, ground := Ground.data }, { on := 26, ground := Ground.guard }], guard := some (26, true) }) rfl (fun KK hKK => ?_) AllReadyH.nil
  go_simp
  refine hKK.out _ _ (below_alloc' hH (.cells #[.slice none 0 0, .slice a f.length c] 22 (0, 0))) (fun hH' => ?_)
  clear hKK KK hH'
  try simp only [Act.put, List.setIfInBounds_toArray, List.set_cons_zero, List.set_cons_succ]
  refine wpAnyH_ready (rs := [32]) (by kernel_rfl) (by simp) ?_
  refine AllReadyH.cons (o := { dst := some 73, op := Op.call { callee := Callee.value (Operand.func 10), args := #[Operand.tmp 68, Operand.tmp 70, Operand.tmp 72], argTypes := #[27, 5, 52] }, type := 42, pos := "law.go:55", after := #[{ on := 27, ground := Ground.data }, { on := 29, ground := Ground.data }, { on := 31, ground := Ground.data }, { on := 26, ground := Ground.chain }, { on := 26, ground := Ground.guard }], guard := some (26, true) }) rfl (fun KK hKK => ?_) AllReadyH.nil
  go_simp
  refine (PI3.out _ hH).mono ?_
  rintro e x3 ⟨rfl, kk⟩
  clear hH
  refine hKK.out _ _ kk (fun hH => ?_)
  clear hKK KK kk
  try simp only [Act.put, List.setIfInBounds_toArray, List.set_cons_zero, List.set_cons_succ]
  refine wpAnyH_take (i := 34) (oi := { dst := some 75, op := Op.binOp BinOp.eql 42 (Operand.tmp 73) (Operand.tmp 74) 42, type := 4, pos := "law.go:55", after := #[{ on := 32, ground := Ground.data }, { on := 33, ground := Ground.data }, { on := 26, ground := Ground.guard }], guard := some (26, true) }) (v := .bool true) rfl (by kernel_rfl) (by kernel_rfl) (by kernel_rfl) (fun _ _ _ h => h) (Or.inl ⟨by rfl, fun wx hS => ?_⟩) hH ?_
  · exact HEQ.out _ _ _ _ rfl rfl rfl wx
  simp only [Act.put, List.setIfInBounds_toArray, List.set_cons_zero, List.set_cons_succ]
  refine wpAnyH_take (i := 35) (oi := { dst := some 76, op := Op.pick (Operand.tmp 67) (Operand.tmp 75) (Operand.const (Value.bool false)), type := 4, pos := "law.go:55", after := #[{ on := 26, ground := Ground.data }, { on := 34, ground := Ground.data }], guard := none }) (v := .bool true) rfl (by kernel_rfl) (by kernel_rfl) (by kernel_rfl) (fun _ _ _ h => h) (Or.inl ⟨by rfl, fun wx hS => ?_⟩) hH ?_
  · go_simp
  simp only [Act.put, List.setIfInBounds_toArray, List.set_cons_zero, List.set_cons_succ]
  refine wpAnyH_take (i := 36) (oi := { dst := some 2, op := Op.assign (Operand.tmp 76), type := 4, pos := "law.go:55", after := #[{ on := 35, ground := Ground.data }, { on := 32, ground := Ground.chain }, { on := 0, ground := Ground.phase }, { on := 1, ground := Ground.phase }, { on := 2, ground := Ground.phase }, { on := 3, ground := Ground.phase }, { on := 4, ground := Ground.phase }, { on := 5, ground := Ground.phase }, { on := 6, ground := Ground.phase }, { on := 7, ground := Ground.phase }, { on := 8, ground := Ground.phase }, { on := 9, ground := Ground.phase }, { on := 10, ground := Ground.phase }, { on := 11, ground := Ground.phase }, { on := 12, ground := Ground.phase }, { on := 13, ground := Ground.phase }, { on := 14, ground := Ground.phase }, { on := 15, ground := Ground.phase }, { on := 16, ground := Ground.phase }, { on := 17, ground := Ground.phase }, { on := 18, ground := Ground.phase }, { on := 19, ground := Ground.phase }, { on := 20, ground := Ground.phase }, { on := 21, ground := Ground.phase }, { on := 22, ground := Ground.phase }, { on := 23, ground := Ground.phase }, { on := 24, ground := Ground.phase }, { on := 25, ground := Ground.phase }, { on := 26, ground := Ground.phase }, { on := 27, ground := Ground.phase }, { on := 28, ground := Ground.phase }, { on := 29, ground := Ground.phase }, { on := 30, ground := Ground.phase }, { on := 31, ground := Ground.phase }, { on := 32, ground := Ground.phase }, { on := 33, ground := Ground.phase }, { on := 34, ground := Ground.phase }, { on := 35, ground := Ground.phase }], guard := none }) (v := .bool true) rfl (by kernel_rfl) (by kernel_rfl) (by kernel_rfl) (fun _ _ _ h => h) (Or.inl ⟨by rfl, fun wx hS => ?_⟩) hH ?_
  · go_simp
  simp only [Act.put, List.setIfInBounds_toArray, List.set_cons_zero, List.set_cons_succ]
  refine wpAnyH_done (by kernel_rfl) ?_ _
  refine NoPanic.normal ?_
  go_wp2_with fail
  go_ret
  exact ⟨rfl, BE.out.trans (hH.mono BE.out.size)⟩
end Go.Proofs.YtjemgniochjgmaaDoor
