/- (keyed).sum: a sum by a key that was taken already. -/
import Derived.Test.YtfhlcondnaahiaaDoorGc
import Derived.Test.YtfhlcondnaahiaaDoorGd
import Derived.Deep.CutRange
import Derived.Deep.DeepCutAuto
section
namespace Go.Proofs.YtfhlcondnaahiaaDoor
open Go.RowKit Sha

theorem info54 : (Tryd.prog.info? 136).map (·.size) = some 146 := by kernel_rfl

/-- Two sums under way in one block. -/
def twoRuns (w : World) (b : Nat) (T : TypeId) (m n : List UInt8) : Prop :=
  ∃ s t : List UInt8, s.length = 64 ∧ t.length = 64 ∧ s.take (m.length % 64) = m.drop (m.length - m.length % 64) ∧ t.take (n.length % 64) = n.drop (n.length - n.length % 64) ∧
    blockIs w b (runCells (regAfter m) s m.length ++ runCells (regAfter n) t n.length) T
theorem twoRuns.first {w w' : World} {b : Nat} {T : TypeId} {m n l : List UInt8} (h : twoRuns w b T m n)
    (hk : ∀ post, runIs w b [] post T m → runIs w' b [] post T (m ++ l)) : twoRuns w' b T (m ++ l) n := by
  obtain ⟨s, t, h1, h2, h3, h4, h5⟩ := h
  obtain ⟨s', g1, g2, g3⟩ := hk (runCells (regAfter n) t n.length) ⟨s, h1, h3, h5⟩
  exact ⟨s', t, g1, h2, g2, h4, g3⟩

set_option maxRecDepth 100000 in
set_option maxHeartbeats 2000000 in
theorem keyed_any (c : Nat) (a : Option Addr) (ls : List (List UInt8)) (ik ok si so : List UInt8) (w : World) (hi : ik.length = 64) (ho : ok.length = 64) (hsi : si.length = 64) (hso : so.length = 64)
    (hl : ls.length ≤ 1000000) (_ : ls.length ≤ c) (hm : ls.flatten.length ≤ 900000) (ht : tables w) (hp : partsIn w a ls) :
    Calls Tryd.prog 69 #[.agg (runCells (regAfter ik) si 64 ++ runCells (regAfter ok) so 64).toArray, .slice a ls.length c] w fun e w' => e = .returned (.agg (byteCells (sha (ok ++ sha (ik ++ ls.flatten)))).toArray) ∧ Below w.heap.size w w' := by
  have F0 : Hid (blockIs (w.alloc (.cells (runCells (regAfter ik) si 64 ++ runCells (regAfter ok) so 64).toArray 136 (0, 0))) w.heap.size (runCells (regAfter ik) si 64 ++ runCells (regAfter ok) so 64) 136) := Lib.hid (blockIs.new _ _ _)
  obtain ⟨C, hC⟩ : ∃ C, C = runCells (regAfter ik) si 64 ++ runCells (regAfter ok) so 64 := ⟨_, rfl⟩
  rw [← hC] at F0 ⊢
  have HC := Lib.hid hC
  clear hC
  have hz3 := zero28
  have HT := Lib.hid ht
  have HP := Lib.hid hp
  have HM := Lib.hid hm
  have HI := Lib.hid hi
  have HO := Lib.hid ho
  clear ht hp hm hi ho
  go_enter Tryd.func69, Tryd.ntmps69
  go_wp2_with fail
  have G1 : Hid (twoRuns ((w.alloc (.cells C.toArray 136 (0, 0))).alloc (.cells (zeros 32).toArray 23 (0, 0))) w.heap.size 136 ik ok) := Lib.hid ⟨si, so, hsi, hso, by rw [HI.out]; simp; have := HI.out; omega, by rw [HO.out]; simp; have := HO.out; omega, by
    have := F0.out.alloc (.cells (zeros 32).toArray 23 (0, 0))
    rw [HI.out, HO.out, ← HC.out]
    exact this⟩
  have G2 : Hid (blockIs ((w.alloc (.cells C.toArray 136 (0, 0))).alloc (.cells (zeros 32).toArray 23 (0, 0))) (w.heap.size + 1) (zeros 32) 23) := Lib.hid (blockIs.last _ _ _ _ (by simp))
  have G3 : Hid (Below w.heap.size w ((w.alloc (.cells C.toArray 136 (0, 0))).alloc (.cells (zeros 32).toArray 23 (0, 0)))) := Lib.hid (((Below.refl _ w).alloc (Nat.le_refl _) _).alloc (by simp) _)
  generalize (w.alloc (.cells C.toArray 136 (0, 0))).alloc (.cells (zeros 32).toArray 23 (0, 0)) = w1 at *
  clear F0 hz3
  go_loopw [10, 6] (fun i _ wr => ∃ k : Nat, k ≤ ls.length ∧ i = .int .i64 k ∧ twoRuns wr w.heap.size 136 (ik ++ (ls.take k).flatten) ok ∧ But w.heap.size w1 wr) (fun i _ _ => ls.length - (intOf i).toNat)
  case atStart => exact ⟨0, by omega, rfl, by simpa using G1.out, But.refl _ _⟩
  case round =>
    obtain ⟨k, hk, rfl, h1, h2⟩ := hrel
    have hB : Below w.heap.size w wr := G3.out.trans (h2.below (Nat.le_refl _) G3.out.size)
    by_cases hlt : k < ls.length
    · rcases HP.out with h0 | ⟨pb, po, rfl, hpp⟩
      · simp [h0] at hlt
      obtain ⟨aj, cj, hcell, hlc, hcc, hin⟩ := hpp k hlt
      have cc : wr.cell? ⟨pb, po + k, none⟩ = some (.slice aj (ls.getD k []).length cj) := (hB.cell (p := ⟨pb, po + k, none⟩) (block_lt_of_cell hcell)).trans hcell
      have hmk := flatten_le2 ls k hlt
      have hin2 : bytesAt wr w.heap.size aj (ls.getD k []) := hin.at hB (Nat.le_refl _) (Nat.le_refl _)
      have HB := Lib.hid hB
      have H1 := Lib.hid h1
      have H2 := Lib.hid h2
      have HIN := Lib.hid hin2
      have HMK := Lib.hid hmk
      clear hB h1 h2 hin hin2 hmk hpp hcell
      have p : 0 ≤ (k : Int) := by omega
      have q : (k : Int) < (ls.length : Int) := by omega
      have hfl : Hid ((ls.take (k + 1)).flatten = (ls.take k).flatten ++ ls.getD k []) := Lib.hid (flatten_take _ _ hlt)
      generalize hL : ls.getD k [] = L at *
      clear hL
      go_wp2_with fail
      obtain ⟨s, t, g1, g2, g3, g4, g5⟩ := H1.out
      refine (take_any w.heap.size cj aj [] (runCells (regAfter ok) t ok.length) 136 (ik ++ (ls.take k).flatten) L wr hlc hcc (by have := HMK.out; have := HM.out; have := HI.out; rw [List.length_append]; omega) ⟨s, g1, g3, g5⟩ HIN.out (fun j hj => (HB.out.cell HT.out.2.2.1).trans (HT.out.1 j hj)) (by have := HT.out.2.2.1; omega)).mono ?_
      rintro e w3 ⟨rfl, ⟨s', e1, e2, e3⟩, k2⟩
      have K1 : Hid (twoRuns w3 w.heap.size 136 (ik ++ (ls.take (k + 1)).flatten) ok) := Lib.hid (by
        rw [hfl.out, ← List.append_assoc]
        exact ⟨s', t, e1, g2, e2, g4, e3⟩)
      have K2 := Lib.hid (H2.out.trans k2)
      clear g1 g2 g3 g4 g5 e1 e2 e3 k2
      go_wp2_with fail
      go_roundw
      case rel => exact ⟨k + 1, by omega, by go_num, K1.out, K2.out⟩
      case measure => simp [intOf]; omega
    · rw [List.take_of_length_le (by omega)] at h1
      generalize hMM : ls.flatten = M at *
      have HMM := Lib.hid hMM
      clear hMM
      obtain ⟨s, t, g1, g2, g3, g4, g5⟩ := h1
      have hmm : (ik ++ M).length ≤ 1000000 := by have := HM.out; have := HI.out; rw [List.length_append]; omega
      have R1 : Hid (wr.rangeAt w.heap.size 0 (runCells (regAfter (ik ++ M)) s (ik ++ M).length)) := Lib.hid (rangeAt_block (p := []) g5)
      have R2 : Hid (blockIs wr (w.heap.size + 1) (zeros 32) 23) := Lib.hid (h2.is G2.out (by omega))
      have R5 := Lib.hid g5
      have HB := Lib.hid hB
      have S1 := Lib.hid g1
      have S2 := Lib.hid g2
      have S3 := Lib.hid g3
      have S4 := Lib.hid g4
      have H73 : Hid ((runCells (regAfter (ik ++ M)) s (ik ++ M).length).length = 73) := Lib.hid (runCells_length _ _ _ g1)
      have HMMM := Lib.hid hmm
      clear h2 hB g1 g2 g3 g4 g5 hmm
      generalize hIM : ik ++ M = IM at *
      have HIM := Lib.hid hIM
      clear hIM
      go_wp2_with (refine wpList_load_mid rfl 134 _ rfl w.heap.size 0 rfl (runCells (regAfter IM) s IM.length) _ R1.out Tryd.underlying134 rfl (by rw [info50, H73.out]) ?_)
      refine (end_any IM s wr HMMM.out S1.out S3.out (fun j hj => (HB.out.cell HT.out.2.2.1).trans (HT.out.1 j hj)) (Nat.lt_of_lt_of_le HT.out.2.2.1 HB.out.size)).mono ?_
      rintro e w5 ⟨rfl, k1⟩
      have K1 := Lib.hid k1
      clear k1
      have hz3 := zero28
      go_wp2_with (refine wpList_store_block rfl 23 _ _ rfl w5.heap.size 0 (byteCells (sha IM)) rfl rfl (zeros 32) 23 (blockIs.new w5 _ _) (by rw [info28, byteCells_length, sha_length]) (by simp [zeros, byteCells_length, sha_length]) (byteCells_one _) ?_)
      intro w6 h1 h2 h3
      have h1 := h1.out
      rw [splice_all _ _ (by simp [zeros, byteCells_length, sha_length])] at h1
      have h2 := h2.out
      have hs5 : w.heap.size + 1 < w5.heap.size := Nat.lt_of_lt_of_le R2.out.lt K1.out.size
      have hB6 : Below wr.heap.size wr w6 := (K1.out.alloc K1.out.size (.cells (zeros 32).toArray 23 (0, 0))).trans (h2.below K1.out.size (by simp; have := K1.out.size; omega))
      have L1 : Hid (blockIs w6 w.heap.size (runCells (regAfter IM) s IM.length ++ runCells (regAfter ok) t ok.length) 136) := Lib.hid (R5.out.below hB6 R5.out.lt)
      have L2 : Hid (blockIs w6 (w.heap.size + 1) (zeros 32) 23) := Lib.hid (R2.out.below hB6 R2.out.lt)
      have L3 : Hid (Below w.heap.size w w6) := Lib.hid (HB.out.trans (hB6.mono HB.out.size))
      have L4 : Hid (bytesAt w6 w.heap.size (some ⟨w5.heap.size, 0, none⟩) (sha IM)) := Lib.hid (Or.inr ⟨_, _, rfl, by omega, fun j hj => by
        rw [Nat.zero_add, h1.cell]
        exact byteCells_get _ _ hj⟩)
      have hlsha : (sha IM).length = 32 := sha_length _
      have htk := take_any w.heap.size 32 (some ⟨w5.heap.size, 0, none⟩) (runCells (regAfter IM) s IM.length) [] 136 ok (sha IM) w6 (by rw [hlsha]; omega) (by omega) (by have := HO.out; rw [hlsha]; omega) ⟨t, S2.out, S4.out, by simpa using L1.out⟩ L4.out (fun j hj => (L3.out.cell HT.out.2.2.1).trans (HT.out.1 j hj)) (by have := HT.out.2.2.1; omega)
      rw [H73.out, hlsha] at htk
      have HTK := Lib.hid htk
      clear h1 h2 h3 hB6 R1 R2 R5 K1 hz3 htk hlsha
      go_wp2_with fail
      refine HTK.out.mono ?_
      clear HTK
      rintro e w7 ⟨rfl, ⟨s7, e1, e2, e3⟩, k2⟩
      have hol : (ok ++ sha IM).length ≤ 1000000 := by rw [List.length_append, sha_length, HO.out]; omega
      have Q1 : Hid (w7.rangeAt w.heap.size 73 (runCells (regAfter (ok ++ sha IM)) s7 (ok ++ sha IM).length)) := Lib.hid (by
        have := rangeAt_block e3
        rwa [H73.out] at this)
      have Q2 : Hid (blockIs w7 (w.heap.size + 1) (zeros 32) 23) := Lib.hid (k2.is L2.out (by omega))
      have Q3 : Hid (Below w.heap.size w w7) := Lib.hid (L3.out.trans (k2.below (Nat.le_refl _) L3.out.size))
      have Q4 := Lib.hid e1
      have Q5 := Lib.hid e2
      have Q6 : Hid ((runCells (regAfter (ok ++ sha IM)) s7 (ok ++ sha IM).length).length = 73) := Lib.hid (runCells_length _ _ _ e1)
      have HOL := Lib.hid hol
      clear e1 e2 e3 k2 hol L1 L2 L3 L4
      generalize hOM : ok ++ sha IM = OM at *
      have HOM := Lib.hid hOM
      clear hOM
      go_wp2_with (refine wpList_load_mid rfl 134 _ rfl w.heap.size 73 rfl (runCells (regAfter OM) s7 OM.length) _ Q1.out Tryd.underlying134 rfl (by rw [info50, Q6.out]) ?_)
      refine (end_any OM s7 w7 HOL.out Q4.out Q5.out (fun j hj => (Q3.out.cell HT.out.2.2.1).trans (HT.out.1 j hj)) (Nat.lt_of_lt_of_le HT.out.2.2.1 Q3.out.size)).mono ?_
      rintro e w8 ⟨rfl, k1⟩
      have Z1 : Hid (blockIs w8 (w.heap.size + 1) (zeros 32) 23) := Lib.hid (Q2.out.below k1 Q2.out.lt)
      have Z2 := Lib.hid (Q3.out.trans (k1.mono Q3.out.size))
      clear k1 Q1 Q2 Q3
      go_wp2_with (refine wpList_store_block rfl 23 _ _ rfl (w.heap.size + 1) 0 (byteCells (sha OM)) rfl rfl (zeros 32) 23 Z1.out (by rw [info28, byteCells_length, sha_length]) (by simp [zeros, byteCells_length, sha_length]) (byteCells_one _) ?_)
      intro w9 h1 h2 h3
      have h1 := h1.out
      rw [splice_all _ _ (by simp [zeros, byteCells_length, sha_length])] at h1
      have H1 := Lib.hid h1
      have H2 := Lib.hid (Z2.out.trans (h2.out.below (by omega) Z2.out.size))
      clear h1 h2 h3
      go_wp2_with fail
      refine bodyPost_ret (v := .agg (byteCells (sha OM)).toArray) (results_cell_row rfl _ _ (w.heap.size + 1) 23 _ (0, 0) _ rfl H1.out Tryd.underlying23 rfl (by rw [info28]; simp [byteCells_length, sha_length])) rfl ?_
      exact ⟨by rw [HMM.out, HIM.out, HOM.out], H2.out⟩
end Go.Proofs.YtfhlcondnaahiaaDoor
end
section
/- ready: a key is taken. -/
namespace Go.Proofs.YtfhlcondnaahiaaDoor
open Go.RowKit Sha

theorem wpList_build {P : Program} {ops : Array Oper} {rest : List Oper} {o : Oper} {a : Act} {w : World} {Q : Exit → Act → World → Prop} (hgd : o.guard = none) (ty : TypeId) (ps : Array (Nat × Operand)) (ho : o.op = .build ty ps)
    (qs : Array (Nat × Value)) (v : Value) (hrun : (Instr.build ty qs).run P w = .ok v w) (hq : (ps.toList.map fun p => (p.1, a.eval p.2)) = qs.toList) (h : wpList P ops Q rest (a.put o.dst v) w) : wpList P ops Q (o :: rest) a w := by
  refine wpList_plain hgd fun K hK => ?_
  have e : (ps.map fun (i, x) => (i, a.eval x)) = qs := by
    apply Array.toList_inj.1
    rw [Array.toList_map, ← hq]
  unfold Oper.wp execOp
  simp only [ho, Sem.run_bind, e, hrun, Result.andThen_ok, Sem.run_pure]
  exact hK _ _ h

def startRun : List Value := runCells init (List.replicate 64 0) 0
def startTwo : List Value := startRun ++ startRun
theorem build50 (w : World) : (Instr.build 134 #[(0, .agg #[.int .u32 (U init.a), .int .u32 (U init.b), .int .u32 (U init.c), .int .u32 (U init.d), .int .u32 (U init.e), .int .u32 (U init.f), .int .u32 (U init.g), .int .u32 (U init.h)])]).run Tryd.prog w = .ok (.agg startRun.toArray) w := by kernel_rfl
theorem build54 (w : World) : (Instr.build 136 #[(0, .agg startRun.toArray), (1, .agg startRun.toArray)]).run Tryd.prog w = .ok (.agg startTwo.toArray) w := by kernel_rfl
def zeroTwo : List Value := zero73 ++ zero73
theorem zero54 (w : World) : (zeroValue 136).run Tryd.prog w = .ok (.agg zeroTwo.toArray) w := by kernel_rfl
theorem zero48 (w : World) : (zeroValue 108).run Tryd.prog w = .ok (.agg (zeros 64).toArray) w := by kernel_rfl

/-- A key with noughts up to 64 bytes, its first k put together with x. -/
def padF (K : List UInt8) (x : UInt8) (k j : Nat) : UInt8 := if j < k then K.getD j 0 ^^^ x else K.getD j 0
theorem splice_zeros (K : List UInt8) (h : K.length ≤ 64) : splice (zeros 64) 0 (byteCells K) = cells8 (padF K 0 0) 64 := by
  apply List.ext_getElem?
  intro i
  by_cases hi : i < 64
  · rw [cells8_get _ _ _ hi]
    unfold padF
    rw [if_neg (by omega)]
    unfold splice
    rw [List.take_zero, List.nil_append]
    by_cases hk : i < K.length
    · rw [List.getElem?_append_left (by rw [byteCells_length]; omega), byteCells_get _ _ hk]
    · rw [List.getElem?_append_right (by rw [byteCells_length]; omega), byteCells_length, List.getElem?_drop]
      have e : K.getD i 0 = 0 := by simp [show K.length ≤ i by omega]
      unfold zeros
      rw [List.getElem?_replicate, if_pos (by omega), e]
      rfl
  · rw [List.getElem?_eq_none (by rw [length_splice _ _ _ (by rw [byteCells_length]; simp [zeros]; omega)]; simp [zeros]; omega), List.getElem?_eq_none (by rw [cells8_length]; omega)]
theorem padF_succ (K : List UInt8) (x : UInt8) (k : Nat) (h : k < 64) : (cells8 (padF K x k) 64).set k (.int .u8 (V (K.getD k 0 ^^^ x))) = cells8 (padF K x (k + 1)) 64 := by
  rw [cells8_set _ _ _ h]
  congr 1
  funext j
  unfold padF
  by_cases e : j = k
  · rw [if_pos e, if_pos (by omega), e]
  · rw [if_neg e]
    by_cases hj : j < k
    · rw [if_pos hj, if_pos (by omega)]
    · rw [if_neg hj, if_neg (by omega)]
theorem padF_all (K : List UInt8) (x : UInt8) : cells8 (padF K x 64) 64 = byteCells (padKey K x) := by
  unfold cells8 byteCells padKey
  rw [List.map_map]
  apply List.map_congr_left
  intro j hj
  have := List.mem_range.1 hj
  simp [padF, this]
theorem runCells_one (r : Reg) (s : List UInt8) (n : Nat) : ∀ v ∈ runCells r s n, v.oneCell' = true := by
  intro v hv
  unfold runCells regCells at hv
  rcases List.mem_append.1 hv with h | h
  · obtain ⟨_, _, rfl⟩ := List.mem_map.1 h
    rfl
  · rcases List.mem_append.1 h with h | h
    · exact byteCells_one _ v h
    · have := List.mem_singleton.1 h
      subst this
      rfl
set_option maxRecDepth 100000 in
theorem two_one : ∀ v ∈ startTwo, v.oneCell' = true := by decide
theorem start_two {w : World} {g : Nat} (h : blockIs w g startTwo 136) : runIs w g [] startRun 136 [] := ⟨List.replicate 64 0, rfl, rfl, h⟩
theorem start_run : startRun = runCells (regAfter []) (List.replicate 64 0) ([] : List UInt8).length ++ [] := rfl
theorem start_second {w : World} {g : Nat} {pre : List Value} (h : blockIs w g (pre ++ startRun) 136) : runIs w g pre [] 136 [] := by
  refine ⟨List.replicate 64 0, List.length_replicate, rfl, ?_⟩
  rw [← start_run]
  exact h
set_option maxRecDepth 100000 in
theorem len_two : (54 : Nat) = 54 ∧ 0 + startTwo.length ≤ zeroTwo.length ∧ zeroTwo.length = startTwo.length ∧ zeroTwo.length = 146 := ⟨rfl, by decide, rfl, rfl⟩
theorem bytesIn.cells {w : World} {a : Option Addr} {l : List UInt8} (h : bytesIn w a l) (hn : 0 < (byteCells l).length) : ∃ ad, a = some ad ∧ ∀ j v, (byteCells l)[j]? = some v → w.cell? (ad.add j) = some v := by
  rcases h with h | ⟨bb, bo, h1, h3⟩
  · exact (show bytesAt w w.heap.size a l from Or.inl h).all hn
  · have hlt : bb < w.heap.size := block_lt_of_cell (h3 0 (by rw [byteCells_length] at hn; omega))
    exact (show bytesAt w w.heap.size a l from Or.inr ⟨bb, bo, h1, by omega, h3⟩).all hn

theorem V_x36 (x : UInt8) : bits .xor .u8 (V x) 54 = V (x ^^^ 0x36) := V_xor x 0x36
theorem V_x5c (x : UInt8) : bits .xor .u8 (V x) 92 = V (x ^^^ 0x5c) := V_xor x 0x5c
attribute [local go_sem] V_x36 V_x5c

end Go.Proofs.YtfhlcondnaahiaaDoor
end
section
/- sum.ready: a key of any length is taken. -/
namespace Go.Proofs.YtfhlcondnaahiaaDoor
open Go.RowKit Sha
attribute [local go_sem] V_x36 V_x5c

set_option maxRecDepth 100000 in
set_option maxHeartbeats 2000000 in
/-- ready: a key of any length. -/
theorem ready_any (a : Option Addr) (c : Nat) (K0 : List UInt8) (w : World) (hKm : K0.length ≤ 900000) (hKc : K0.length ≤ c) (hcm : c ≤ 9223372036854775807) (hin : bytesIn w a K0) (ht : tables w) :
    Calls Tryd.prog 68 #[.slice a K0.length c] w fun e w' => ∃ si so : List UInt8, si.length = 64 ∧ so.length = 64 ∧ e = .returned (.agg (runCells (regAfter (padKey (shortKey K0) 0x36)) si 64 ++ runCells (regAfter (padKey (shortKey K0) 0x5c)) so 64).toArray) ∧ Below w.heap.size w w' := by
  have hz54 := zero54
  have X0 : Hid (blockIs (w.alloc (.cells zeroTwo.toArray 136 (0, 0))) w.heap.size zeroTwo 136) := Lib.hid (blockIs.new _ _ _)
  have XI : Hid (bytesIn (w.alloc (.cells zeroTwo.toArray 136 (0, 0))) a K0) := Lib.hid (hin.below ((Below.refl _ _).alloc (Nat.le_refl _) _))
  have XB : Hid (Below w.heap.size w (w.alloc (.cells zeroTwo.toArray 136 (0, 0)))) := Lib.hid ((Below.refl _ _).alloc (Nat.le_refl _) _)
  have HT := Lib.hid ht
  clear ht hin
  go_enter Tryd.func68, Tryd.ntmps68
  go_upto_if 10 with fail
  have XS : Hid (w.heap.size + 1 = (w.alloc (.cells zeroTwo.toArray 136 (0, 0))).heap.size) := Lib.hid (by simp)
  generalize w.alloc (.cells zeroTwo.toArray 136 (0, 0)) = w1 at *
  clear hz54
  go_cut [0] (fun v wx => ∃ (a' : Option Addr) (c' : Nat), v = .slice a' (shortKey K0).length c' ∧ (shortKey K0).length ≤ c' ∧ Hid (bytesIn wx a' (shortKey K0)) ∧ Hid (blockIs wx w.heap.size zeroTwo 136) ∧ Hid (Below w.heap.size w wx))
  case first =>
    by_cases h64 : K0.length ≤ 64
    · have hk1 : (K0.length : Int) ≤ 64 := by omega
      have hs : Hid (shortKey K0 = K0) := Lib.hid (if_neg (by omega))
      go_wp2_with fail
      go_meet
      case rel => exact ⟨a, c, by rw [hs.out], by rw [hs.out]; exact hKc, by rw [hs.out]; exact XI, X0, XB⟩
    · have hk1 : 64 < (K0.length : Int) := by omega
      have hs : Hid (shortKey K0 = sha K0) := Lib.hid (if_pos (by omega))
      have hz28 := zero28
      go_wp2_with fail
      have htab : tables (w1.alloc (.cells #[.slice a K0.length c] 30 (0, 0))) := HT.out.below (XB.out.alloc (by have := XS.out; omega) _) HT.out.2.2.1 HT.out.2.2.2
      have hbl : blockIs (w1.alloc (.cells #[.slice a K0.length c] 30 (0, 0))) w1.heap.size [.slice a K0.length c] 30 := blockIs.new w1 [.slice a K0.length c] 30
      have hp : partsIn (w1.alloc (.cells #[.slice a K0.length c] 30 (0, 0))) (some ⟨w1.heap.size, 0, none⟩) [K0] := by
        refine Or.inr ⟨_, _, rfl, fun j hj => ?_⟩
        match j, hj with
        | 0, _ => exact ⟨a, c, by rw [hbl.cell]; rfl, hKc, hcm, XI.out.below ((Below.refl _ _).alloc (Nat.le_refl _) _)⟩
      have hof := of_any 1 (some ⟨w1.heap.size, 0, none⟩) [K0] _ (by simp) (by simp) (by simp; omega) htab hp
      rw [show [K0].flatten = K0 by simp, show [K0].length = 1 from rfl] at hof
      have HOF := Lib.hid hof
      clear htab hbl hp hof
      with_reducible refine HOF.out.mono ?_
      rintro e w2 ⟨rfl, k2⟩
      have K2 : Hid (Below w1.heap.size w1 w2) := Lib.hid (((Below.refl _ _).alloc (Nat.le_refl _) _).trans (k2.mono (by simp)))
      have D0 : Hid (blockIs (w2.alloc (.cells (zeros 32).toArray 23 (0, 0))) w2.heap.size (zeros 32) 23) := Lib.hid (blockIs.new w2 _ _)
      clear k2 HOF
      go_wp2_with (refine wpList_store_block rfl 23 _ _ rfl w2.heap.size 0 (byteCells (sha K0)) rfl rfl (zeros 32) 23 D0.out (by rw [info28, byteCells_length, sha_length]) (by simp [zeros, byteCells_length, sha_length]) (byteCells_one _) ?_)
      intro w3 h1 h2 h3
      have h1 := h1.out
      rw [splice_all _ _ (by simp [zeros, byteCells_length, sha_length])] at h1
      have H1 := Lib.hid h1
      have hsz := XS.out
      have B12 : Below w1.heap.size w1 (w2.alloc (.cells (zeros 32).toArray 23 (0, 0))) := K2.out.alloc K2.out.size _
      have B13 : Below w1.heap.size w1 w3 := B12.trans (h2.out.below K2.out.size (by simp; have := K2.out.size; omega))
      have HB := Lib.hid B13
      clear h1 h2 h3 hz28 B12 B13
      go_wp2_with fail
      go_meet
      case rel =>
        refine ⟨some ⟨w2.heap.size, 0, none⟩, 32, by rw [hs.out]; rfl, by rw [hs.out]; exact Nat.le_refl _, ?_, Lib.hid (X0.out.below HB.out (by omega)), Lib.hid (XB.out.trans (HB.out.mono (by omega)))⟩
        rw [hs.out]
        refine Lib.hid (Or.inr ⟨_, _, rfl, fun j hj => ?_⟩)
        rw [Nat.zero_add, H1.out.cell]
        exact byteCells_get _ _ hj
  clear XI X0 XB hKc hcm hKm XS
  obtain ⟨a', c', rfl, hKc, XI, X0, XB⟩ := hcut
  have hK64 : (shortKey K0).length ≤ 64 := by
    unfold shortKey
    split
    · rw [sha_length]; omega
    · omega
  have hk1 : ((shortKey K0).length : Int) ≤ 64 := by omega
  generalize hks : shortKey K0 = K at *
  have HKS := Lib.hid hks
  clear hks
  generalize wc = wx at *
  go_upto_region 4 with fail

  have hz48 := zero48
  have FA : Hid (blockIs ((wx.alloc (.cells (zeros 64).toArray 108 (0, 0))).alloc (.cells (zeros 64).toArray 108 (0, 0))) wx.heap.size (zeros 64) 108) := Lib.hid ((blockIs.new wx _ _).alloc _)
  have FB : Hid (blockIs ((wx.alloc (.cells (zeros 64).toArray 108 (0, 0))).alloc (.cells (zeros 64).toArray 108 (0, 0))) (wx.heap.size + 1) (zeros 64) 108) := Lib.hid (blockIs.last _ _ _ _ (by simp))
  have FW : Hid (Below wx.heap.size wx ((wx.alloc (.cells (zeros 64).toArray 108 (0, 0))).alloc (.cells (zeros 64).toArray 108 (0, 0)))) := Lib.hid (((Below.refl _ _).alloc (Nat.le_refl _) _).alloc (by simp) _)
  have FS : Hid (((wx.alloc (.cells (zeros 64).toArray 108 (0, 0))).alloc (.cells (zeros 64).toArray 108 (0, 0))).heap.size = wx.heap.size + 2) := Lib.hid (by simp)
  have FC := Lib.hid (XI.out.below FW.out)
  go_wp2_with (refine wpList_copy_but rfl _ _ 30 30 rfl 5 Tryd.underlying30 size5 _ _ _ _ _ _ rfl rfl wx.heap.size 0 (zeros 64) 108 FA.out (byteCells K) ?c1 ?c2 ?c3 ?c4 ?_)
  case c1 => rw [byteCells_length]; simp [Nat.min_def]; omega
  case c2 => exact fun h => by simpa using (bytesIn.cells FC.out h)
  case c3 => rw [byteCells_length]; simp [zeros]; omega
  case c4 => exact byteCells_one _
  intro wa a1 a2 a3
  have A1 : Hid (blockIs wa wx.heap.size (cells8 (padF K 0 0) 64) 108) := Lib.hid (by have := a1.out; rwa [splice_zeros K hK64] at this)
  have FB := Lib.hid (a2.out.is FB.out (by omega))
  have FW : Hid (Below wx.heap.size wx wa) := Lib.hid (FW.out.trans (a2.out.below (Nat.le_refl _) (by rw [FS.out]; omega)))
  have FS : Hid (wa.heap.size = wx.heap.size + 2) := Lib.hid (by have := a3.out; have := FS.out; simp at *; omega)
  have FC := Lib.hid (XI.out.below FW.out)
  clear a1 a2 a3 FA
  go_wp2_with (refine wpList_copy_but rfl _ _ 30 30 rfl 5 Tryd.underlying30 size5 _ _ _ _ _ _ rfl rfl (wx.heap.size + 1) 0 (zeros 64) 108 FB.out (byteCells K) ?c1 ?c2 ?c3 ?c4 ?_)
  case c1 => rw [byteCells_length]; simp [Nat.min_def]; omega
  case c2 => exact fun h => by simpa using (bytesIn.cells FC.out h)
  case c3 => rw [byteCells_length]; simp [zeros]; omega
  case c4 => exact byteCells_one _
  intro wb a1 a2 a3
  have B1 : Hid (blockIs wb (wx.heap.size + 1) (cells8 (padF K 0 0) 64) 108) := Lib.hid (by have := a1.out; rwa [splice_zeros K hK64] at this)
  have A1 := Lib.hid (a2.out.is A1.out (by omega))
  have FW : Hid (Below wx.heap.size wx wb) := Lib.hid (FW.out.trans (a2.out.below (by omega) (by rw [FS.out]; omega)))
  have FS : Hid (wb.heap.size = wx.heap.size + 2) := Lib.hid (by have := a3.out; have := FS.out; simp at *; omega)
  clear a1 a2 a3 FB FC
  go_wp2_with fail
  go_loopw [21, 6] (fun i _ wr => ∃ k : Nat, k ≤ 64 ∧ i = .int .i64 k ∧ blockIs wr wx.heap.size (cells8 (padF K 0x36 k) 64) 108 ∧ blockIs wr (wx.heap.size + 1) (cells8 (padF K 0x5c k) 64) 108 ∧ Below wx.heap.size wx wr ∧ wr.heap.size = wx.heap.size + 2) (fun i _ _ => 64 - (intOf i).toNat)
  case atStart => exact ⟨0, by omega, rfl, A1.out, B1.out, FW.out, FS.out⟩
  case round =>
    clear A1 B1 FW FS
    obtain ⟨k, hk, rfl, h1, h2, h3, h4⟩ := hrel
    by_cases hlt : k < 64
    · have c1 : wr.cell? ⟨wx.heap.size, k, none⟩ = some (.int .u8 (V (K.getD k 0))) := by
        rw [h1.cell, cells8_get _ _ _ hlt]; unfold padF; rw [if_neg (by omega)]
      have c2 : wr.cell? ⟨wx.heap.size + 1, k, none⟩ = some (.int .u8 (V (K.getD k 0))) := by
        rw [h2.cell, cells8_get _ _ _ hlt]; unfold padF; rw [if_neg (by omega)]
      have c3 : wr.frozen? ⟨wx.heap.size, k, none⟩ = false := h1.free _
      have c4 : wr.frozen? ⟨wx.heap.size + 1, k, none⟩ = false := h2.free _
      have n1 := ((h1.set k (.int .u8 (V (K.getD k 0 ^^^ 0x36)))).other ⟨wx.heap.size + 1, k, none⟩ (.int .u8 (V (K.getD k 0 ^^^ 0x5c))) (by simp))
      have n2 := (h2.other ⟨wx.heap.size, k, none⟩ (.int .u8 (V (K.getD k 0 ^^^ 0x36))) (by simp)).set k (.int .u8 (V (K.getD k 0 ^^^ 0x5c)))
      rw [padF_succ _ _ _ hlt] at n1 n2
      have N1 := Lib.hid n1
      have N2 := Lib.hid n2
      have H3 := Lib.hid h3
      have H4 := Lib.hid h4
      clear h1 h2 h3 h4 n1 n2
      have p : 0 ≤ (k : Int) := by omega
      have q : (k : Int) < 64 := by omega
      generalize K.getD k 0 = x at *
      go_wp2_with fail
      go_roundw
      case rel => exact ⟨k + 1, by omega, by go_num, N1.out, N2.out, (H3.out.setCell (Nat.le_refl _) _).setCell (by simp) _, by simpa [World.setCell] using H4.out⟩
      case measure => simp [intOf]; omega
    · as_aux_lemma =>
        obtain rfl : k = 64 := by omega
        rw [show ((64 : Nat) : Int) = 64 from rfl]
        rw [padF_all] at h1 h2
        have hB : Below w.heap.size w wr := XB.out.trans (h3.mono XB.out.size)
        have htab : tables wr := HT.out.below hB HT.out.2.2.1 HT.out.2.2.2
        have s0 : wr.cell? ⟨0, 0, none⟩ = some (.int .u32 (U init.a)) := htab.2.1 0 _ rfl
        have s1 : wr.cell? ⟨0, 1, none⟩ = some (.int .u32 (U init.b)) := htab.2.1 1 _ rfl
        have s2 : wr.cell? ⟨0, 2, none⟩ = some (.int .u32 (U init.c)) := htab.2.1 2 _ rfl
        have s3 : wr.cell? ⟨0, 3, none⟩ = some (.int .u32 (U init.d)) := htab.2.1 3 _ rfl
        have s4 : wr.cell? ⟨0, 4, none⟩ = some (.int .u32 (U init.e)) := htab.2.1 4 _ rfl
        have s5 : wr.cell? ⟨0, 5, none⟩ = some (.int .u32 (U init.f)) := htab.2.1 5 _ rfl
        have s6 : wr.cell? ⟨0, 6, none⟩ = some (.int .u32 (U init.g)) := htab.2.1 6 _ rfl
        have s7 : wr.cell? ⟨0, 7, none⟩ = some (.int .u32 (U init.h)) := htab.2.1 7 _ rfl
        have Y1 := Lib.hid h1
        have Y2 := Lib.hid h2
        have Y3 := Lib.hid hB
        have Y4 := Lib.hid h4
        have Y5 : Hid (blockIs wr w.heap.size zeroTwo 136) := Lib.hid (X0.out.below h3 X0.out.lt)
        have Y6 := Lib.hid htab
        have Y7 := Lib.hid X0.out.lt
        clear h1 h2 h3 h4 hB htab hk hlt hz48
        have hz54 := zero54
        go_wp2_with (first | (refine wpList_build rfl 134 _ rfl _ _ (build50 _) rfl ?_) | (refine wpList_build rfl 136 _ rfl _ _ (build54 _) rfl ?_) | (refine wpList_store_block rfl 136 _ _ rfl wr.heap.size 0 startTwo rfl rfl zeroTwo 136 (blockIs.new wr _ _) (by rw [info54, ← len_two.2.2.1, len_two.2.2.2]) len_two.2.1 two_one ?_))
        intro wc a1 a2 a3
        have a1 := a1.out
        rw [splice_all _ _ len_two.2.2.1] at a1
        have hpl : ∀ x, (padKey K x).length = 64 := fun x => by simp [padKey]
        have Z1 : Hid (runIs wc wr.heap.size [] startRun 136 []) := Lib.hid (start_two a1)
        have Z2 : Hid (blockIs wc wx.heap.size (byteCells (padKey K 0x36)) 108) := Lib.hid (a2.out.is (Y1.out.alloc _) (by have := Y4.out; omega))
        have Z3 : Hid (blockIs wc (wx.heap.size + 1) (byteCells (padKey K 0x5c)) 108) := Lib.hid (a2.out.is (Y2.out.alloc _) (by have := Y4.out; omega))
        have hwg : w.heap.size < wr.heap.size := by have := Y4.out; have := Y7.out; omega
        have Z4 : Hid (Below w.heap.size w wc) := Lib.hid ((Y3.out.alloc Y3.out.size (.cells zeroTwo.toArray 136 (0, 0))).trans (a2.out.below (by omega) (by simp; omega)))
        have Z5 : Hid (blockIs wc w.heap.size zeroTwo 136) := Lib.hid (a2.out.is (Y5.out.alloc _) (by omega))
        have Z6 : Hid (tables wc) := Lib.hid (HT.out.below Z4.out HT.out.2.2.1 HT.out.2.2.2)
        have hg1 := HT.out.2.2.1
        have hab : wx.heap.size + 2 = wr.heap.size := Y4.out.symm
        have ht1 := take_any wr.heap.size 64 (some ⟨wx.heap.size, 0, none⟩) [] startRun 136 [] (padKey K 0x36) wc (by rw [hpl]; omega) (by omega) (by rw [hpl]; simp) Z1.out (Or.inr ⟨_, _, rfl, by omega, fun j hj => by
          rw [Nat.zero_add, Z2.out.cell]
          exact byteCells_get _ _ hj⟩) Z6.out.1 (by omega)
        rw [hpl] at ht1
        simp only [List.nil_append] at ht1
        have HT1 := Lib.hid ht1
        have HPL := Lib.hid hpl
        have HWG := Lib.hid hwg
        have HAB := Lib.hid hab
        clear a1 a2 a3 ht1 hpl hwg hab s0 s1 s2 s3 s4 s5 s6 s7 Y1 Y2 Y3 Y4 Y5 Y6 Z1 Z2 hz54
        go_wp2_with fail
        refine HT1.out.mono ?_
        clear HT1
        rintro e wd ⟨rfl, ⟨p1, q1, q2, q3⟩, k2⟩
        have hab := HAB.out
        have hwg := HWG.out
        have M3 : Hid (blockIs wd (wx.heap.size + 1) (byteCells (padKey K 0x5c)) 108) := Lib.hid (k2.is Z3.out (by omega))
        have M4 : Hid (Below w.heap.size w wd) := Lib.hid (Z4.out.trans (k2.below (by omega) Z4.out.size))
        have M5 : Hid (blockIs wd w.heap.size zeroTwo 136) := Lib.hid (k2.is Z5.out (by omega))
        have M6 : Hid (tables wd) := Lib.hid (HT.out.below M4.out HT.out.2.2.1 HT.out.2.2.2)
        have h73 : (runCells (regAfter (padKey K 0x36)) p1 (padKey K 0x36).length).length = 73 := runCells_length _ _ _ q1
        have ht2 := take_any wr.heap.size 64 (some ⟨wx.heap.size + 1, 0, none⟩) (runCells (regAfter (padKey K 0x36)) p1 (padKey K 0x36).length) [] 136 [] (padKey K 0x5c) wd (by rw [HPL.out]; omega) (by omega) (by rw [HPL.out]; simp) (start_second (by rw [List.nil_append] at q3; exact q3)) (Or.inr ⟨_, _, rfl, by omega, fun j hj => by
          rw [Nat.zero_add, M3.out.cell]
          exact byteCells_get _ _ hj⟩) M6.out.1 (by omega)
        rw [h73, HPL.out] at ht2
        simp only [List.nil_append] at ht2
        have HT2 := Lib.hid ht2
        have Q1 := Lib.hid q1
        clear ht2 q1 q2 q3 k2 h73 hab hwg Z3 Z4 Z5 Z6
        go_wp2_with fail
        refine HT2.out.mono ?_
        clear HT2
        rintro e we ⟨rfl, ⟨p2, r1, r2, r3⟩, k2⟩
        have hwg := HWG.out
        have N4 : Hid (Below w.heap.size w we) := Lib.hid (M4.out.trans (k2.below (by omega) M4.out.size))
        have N5 : Hid (blockIs we w.heap.size zeroTwo 136) := Lib.hid (k2.is M5.out (by omega))
        have hrun : blockIs we wr.heap.size ([] ++ ((runCells (regAfter (padKey K 0x36)) p1 64 ++ runCells (regAfter (padKey K 0x5c)) p2 64) ++ [])) 136 := by
          have e1 : (padKey K 0x36).length = 64 := HPL.out _
          have e2 : (padKey K 0x5c).length = 64 := HPL.out _
          rw [e1, e2, List.append_nil] at r3
          rw [List.nil_append, List.append_nil]
          exact r3
        have N1 : Hid (we.rangeAt wr.heap.size 0 (runCells (regAfter (padKey K 0x36)) p1 64 ++ runCells (regAfter (padKey K 0x5c)) p2 64)) := Lib.hid (rangeAt_block hrun)
        have R1 := Lib.hid r1
        have hlen : (runCells (regAfter (padKey K 0x36)) p1 64 ++ runCells (regAfter (padKey K 0x5c)) p2 64).length = 146 := by
          rw [List.length_append, runCells_length _ _ _ Q1.out, runCells_length _ _ _ r1]
        have hone : ∀ v ∈ runCells (regAfter (padKey K 0x36)) p1 64 ++ runCells (regAfter (padKey K 0x5c)) p2 64, v.oneCell' = true := fun v hv => by
          rcases List.mem_append.1 hv with h | h
          · exact runCells_one _ _ _ v h
          · exact runCells_one _ _ _ v h
        have HLEN := Lib.hid hlen
        have HONE := Lib.hid hone
        clear k2 r1 r2 r3 hrun hlen hone M3 M4 M5 M6 hwg
        obtain ⟨C, hC⟩ : ∃ C, C = runCells (regAfter (padKey K 0x36)) p1 64 ++ runCells (regAfter (padKey K 0x5c)) p2 64 := ⟨_, rfl⟩
        rw [← hC] at N1 HLEN HONE
        have HC := Lib.hid hC
        clear hC
        go_wp2_with (first | (refine wpList_load_mid rfl 136 _ rfl wr.heap.size 0 rfl C _ N1.out Tryd.underlying136 rfl (by rw [info54, HLEN.out]) ?_) | (refine wpList_store_block rfl 136 _ _ rfl w.heap.size 0 C rfl rfl zeroTwo 136 N5.out (by rw [info54, HLEN.out]) (by rw [HLEN.out, len_two.2.2.2]; omega) HONE.out ?_))
        intro wf b1 b2 b3
        have b1 := b1.out
        rw [splice_all _ _ (by rw [HLEN.out, len_two.2.2.2])] at b1
        have B1 := Lib.hid b1
        have B2 := Lib.hid (N4.out.trans (b2.out.below (Nat.le_refl _) N4.out.size))
        clear b1 b2 b3
        go_wp2_with fail
        refine bodyPost_ret (v := .agg C.toArray) (results_cell_row rfl _ _ w.heap.size 136 _ (0, 0) _ rfl B1.out Tryd.underlying136 rfl (by rw [info54]; simp [HLEN.out])) rfl ?_
        exact ⟨p1, p2, Q1.out, R1.out, by rw [HC.out, HKS.out], B2.out⟩
end Go.Proofs.YtfhlcondnaahiaaDoor
end
section
/- sum.Keyed: the sum of parts by a key. And sum.Stretch. -/
namespace Go.Proofs.YtfhlcondnaahiaaDoor
open Go.RowKit Sha

theorem hmac_length (K l : List UInt8) : (hmac K l).length = 32 := rfl
set_option maxRecDepth 100000 in
set_option maxHeartbeats 1000000 in
/-- Keyed: HMAC. -/
theorem kf_any (a a2 : Option Addr) (c c2 : Nat) (K : List UInt8) (ls : List (List UInt8)) (w : World) (hKm : K.length ≤ 900000) (hKc : K.length ≤ c) (hcm : c ≤ 9223372036854775807) (hin : bytesIn w a K)
    (hl : ls.length ≤ 1000000) (hc : ls.length ≤ c2) (hm : ls.flatten.length ≤ 900000) (ht : tables w) (hp : partsIn w a2 ls) :
    Calls Tryd.prog 44 #[.slice a K.length c, .slice a2 ls.length c2] w fun e w' => e = .returned (.agg (byteCells (hmac K ls.flatten)).toArray) ∧ Below w.heap.size w w' := by
  have hz28 := zero28
  have D0 : Hid (blockIs (w.alloc (.cells (zeros 32).toArray 23 (0, 0))) w.heap.size (zeros 32) 23) := Lib.hid (blockIs.new w _ _)
  have B0 : Hid (Below w.heap.size w (w.alloc (.cells (zeros 32).toArray 23 (0, 0)))) := Lib.hid ((Below.refl _ _).alloc (Nat.le_refl _) _)
  have B1 : Hid (Below (w.alloc (.cells (zeros 32).toArray 23 (0, 0))).heap.size (w.alloc (.cells (zeros 32).toArray 23 (0, 0))) (w.alloc (.cells (zeros 32).toArray 23 (0, 0)))) := Lib.hid (Below.refl _ _)
  have S0 : Hid (w.heap.size + 1 = (w.alloc (.cells (zeros 32).toArray 23 (0, 0))).heap.size) := Lib.hid (by simp)
  have hbb : Below w.heap.size w (w.alloc (.cells (zeros 32).toArray 23 (0, 0))) := (Below.refl _ _).alloc (Nat.le_refl _) _
  have H1 := Lib.hid (hin.below hbb)
  have H2 := Lib.hid (hp.below hbb)
  have HT := Lib.hid ht
  have HT1 := Lib.hid (ht.below hbb ht.2.2.1 ht.2.2.2)
  clear hin hp ht hbb
  go_enter Tryd.func44, Tryd.ntmps44
  go_wp2_with fail
  generalize w.alloc (.cells (zeros 32).toArray 23 (0, 0)) = w1 at *
  with_reducible refine (ready_any a c K w1 hKm hKc hcm H1.out HT1.out).mono ?_
  rintro e w2 ⟨si, so, h1, h2, rfl, h3⟩
  have Z1 := Lib.hid h1
  have Z2 := Lib.hid h2
  have Z3 := Lib.hid h3
  clear h1 h2 h3
  have hks : ∀ x, (padKey (shortKey K) x).length = 64 := fun x => by simp [padKey]
  have HK := Lib.hid (keyed_any c2 a2 ls (padKey (shortKey K) 0x36) (padKey (shortKey K) 0x5c) si so w2 (hks _) (hks _) Z1.out Z2.out hl hc hm (HT1.out.below Z3.out HT1.out.2.2.1 HT1.out.2.2.2) (H2.out.below Z3.out))
  generalize runCells (regAfter (padKey (shortKey K) 0x36)) si 64 ++ runCells (regAfter (padKey (shortKey K) 0x5c)) so 64 = C at *
  clear hks hz28
  go_wp2_with fail
  with_reducible refine HK.out.mono ?_
  rintro e w3 ⟨rfl, h4⟩
  rw [show sha (padKey (shortKey K) 0x5c ++ sha (padKey (shortKey K) 0x36 ++ ls.flatten)) = hmac K ls.flatten from rfl]
  have D3 := Lib.hid ((D0.out.below Z3.out (by have := S0.out; omega)).below h4 (by have := S0.out; have := Z3.out.size; omega))
  have B3 := Lib.hid ((B0.out.trans (Z3.out.mono (by have := S0.out; omega))).trans (h4.mono (by have := S0.out; have := Z3.out.size; omega)))
  clear h4 HK
  have hlen := hmac_length K ls.flatten
  have HL := Lib.hid hlen
  clear hlen
  generalize hM : hmac K ls.flatten = M at *
  have HM := Lib.hid hM
  clear hM
  go_wp2_with (refine wpList_store_block rfl 23 _ _ rfl w.heap.size 0 (byteCells M) rfl rfl (zeros 32) 23 D3.out (by rw [info28, byteCells_length, HL.out]) (by simp [zeros, byteCells_length, HL.out]) (byteCells_one _) ?_)
  intro w6 h1 h2 h3
  have h1 := h1.out
  rw [splice_all _ _ (by simp [zeros, byteCells_length, HL.out])] at h1
  have H1 := Lib.hid h1
  have H2 := Lib.hid (B3.out.trans (h2.out.below (Nat.le_refl _) B3.out.size))
  clear h1 h2 h3
  go_wp2_with fail
  refine bodyPost_ret (v := .agg (byteCells M).toArray) (results_cell_row rfl _ _ w.heap.size 23 _ (0, 0) _ rfl H1.out Tryd.underlying23 rfl (by rw [info28]; simp [byteCells_length, HL.out])) rfl ?_
  exact ⟨by rw [HM.out], H2.out⟩
end Go.Proofs.YtfhlcondnaahiaaDoor
end
