/- (keyed).sum: a sum by a key that was taken already. -/
import Derived.Test.YtjemgniochjgmaaDoorOf
namespace Go.Proofs.YtjemgniochjgmaaDoor
open Go.RowKit Sha

theorem info54 : (Tryd.prog.info? 60).map (·.size) = some 146 := by kernel_rfl

/-- Two sums under way in one block. -/
def twoRuns (w : World) (b : Nat) (T : TypeId) (m n : List UInt8) : Prop :=
  ∃ s t : List UInt8, s.length = 64 ∧ t.length = 64 ∧ s.take (m.length % 64) = m.drop (m.length - m.length % 64) ∧ t.take (n.length % 64) = n.drop (n.length - n.length % 64) ∧
    blockIs w b (runCells (regAfter m) s m.length ++ runCells (regAfter n) t n.length) T
theorem twoRuns.first {w w' : World} {b : Nat} {T : TypeId} {m n l : List UInt8} (h : twoRuns w b T m n)
    (hk : ∀ post, runIs w b [] post T m → runIs w' b [] post T (m ++ l)) : twoRuns w' b T (m ++ l) n := by
  obtain ⟨s, t, h1, h2, h3, h4, h5⟩ := h
  obtain ⟨s', g1, g2, g3⟩ := hk (runCells (regAfter n) t n.length) ⟨s, h1, h3, h5⟩
  exact ⟨s', t, g1, h2, g2, h4, g3⟩

set_option maxRecDepth 100000 in
set_option maxHeartbeats 2000000 in
theorem keyed_any (c : Nat) (a : Option Addr) (ls : List (List UInt8)) (ik ok si so : List UInt8) (w : World) (hi : ik.length = 64) (ho : ok.length = 64) (hsi : si.length = 64) (hso : so.length = 64)
    (hl : ls.length ≤ 1000000) (_ : ls.length ≤ c) (hm : ls.flatten.length ≤ 900000) (ht : tables w) (hp : partsIn w a ls) :
    Calls Tryd.prog 19 #[.agg (runCells (regAfter ik) si 64 ++ runCells (regAfter ok) so 64).toArray, .slice a ls.length c] w fun e w' => e = .returned (.agg (byteCells (sha (ok ++ sha (ik ++ ls.flatten)))).toArray) ∧ Below w.heap.size w w' := by
  have F0 : Hid (blockIs (w.alloc (.cells (runCells (regAfter ik) si 64 ++ runCells (regAfter ok) so 64).toArray 60 (0, 0))) w.heap.size (runCells (regAfter ik) si 64 ++ runCells (regAfter ok) so 64) 60) := Lib.hid (blockIs.new _ _ _)
  obtain ⟨C, hC⟩ : ∃ C, C = runCells (regAfter ik) si 64 ++ runCells (regAfter ok) so 64 := ⟨_, rfl⟩
  rw [← hC] at F0 ⊢
  have HC := Lib.hid hC
  clear hC
  have hz3 := zero28
  have HT := Lib.hid ht
  have HP := Lib.hid hp
  have HM := Lib.hid hm
  have HI := Lib.hid hi
  have HO := Lib.hid ho
  clear ht hp hm hi ho
  go_enter Tryd.func19, Tryd.ntmps19
  go_wp2_with fail
  have G1 : Hid (twoRuns ((w.alloc (.cells C.toArray 60 (0, 0))).alloc (.cells (zeros 32).toArray 23 (0, 0))) w.heap.size 60 ik ok) := Lib.hid ⟨si, so, hsi, hso, by rw [HI.out]; simp; have := HI.out; omega, by rw [HO.out]; simp; have := HO.out; omega, by
    have := F0.out.alloc (.cells (zeros 32).toArray 23 (0, 0))
    rw [HI.out, HO.out, ← HC.out]
    exact this⟩
  have G2 : Hid (blockIs ((w.alloc (.cells C.toArray 60 (0, 0))).alloc (.cells (zeros 32).toArray 23 (0, 0))) (w.heap.size + 1) (zeros 32) 23) := Lib.hid (blockIs.last _ _ _ _ (by simp))
  have G3 : Hid (Below w.heap.size w ((w.alloc (.cells C.toArray 60 (0, 0))).alloc (.cells (zeros 32).toArray 23 (0, 0)))) := Lib.hid (((Below.refl _ w).alloc (Nat.le_refl _) _).alloc (by simp) _)
  generalize (w.alloc (.cells C.toArray 60 (0, 0))).alloc (.cells (zeros 32).toArray 23 (0, 0)) = w1 at *
  clear F0 hz3
  go_loopw [10, 6] (fun i _ wr => ∃ k : Nat, k ≤ ls.length ∧ i = .int .i64 k ∧ twoRuns wr w.heap.size 60 (ik ++ (ls.take k).flatten) ok ∧ But w.heap.size w1 wr) (fun i _ _ => ls.length - (intOf i).toNat)
  case atStart => exact ⟨0, by omega, rfl, by simpa using G1.out, But.refl _ _⟩
  case round =>
    obtain ⟨k, hk, rfl, h1, h2⟩ := hrel
    have hB : Below w.heap.size w wr := G3.out.trans (h2.below (Nat.le_refl _) G3.out.size)
    by_cases hlt : k < ls.length
    · rcases HP.out with h0 | ⟨pb, po, rfl, hpp⟩
      · simp [h0] at hlt
      obtain ⟨aj, cj, hcell, hlc, hcc, hin⟩ := hpp k hlt
      have cc : wr.cell? ⟨pb, po + k, none⟩ = some (.slice aj (ls.getD k []).length cj) := (hB.cell (p := ⟨pb, po + k, none⟩) (block_lt_of_cell hcell)).trans hcell
      have hmk := flatten_le2 ls k hlt
      have hin2 : bytesAt wr w.heap.size aj (ls.getD k []) := hin.at hB (Nat.le_refl _) (Nat.le_refl _)
      have HB := Lib.hid hB
      have H1 := Lib.hid h1
      have H2 := Lib.hid h2
      have HIN := Lib.hid hin2
      have HMK := Lib.hid hmk
      clear hB h1 h2 hin hin2 hmk hpp hcell
      have p : 0 ≤ (k : Int) := by omega
      have q : (k : Int) < (ls.length : Int) := by omega
      have hfl : Hid ((ls.take (k + 1)).flatten = (ls.take k).flatten ++ ls.getD k []) := Lib.hid (flatten_take _ _ hlt)
      generalize hL : ls.getD k [] = L at *
      clear hL
      go_wp2_with fail
      obtain ⟨s, t, g1, g2, g3, g4, g5⟩ := H1.out
      refine (take_any w.heap.size cj aj [] (runCells (regAfter ok) t ok.length) 60 (ik ++ (ls.take k).flatten) L wr hlc hcc (by have := HMK.out; have := HM.out; have := HI.out; rw [List.length_append]; omega) ⟨s, g1, g3, g5⟩ HIN.out (fun j hj => (HB.out.cell HT.out.2.2.1).trans (HT.out.1 j hj)) (by have := HT.out.2.2.1; omega)).mono ?_
      rintro e w3 ⟨rfl, ⟨s', e1, e2, e3⟩, k2⟩
      have K1 : Hid (twoRuns w3 w.heap.size 60 (ik ++ (ls.take (k + 1)).flatten) ok) := Lib.hid (by
        rw [hfl.out, ← List.append_assoc]
        exact ⟨s', t, e1, g2, e2, g4, e3⟩)
      have K2 := Lib.hid (H2.out.trans k2)
      clear g1 g2 g3 g4 g5 e1 e2 e3 k2
      go_wp2_with fail
      go_roundw
      case rel => exact ⟨k + 1, by omega, by go_num, K1.out, K2.out⟩
      case measure => simp [intOf]; omega
    · rw [List.take_of_length_le (by omega)] at h1
      generalize hMM : ls.flatten = M at *
      have HMM := Lib.hid hMM
      clear hMM
      obtain ⟨s, t, g1, g2, g3, g4, g5⟩ := h1
      have hmm : (ik ++ M).length ≤ 1000000 := by have := HM.out; have := HI.out; rw [List.length_append]; omega
      have R1 : Hid (wr.rangeAt w.heap.size 0 (runCells (regAfter (ik ++ M)) s (ik ++ M).length)) := Lib.hid (rangeAt_block (p := []) g5)
      have R2 : Hid (blockIs wr (w.heap.size + 1) (zeros 32) 23) := Lib.hid (h2.is G2.out (by omega))
      have R5 := Lib.hid g5
      have HB := Lib.hid hB
      have S1 := Lib.hid g1
      have S2 := Lib.hid g2
      have S3 := Lib.hid g3
      have S4 := Lib.hid g4
      have H73 : Hid ((runCells (regAfter (ik ++ M)) s (ik ++ M).length).length = 73) := Lib.hid (runCells_length _ _ _ g1)
      have HMMM := Lib.hid hmm
      clear h2 hB g1 g2 g3 g4 g5 hmm
      generalize hIM : ik ++ M = IM at *
      have HIM := Lib.hid hIM
      clear hIM
      go_wp2_with (refine wpList_load_mid rfl 58 _ rfl w.heap.size 0 rfl (runCells (regAfter IM) s IM.length) _ R1.out Tryd.underlying58 rfl (by rw [info50, H73.out]) ?_)
      refine (end_any IM s wr HMMM.out S1.out S3.out (fun j hj => (HB.out.cell HT.out.2.2.1).trans (HT.out.1 j hj)) (Nat.lt_of_lt_of_le HT.out.2.2.1 HB.out.size)).mono ?_
      rintro e w5 ⟨rfl, k1⟩
      have K1 := Lib.hid k1
      clear k1
      have hz3 := zero28
      go_wp2_with (refine wpList_store_block rfl 23 _ _ rfl w5.heap.size 0 (byteCells (sha IM)) rfl rfl (zeros 32) 23 (blockIs.new w5 _ _) (by rw [info28, byteCells_length, sha_length]) (by simp [zeros, byteCells_length, sha_length]) (byteCells_one _) ?_)
      intro w6 h1 h2 h3
      have h1 := h1.out
      rw [splice_all _ _ (by simp [zeros, byteCells_length, sha_length])] at h1
      have h2 := h2.out
      have hs5 : w.heap.size + 1 < w5.heap.size := Nat.lt_of_lt_of_le R2.out.lt K1.out.size
      have hB6 : Below wr.heap.size wr w6 := (K1.out.alloc K1.out.size (.cells (zeros 32).toArray 23 (0, 0))).trans (h2.below K1.out.size (by simp; have := K1.out.size; omega))
      have L1 : Hid (blockIs w6 w.heap.size (runCells (regAfter IM) s IM.length ++ runCells (regAfter ok) t ok.length) 60) := Lib.hid (R5.out.below hB6 R5.out.lt)
      have L2 : Hid (blockIs w6 (w.heap.size + 1) (zeros 32) 23) := Lib.hid (R2.out.below hB6 R2.out.lt)
      have L3 : Hid (Below w.heap.size w w6) := Lib.hid (HB.out.trans (hB6.mono HB.out.size))
      have L4 : Hid (bytesAt w6 w.heap.size (some ⟨w5.heap.size, 0, none⟩) (sha IM)) := Lib.hid (Or.inr ⟨_, _, rfl, by omega, fun j hj => by
        rw [Nat.zero_add, h1.cell]
        exact byteCells_get _ _ hj⟩)
      have hlsha : (sha IM).length = 32 := sha_length _
      have htk := take_any w.heap.size 32 (some ⟨w5.heap.size, 0, none⟩) (runCells (regAfter IM) s IM.length) [] 60 ok (sha IM) w6 (by rw [hlsha]; omega) (by omega) (by have := HO.out; rw [hlsha]; omega) ⟨t, S2.out, S4.out, by simpa using L1.out⟩ L4.out (fun j hj => (L3.out.cell HT.out.2.2.1).trans (HT.out.1 j hj)) (by have := HT.out.2.2.1; omega)
      rw [H73.out, hlsha] at htk
      have HTK := Lib.hid htk
      clear h1 h2 h3 hB6 R1 R2 R5 K1 hz3 htk hlsha
      go_wp2_with fail
      refine HTK.out.mono ?_
      clear HTK
      rintro e w7 ⟨rfl, ⟨s7, e1, e2, e3⟩, k2⟩
      have hol : (ok ++ sha IM).length ≤ 1000000 := by rw [List.length_append, sha_length, HO.out]; omega
      have Q1 : Hid (w7.rangeAt w.heap.size 73 (runCells (regAfter (ok ++ sha IM)) s7 (ok ++ sha IM).length)) := Lib.hid (by
        have := rangeAt_block e3
        rwa [H73.out] at this)
      have Q2 : Hid (blockIs w7 (w.heap.size + 1) (zeros 32) 23) := Lib.hid (k2.is L2.out (by omega))
      have Q3 : Hid (Below w.heap.size w w7) := Lib.hid (L3.out.trans (k2.below (Nat.le_refl _) L3.out.size))
      have Q4 := Lib.hid e1
      have Q5 := Lib.hid e2
      have Q6 : Hid ((runCells (regAfter (ok ++ sha IM)) s7 (ok ++ sha IM).length).length = 73) := Lib.hid (runCells_length _ _ _ e1)
      have HOL := Lib.hid hol
      clear e1 e2 e3 k2 hol L1 L2 L3 L4
      generalize hOM : ok ++ sha IM = OM at *
      have HOM := Lib.hid hOM
      clear hOM
      go_wp2_with (refine wpList_load_mid rfl 58 _ rfl w.heap.size 73 rfl (runCells (regAfter OM) s7 OM.length) _ Q1.out Tryd.underlying58 rfl (by rw [info50, Q6.out]) ?_)
      refine (end_any OM s7 w7 HOL.out Q4.out Q5.out (fun j hj => (Q3.out.cell HT.out.2.2.1).trans (HT.out.1 j hj)) (Nat.lt_of_lt_of_le HT.out.2.2.1 Q3.out.size)).mono ?_
      rintro e w8 ⟨rfl, k1⟩
      have Z1 : Hid (blockIs w8 (w.heap.size + 1) (zeros 32) 23) := Lib.hid (Q2.out.below k1 Q2.out.lt)
      have Z2 := Lib.hid (Q3.out.trans (k1.mono Q3.out.size))
      clear k1 Q1 Q2 Q3
      go_wp2_with (refine wpList_store_block rfl 23 _ _ rfl (w.heap.size + 1) 0 (byteCells (sha OM)) rfl rfl (zeros 32) 23 Z1.out (by rw [info28, byteCells_length, sha_length]) (by simp [zeros, byteCells_length, sha_length]) (byteCells_one _) ?_)
      intro w9 h1 h2 h3
      have h1 := h1.out
      rw [splice_all _ _ (by simp [zeros, byteCells_length, sha_length])] at h1
      have H1 := Lib.hid h1
      have H2 := Lib.hid (Z2.out.trans (h2.out.below (by omega) Z2.out.size))
      clear h1 h2 h3
      go_wp2_with fail
      refine bodyPost_ret (v := .agg (byteCells (sha OM)).toArray) (results_cell_row rfl _ _ (w.heap.size + 1) 23 _ (0, 0) _ rfl H1.out Tryd.underlying23 rfl (by rw [info28]; simp [byteCells_length, sha_length])) rfl ?_
      exact ⟨by rw [HMM.out, HIM.out, HOM.out], H2.out⟩
end Go.Proofs.YtjemgniochjgmaaDoor
