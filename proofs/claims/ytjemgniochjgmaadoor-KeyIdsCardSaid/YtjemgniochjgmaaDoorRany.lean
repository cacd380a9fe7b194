/- sum.ready: a key of any length is taken. -/
import Derived.Test.YtjemgniochjgmaaDoorReady
import Derived.Deep.DeepCutAuto
namespace Go.Proofs.YtjemgniochjgmaaDoor
open Go.RowKit Sha
attribute [local go_sem] V_x36 V_x5c

set_option maxRecDepth 100000 in
set_option maxHeartbeats 2000000 in
/-- ready: a key of any length. -/
theorem ready_any (a : Option Addr) (c : Nat) (K0 : List UInt8) (w : World) (hKm : K0.length ≤ 900000) (hKc : K0.length ≤ c) (hcm : c ≤ 9223372036854775807) (hin : bytesIn w a K0) (ht : tables w) :
    Calls Tryd.prog 18 #[.slice a K0.length c] w fun e w' => ∃ si so : List UInt8, si.length = 64 ∧ so.length = 64 ∧ e = .returned (.agg (runCells (regAfter (padKey (shortKey K0) 0x36)) si 64 ++ runCells (regAfter (padKey (shortKey K0) 0x5c)) so 64).toArray) ∧ Below w.heap.size w w' := by
  have hz54 := zero54
  have X0 : Hid (blockIs (w.alloc (.cells zeroTwo.toArray 60 (0, 0))) w.heap.size zeroTwo 60) := Lib.hid (blockIs.new _ _ _)
  have XI : Hid (bytesIn (w.alloc (.cells zeroTwo.toArray 60 (0, 0))) a K0) := Lib.hid (hin.below ((Below.refl _ _).alloc (Nat.le_refl _) _))
  have XB : Hid (Below w.heap.size w (w.alloc (.cells zeroTwo.toArray 60 (0, 0)))) := Lib.hid ((Below.refl _ _).alloc (Nat.le_refl _) _)
  have HT := Lib.hid ht
  clear ht hin
  go_enter Tryd.func18, Tryd.ntmps18
  go_upto_if 10 with fail
  have XS : Hid (w.heap.size + 1 = (w.alloc (.cells zeroTwo.toArray 60 (0, 0))).heap.size) := Lib.hid (by simp)
  generalize w.alloc (.cells zeroTwo.toArray 60 (0, 0)) = w1 at *
  clear hz54
  go_cut [0] (fun v wx => ∃ (a' : Option Addr) (c' : Nat), v = .slice a' (shortKey K0).length c' ∧ (shortKey K0).length ≤ c' ∧ Hid (bytesIn wx a' (shortKey K0)) ∧ Hid (blockIs wx w.heap.size zeroTwo 60) ∧ Hid (Below w.heap.size w wx))
  case first =>
    by_cases h64 : K0.length ≤ 64
    · have hk1 : (K0.length : Int) ≤ 64 := by omega
      have hs : Hid (shortKey K0 = K0) := Lib.hid (if_neg (by omega))
      go_wp2_with fail
      go_meet
      case rel => exact ⟨a, c, by rw [hs.out], by rw [hs.out]; exact hKc, by rw [hs.out]; exact XI, X0, XB⟩
    · have hk1 : 64 < (K0.length : Int) := by omega
      have hs : Hid (shortKey K0 = sha K0) := Lib.hid (if_pos (by omega))
      have hz28 := zero28
      go_wp2_with fail
      have htab : tables (w1.alloc (.cells #[.slice a K0.length c] 22 (0, 0))) := HT.out.below (XB.out.alloc (by have := XS.out; omega) _) HT.out.2.2.1 HT.out.2.2.2
      have hbl : blockIs (w1.alloc (.cells #[.slice a K0.length c] 22 (0, 0))) w1.heap.size [.slice a K0.length c] 22 := blockIs.new w1 [.slice a K0.length c] 22
      have hp : partsIn (w1.alloc (.cells #[.slice a K0.length c] 22 (0, 0))) (some ⟨w1.heap.size, 0, none⟩) [K0] := by
        refine Or.inr ⟨_, _, rfl, fun j hj => ?_⟩
        match j, hj with
        | 0, _ => exact ⟨a, c, by rw [hbl.cell]; rfl, hKc, hcm, XI.out.below ((Below.refl _ _).alloc (Nat.le_refl _) _)⟩
      have hof := of_any 1 (some ⟨w1.heap.size, 0, none⟩) [K0] _ (by simp) (by simp) (by simp; omega) htab hp
      rw [show [K0].flatten = K0 by simp, show [K0].length = 1 from rfl] at hof
      have HOF := Lib.hid hof
      clear htab hbl hp hof
      with_reducible refine HOF.out.mono ?_
      rintro e w2 ⟨rfl, k2⟩
      have K2 : Hid (Below w1.heap.size w1 w2) := Lib.hid (((Below.refl _ _).alloc (Nat.le_refl _) _).trans (k2.mono (by simp)))
      have D0 : Hid (blockIs (w2.alloc (.cells (zeros 32).toArray 23 (0, 0))) w2.heap.size (zeros 32) 23) := Lib.hid (blockIs.new w2 _ _)
      clear k2 HOF
      go_wp2_with (refine wpList_store_block rfl 23 _ _ rfl w2.heap.size 0 (byteCells (sha K0)) rfl rfl (zeros 32) 23 D0.out (by rw [info28, byteCells_length, sha_length]) (by simp [zeros, byteCells_length, sha_length]) (byteCells_one _) ?_)
      intro w3 h1 h2 h3
      have h1 := h1.out
      rw [splice_all _ _ (by simp [zeros, byteCells_length, sha_length])] at h1
      have H1 := Lib.hid h1
      have hsz := XS.out
      have B12 : Below w1.heap.size w1 (w2.alloc (.cells (zeros 32).toArray 23 (0, 0))) := K2.out.alloc K2.out.size _
      have B13 : Below w1.heap.size w1 w3 := B12.trans (h2.out.below K2.out.size (by simp; have := K2.out.size; omega))
      have HB := Lib.hid B13
      clear h1 h2 h3 hz28 B12 B13
      go_wp2_with fail
      go_meet
      case rel =>
        refine ⟨some ⟨w2.heap.size, 0, none⟩, 32, by rw [hs.out]; rfl, by rw [hs.out]; exact Nat.le_refl _, ?_, Lib.hid (X0.out.below HB.out (by omega)), Lib.hid (XB.out.trans (HB.out.mono (by omega)))⟩
        rw [hs.out]
        refine Lib.hid (Or.inr ⟨_, _, rfl, fun j hj => ?_⟩)
        rw [Nat.zero_add, H1.out.cell]
        exact byteCells_get _ _ hj
  clear XI X0 XB hKc hcm hKm XS
  obtain ⟨a', c', rfl, hKc, XI, X0, XB⟩ := hcut
  have hK64 : (shortKey K0).length ≤ 64 := by
    unfold shortKey
    split
    · rw [sha_length]; omega
    · omega
  have hk1 : ((shortKey K0).length : Int) ≤ 64 := by omega
  generalize hks : shortKey K0 = K at *
  have HKS := Lib.hid hks
  clear hks
  generalize wc = wx at *
  go_upto_region 4 with fail

  have hz48 := zero48
  have FA : Hid (blockIs ((wx.alloc (.cells (zeros 64).toArray 56 (0, 0))).alloc (.cells (zeros 64).toArray 56 (0, 0))) wx.heap.size (zeros 64) 56) := Lib.hid ((blockIs.new wx _ _).alloc _)
  have FB : Hid (blockIs ((wx.alloc (.cells (zeros 64).toArray 56 (0, 0))).alloc (.cells (zeros 64).toArray 56 (0, 0))) (wx.heap.size + 1) (zeros 64) 56) := Lib.hid (blockIs.last _ _ _ _ (by simp))
  have FW : Hid (Below wx.heap.size wx ((wx.alloc (.cells (zeros 64).toArray 56 (0, 0))).alloc (.cells (zeros 64).toArray 56 (0, 0)))) := Lib.hid (((Below.refl _ _).alloc (Nat.le_refl _) _).alloc (by simp) _)
  have FS : Hid (((wx.alloc (.cells (zeros 64).toArray 56 (0, 0))).alloc (.cells (zeros 64).toArray 56 (0, 0))).heap.size = wx.heap.size + 2) := Lib.hid (by simp)
  have FC := Lib.hid (XI.out.below FW.out)
  go_wp2_with (refine wpList_copy_but rfl _ _ 22 22 rfl 5 Tryd.underlying22 size5 _ _ _ _ _ _ rfl rfl wx.heap.size 0 (zeros 64) 56 FA.out (byteCells K) ?c1 ?c2 ?c3 ?c4 ?_)
  case c1 => rw [byteCells_length]; simp [Nat.min_def]; omega
  case c2 => exact fun h => by simpa using (bytesIn.cells FC.out h)
  case c3 => rw [byteCells_length]; simp [zeros]; omega
  case c4 => exact byteCells_one _
  intro wa a1 a2 a3
  have A1 : Hid (blockIs wa wx.heap.size (cells8 (padF K 0 0) 64) 56) := Lib.hid (by have := a1.out; rwa [splice_zeros K hK64] at this)
  have FB := Lib.hid (a2.out.is FB.out (by omega))
  have FW : Hid (Below wx.heap.size wx wa) := Lib.hid (FW.out.trans (a2.out.below (Nat.le_refl _) (by rw [FS.out]; omega)))
  have FS : Hid (wa.heap.size = wx.heap.size + 2) := Lib.hid (by have := a3.out; have := FS.out; simp at *; omega)
  have FC := Lib.hid (XI.out.below FW.out)
  clear a1 a2 a3 FA
  go_wp2_with (refine wpList_copy_but rfl _ _ 22 22 rfl 5 Tryd.underlying22 size5 _ _ _ _ _ _ rfl rfl (wx.heap.size + 1) 0 (zeros 64) 56 FB.out (byteCells K) ?c1 ?c2 ?c3 ?c4 ?_)
  case c1 => rw [byteCells_length]; simp [Nat.min_def]; omega
  case c2 => exact fun h => by simpa using (bytesIn.cells FC.out h)
  case c3 => rw [byteCells_length]; simp [zeros]; omega
  case c4 => exact byteCells_one _
  intro wb a1 a2 a3
  have B1 : Hid (blockIs wb (wx.heap.size + 1) (cells8 (padF K 0 0) 64) 56) := Lib.hid (by have := a1.out; rwa [splice_zeros K hK64] at this)
  have A1 := Lib.hid (a2.out.is A1.out (by omega))
  have FW : Hid (Below wx.heap.size wx wb) := Lib.hid (FW.out.trans (a2.out.below (by omega) (by rw [FS.out]; omega)))
  have FS : Hid (wb.heap.size = wx.heap.size + 2) := Lib.hid (by have := a3.out; have := FS.out; simp at *; omega)
  clear a1 a2 a3 FB FC
  go_wp2_with fail
  go_loopw [21, 6] (fun i _ wr => ∃ k : Nat, k ≤ 64 ∧ i = .int .i64 k ∧ blockIs wr wx.heap.size (cells8 (padF K 0x36 k) 64) 56 ∧ blockIs wr (wx.heap.size + 1) (cells8 (padF K 0x5c k) 64) 56 ∧ Below wx.heap.size wx wr ∧ wr.heap.size = wx.heap.size + 2) (fun i _ _ => 64 - (intOf i).toNat)
  case atStart => exact ⟨0, by omega, rfl, A1.out, B1.out, FW.out, FS.out⟩
  case round =>
    clear A1 B1 FW FS
    obtain ⟨k, hk, rfl, h1, h2, h3, h4⟩ := hrel
    by_cases hlt : k < 64
    · have c1 : wr.cell? ⟨wx.heap.size, k, none⟩ = some (.int .u8 (V (K.getD k 0))) := by
        rw [h1.cell, cells8_get _ _ _ hlt]; unfold padF; rw [if_neg (by omega)]
      have c2 : wr.cell? ⟨wx.heap.size + 1, k, none⟩ = some (.int .u8 (V (K.getD k 0))) := by
        rw [h2.cell, cells8_get _ _ _ hlt]; unfold padF; rw [if_neg (by omega)]
      have c3 : wr.frozen? ⟨wx.heap.size, k, none⟩ = false := h1.free _
      have c4 : wr.frozen? ⟨wx.heap.size + 1, k, none⟩ = false := h2.free _
      have n1 := ((h1.set k (.int .u8 (V (K.getD k 0 ^^^ 0x36)))).other ⟨wx.heap.size + 1, k, none⟩ (.int .u8 (V (K.getD k 0 ^^^ 0x5c))) (by simp))
      have n2 := (h2.other ⟨wx.heap.size, k, none⟩ (.int .u8 (V (K.getD k 0 ^^^ 0x36))) (by simp)).set k (.int .u8 (V (K.getD k 0 ^^^ 0x5c)))
      rw [padF_succ _ _ _ hlt] at n1 n2
      have N1 := Lib.hid n1
      have N2 := Lib.hid n2
      have H3 := Lib.hid h3
      have H4 := Lib.hid h4
      clear h1 h2 h3 h4 n1 n2
      have p : 0 ≤ (k : Int) := by omega
      have q : (k : Int) < 64 := by omega
      generalize K.getD k 0 = x at *
      go_wp2_with fail
      go_roundw
      case rel => exact ⟨k + 1, by omega, by go_num, N1.out, N2.out, (H3.out.setCell (Nat.le_refl _) _).setCell (by simp) _, by simpa [World.setCell] using H4.out⟩
      case measure => simp [intOf]; omega
    · as_aux_lemma =>
        obtain rfl : k = 64 := by omega
        rw [show ((64 : Nat) : Int) = 64 from rfl]
        rw [padF_all] at h1 h2
        have hB : Below w.heap.size w wr := XB.out.trans (h3.mono XB.out.size)
        have htab : tables wr := HT.out.below hB HT.out.2.2.1 HT.out.2.2.2
        have s0 : wr.cell? ⟨0, 0, none⟩ = some (.int .u32 (U init.a)) := htab.2.1 0 _ rfl
        have s1 : wr.cell? ⟨0, 1, none⟩ = some (.int .u32 (U init.b)) := htab.2.1 1 _ rfl
        have s2 : wr.cell? ⟨0, 2, none⟩ = some (.int .u32 (U init.c)) := htab.2.1 2 _ rfl
        have s3 : wr.cell? ⟨0, 3, none⟩ = some (.int .u32 (U init.d)) := htab.2.1 3 _ rfl
        have s4 : wr.cell? ⟨0, 4, none⟩ = some (.int .u32 (U init.e)) := htab.2.1 4 _ rfl
        have s5 : wr.cell? ⟨0, 5, none⟩ = some (.int .u32 (U init.f)) := htab.2.1 5 _ rfl
        have s6 : wr.cell? ⟨0, 6, none⟩ = some (.int .u32 (U init.g)) := htab.2.1 6 _ rfl
        have s7 : wr.cell? ⟨0, 7, none⟩ = some (.int .u32 (U init.h)) := htab.2.1 7 _ rfl
        have Y1 := Lib.hid h1
        have Y2 := Lib.hid h2
        have Y3 := Lib.hid hB
        have Y4 := Lib.hid h4
        have Y5 : Hid (blockIs wr w.heap.size zeroTwo 60) := Lib.hid (X0.out.below h3 X0.out.lt)
        have Y6 := Lib.hid htab
        have Y7 := Lib.hid X0.out.lt
        clear h1 h2 h3 h4 hB htab hk hlt hz48
        have hz54 := zero54
        go_wp2_with (first | (refine wpList_build rfl 58 _ rfl _ _ (build50 _) rfl ?_) | (refine wpList_build rfl 60 _ rfl _ _ (build54 _) rfl ?_) | (refine wpList_store_block rfl 60 _ _ rfl wr.heap.size 0 startTwo rfl rfl zeroTwo 60 (blockIs.new wr _ _) (by rw [info54, ← len_two.2.2.1, len_two.2.2.2]) len_two.2.1 two_one ?_))
        intro wc a1 a2 a3
        have a1 := a1.out
        rw [splice_all _ _ len_two.2.2.1] at a1
        have hpl : ∀ x, (padKey K x).length = 64 := fun x => by simp [padKey]
        have Z1 : Hid (runIs wc wr.heap.size [] startRun 60 []) := Lib.hid (start_two a1)
        have Z2 : Hid (blockIs wc wx.heap.size (byteCells (padKey K 0x36)) 56) := Lib.hid (a2.out.is (Y1.out.alloc _) (by have := Y4.out; omega))
        have Z3 : Hid (blockIs wc (wx.heap.size + 1) (byteCells (padKey K 0x5c)) 56) := Lib.hid (a2.out.is (Y2.out.alloc _) (by have := Y4.out; omega))
        have hwg : w.heap.size < wr.heap.size := by have := Y4.out; have := Y7.out; omega
        have Z4 : Hid (Below w.heap.size w wc) := Lib.hid ((Y3.out.alloc Y3.out.size (.cells zeroTwo.toArray 60 (0, 0))).trans (a2.out.below (by omega) (by simp; omega)))
        have Z5 : Hid (blockIs wc w.heap.size zeroTwo 60) := Lib.hid (a2.out.is (Y5.out.alloc _) (by omega))
        have Z6 : Hid (tables wc) := Lib.hid (HT.out.below Z4.out HT.out.2.2.1 HT.out.2.2.2)
        have hg1 := HT.out.2.2.1
        have hab : wx.heap.size + 2 = wr.heap.size := Y4.out.symm
        have ht1 := take_any wr.heap.size 64 (some ⟨wx.heap.size, 0, none⟩) [] startRun 60 [] (padKey K 0x36) wc (by rw [hpl]; omega) (by omega) (by rw [hpl]; simp) Z1.out (Or.inr ⟨_, _, rfl, by omega, fun j hj => by
          rw [Nat.zero_add, Z2.out.cell]
          exact byteCells_get _ _ hj⟩) Z6.out.1 (by omega)
        rw [hpl] at ht1
        simp only [List.nil_append] at ht1
        have HT1 := Lib.hid ht1
        have HPL := Lib.hid hpl
        have HWG := Lib.hid hwg
        have HAB := Lib.hid hab
        clear a1 a2 a3 ht1 hpl hwg hab s0 s1 s2 s3 s4 s5 s6 s7 Y1 Y2 Y3 Y4 Y5 Y6 Z1 Z2 hz54
        go_wp2_with fail
        refine HT1.out.mono ?_
        clear HT1
        rintro e wd ⟨rfl, ⟨p1, q1, q2, q3⟩, k2⟩
        have hab := HAB.out
        have hwg := HWG.out
        have M3 : Hid (blockIs wd (wx.heap.size + 1) (byteCells (padKey K 0x5c)) 56) := Lib.hid (k2.is Z3.out (by omega))
        have M4 : Hid (Below w.heap.size w wd) := Lib.hid (Z4.out.trans (k2.below (by omega) Z4.out.size))
        have M5 : Hid (blockIs wd w.heap.size zeroTwo 60) := Lib.hid (k2.is Z5.out (by omega))
        have M6 : Hid (tables wd) := Lib.hid (HT.out.below M4.out HT.out.2.2.1 HT.out.2.2.2)
        have h73 : (runCells (regAfter (padKey K 0x36)) p1 (padKey K 0x36).length).length = 73 := runCells_length _ _ _ q1
        have ht2 := take_any wr.heap.size 64 (some ⟨wx.heap.size + 1, 0, none⟩) (runCells (regAfter (padKey K 0x36)) p1 (padKey K 0x36).length) [] 60 [] (padKey K 0x5c) wd (by rw [HPL.out]; omega) (by omega) (by rw [HPL.out]; simp) (start_second (by rw [List.nil_append] at q3; exact q3)) (Or.inr ⟨_, _, rfl, by omega, fun j hj => by
          rw [Nat.zero_add, M3.out.cell]
          exact byteCells_get _ _ hj⟩) M6.out.1 (by omega)
        rw [h73, HPL.out] at ht2
        simp only [List.nil_append] at ht2
        have HT2 := Lib.hid ht2
        have Q1 := Lib.hid q1
        clear ht2 q1 q2 q3 k2 h73 hab hwg Z3 Z4 Z5 Z6
        go_wp2_with fail
        refine HT2.out.mono ?_
        clear HT2
        rintro e we ⟨rfl, ⟨p2, r1, r2, r3⟩, k2⟩
        have hwg := HWG.out
        have N4 : Hid (Below w.heap.size w we) := Lib.hid (M4.out.trans (k2.below (by omega) M4.out.size))
        have N5 : Hid (blockIs we w.heap.size zeroTwo 60) := Lib.hid (k2.is M5.out (by omega))
        have hrun : blockIs we wr.heap.size ([] ++ ((runCells (regAfter (padKey K 0x36)) p1 64 ++ runCells (regAfter (padKey K 0x5c)) p2 64) ++ [])) 60 := by
          have e1 : (padKey K 0x36).length = 64 := HPL.out _
          have e2 : (padKey K 0x5c).length = 64 := HPL.out _
          rw [e1, e2, List.append_nil] at r3
          rw [List.nil_append, List.append_nil]
          exact r3
        have N1 : Hid (we.rangeAt wr.heap.size 0 (runCells (regAfter (padKey K 0x36)) p1 64 ++ runCells (regAfter (padKey K 0x5c)) p2 64)) := Lib.hid (rangeAt_block hrun)
        have R1 := Lib.hid r1
        have hlen : (runCells (regAfter (padKey K 0x36)) p1 64 ++ runCells (regAfter (padKey K 0x5c)) p2 64).length = 146 := by
          rw [List.length_append, runCells_length _ _ _ Q1.out, runCells_length _ _ _ r1]
        have hone : ∀ v ∈ runCells (regAfter (padKey K 0x36)) p1 64 ++ runCells (regAfter (padKey K 0x5c)) p2 64, v.oneCell' = true := fun v hv => by
          rcases List.mem_append.1 hv with h | h
          · exact runCells_one _ _ _ v h
          · exact runCells_one _ _ _ v h
        have HLEN := Lib.hid hlen
        have HONE := Lib.hid hone
        clear k2 r1 r2 r3 hrun hlen hone M3 M4 M5 M6 hwg
        obtain ⟨C, hC⟩ : ∃ C, C = runCells (regAfter (padKey K 0x36)) p1 64 ++ runCells (regAfter (padKey K 0x5c)) p2 64 := ⟨_, rfl⟩
        rw [← hC] at N1 HLEN HONE
        have HC := Lib.hid hC
        clear hC
        go_wp2_with (first | (refine wpList_load_mid rfl 60 _ rfl wr.heap.size 0 rfl C _ N1.out Tryd.underlying60 rfl (by rw [info54, HLEN.out]) ?_) | (refine wpList_store_block rfl 60 _ _ rfl w.heap.size 0 C rfl rfl zeroTwo 60 N5.out (by rw [info54, HLEN.out]) (by rw [HLEN.out, len_two.2.2.2]; omega) HONE.out ?_))
        intro wf b1 b2 b3
        have b1 := b1.out
        rw [splice_all _ _ (by rw [HLEN.out, len_two.2.2.2])] at b1
        have B1 := Lib.hid b1
        have B2 := Lib.hid (N4.out.trans (b2.out.below (Nat.le_refl _) N4.out.size))
        clear b1 b2 b3
        go_wp2_with fail
        refine bodyPost_ret (v := .agg C.toArray) (results_cell_row rfl _ _ w.heap.size 60 _ (0, 0) _ rfl B1.out Tryd.underlying60 rfl (by rw [info54]; simp [HLEN.out])) rfl ?_
        exact ⟨p1, p2, Q1.out, R1.out, by rw [HC.out, HKS.out], B2.out⟩
end Go.Proofs.YtjemgniochjgmaaDoor
