/- ready: a key is taken. -/
import Derived.Test.YtjemgniochjgmaaDoorKeyed
import Derived.Test.YtjemgniochjgmaaDoorWords
import Derived.Deep.CutRange
namespace Go.Proofs.YtjemgniochjgmaaDoor
open Go.RowKit Sha

theorem wpList_build {P : Program} {ops : Array Oper} {rest : List Oper} {o : Oper} {a : Act} {w : World} {Q : Exit → Act → World → Prop} (hgd : o.guard = none) (ty : TypeId) (ps : Array (Nat × Operand)) (ho : o.op = .build ty ps)
    (qs : Array (Nat × Value)) (v : Value) (hrun : (Instr.build ty qs).run P w = .ok v w) (hq : (ps.toList.map fun p => (p.1, a.eval p.2)) = qs.toList) (h : wpList P ops Q rest (a.put o.dst v) w) : wpList P ops Q (o :: rest) a w := by
  refine wpList_plain hgd fun K hK => ?_
  have e : (ps.map fun (i, x) => (i, a.eval x)) = qs := by
    apply Array.toList_inj.1
    rw [Array.toList_map, ← hq]
  unfold Oper.wp execOp
  simp only [ho, Sem.run_bind, e, hrun, Result.andThen_ok, Sem.run_pure]
  exact hK _ _ h

def startRun : List Value := runCells init (List.replicate 64 0) 0
def startTwo : List Value := startRun ++ startRun
theorem build50 (w : World) : (Instr.build 58 #[(0, .agg #[.int .u32 (U init.a), .int .u32 (U init.b), .int .u32 (U init.c), .int .u32 (U init.d), .int .u32 (U init.e), .int .u32 (U init.f), .int .u32 (U init.g), .int .u32 (U init.h)])]).run Tryd.prog w = .ok (.agg startRun.toArray) w := by kernel_rfl
theorem build54 (w : World) : (Instr.build 60 #[(0, .agg startRun.toArray), (1, .agg startRun.toArray)]).run Tryd.prog w = .ok (.agg startTwo.toArray) w := by kernel_rfl
def zeroTwo : List Value := zero73 ++ zero73
theorem zero54 (w : World) : (zeroValue 60).run Tryd.prog w = .ok (.agg zeroTwo.toArray) w := by kernel_rfl
theorem zero48 (w : World) : (zeroValue 56).run Tryd.prog w = .ok (.agg (zeros 64).toArray) w := by kernel_rfl

/-- A key with noughts up to 64 bytes, its first k put together with x. -/
def padF (K : List UInt8) (x : UInt8) (k j : Nat) : UInt8 := if j < k then K.getD j 0 ^^^ x else K.getD j 0
theorem splice_zeros (K : List UInt8) (h : K.length ≤ 64) : splice (zeros 64) 0 (byteCells K) = cells8 (padF K 0 0) 64 := by
  apply List.ext_getElem?
  intro i
  by_cases hi : i < 64
  · rw [cells8_get _ _ _ hi]
    unfold padF
    rw [if_neg (by omega)]
    unfold splice
    rw [List.take_zero, List.nil_append]
    by_cases hk : i < K.length
    · rw [List.getElem?_append_left (by rw [byteCells_length]; omega), byteCells_get _ _ hk]
    · rw [List.getElem?_append_right (by rw [byteCells_length]; omega), byteCells_length, List.getElem?_drop]
      have e : K.getD i 0 = 0 := by simp [show K.length ≤ i by omega]
      unfold zeros
      rw [List.getElem?_replicate, if_pos (by omega), e]
      rfl
  · rw [List.getElem?_eq_none (by rw [length_splice _ _ _ (by rw [byteCells_length]; simp [zeros]; omega)]; simp [zeros]; omega), List.getElem?_eq_none (by rw [cells8_length]; omega)]
theorem padF_succ (K : List UInt8) (x : UInt8) (k : Nat) (h : k < 64) : (cells8 (padF K x k) 64).set k (.int .u8 (V (K.getD k 0 ^^^ x))) = cells8 (padF K x (k + 1)) 64 := by
  rw [cells8_set _ _ _ h]
  congr 1
  funext j
  unfold padF
  by_cases e : j = k
  · rw [if_pos e, if_pos (by omega), e]
  · rw [if_neg e]
    by_cases hj : j < k
    · rw [if_pos hj, if_pos (by omega)]
    · rw [if_neg hj, if_neg (by omega)]
theorem padF_all (K : List UInt8) (x : UInt8) : cells8 (padF K x 64) 64 = byteCells (padKey K x) := by
  unfold cells8 byteCells padKey
  rw [List.map_map]
  apply List.map_congr_left
  intro j hj
  have := List.mem_range.1 hj
  simp [padF, this]
theorem runCells_one (r : Reg) (s : List UInt8) (n : Nat) : ∀ v ∈ runCells r s n, v.oneCell' = true := by
  intro v hv
  unfold runCells regCells at hv
  rcases List.mem_append.1 hv with h | h
  · obtain ⟨_, _, rfl⟩ := List.mem_map.1 h
    rfl
  · rcases List.mem_append.1 h with h | h
    · exact byteCells_one _ v h
    · have := List.mem_singleton.1 h
      subst this
      rfl
set_option maxRecDepth 100000 in
theorem two_one : ∀ v ∈ startTwo, v.oneCell' = true := by decide
theorem start_two {w : World} {g : Nat} (h : blockIs w g startTwo 60) : runIs w g [] startRun 60 [] := ⟨List.replicate 64 0, rfl, rfl, h⟩
theorem start_run : startRun = runCells (regAfter []) (List.replicate 64 0) ([] : List UInt8).length ++ [] := rfl
theorem start_second {w : World} {g : Nat} {pre : List Value} (h : blockIs w g (pre ++ startRun) 60) : runIs w g pre [] 60 [] := by
  refine ⟨List.replicate 64 0, List.length_replicate, rfl, ?_⟩
  rw [← start_run]
  exact h
set_option maxRecDepth 100000 in
theorem len_two : (54 : Nat) = 54 ∧ 0 + startTwo.length ≤ zeroTwo.length ∧ zeroTwo.length = startTwo.length ∧ zeroTwo.length = 146 := ⟨rfl, by decide, rfl, rfl⟩
theorem bytesIn.cells {w : World} {a : Option Addr} {l : List UInt8} (h : bytesIn w a l) (hn : 0 < (byteCells l).length) : ∃ ad, a = some ad ∧ ∀ j v, (byteCells l)[j]? = some v → w.cell? (ad.add j) = some v := by
  rcases h with h | ⟨bb, bo, h1, h3⟩
  · exact (show bytesAt w w.heap.size a l from Or.inl h).all hn
  · have hlt : bb < w.heap.size := block_lt_of_cell (h3 0 (by rw [byteCells_length] at hn; omega))
    exact (show bytesAt w w.heap.size a l from Or.inr ⟨bb, bo, h1, by omega, h3⟩).all hn

theorem V_x36 (x : UInt8) : bits .xor .u8 (V x) 54 = V (x ^^^ 0x36) := V_xor x 0x36
theorem V_x5c (x : UInt8) : bits .xor .u8 (V x) 92 = V (x ^^^ 0x5c) := V_xor x 0x5c
attribute [local go_sem] V_x36 V_x5c

set_option maxRecDepth 100000 in
set_option maxHeartbeats 2000000 in
theorem ready_short (a : Option Addr) (c : Nat) (K : List UInt8) (w : World) (hK64 : K.length ≤ 64) (_ : K.length ≤ c) (hin : bytesIn w a K) (ht : tables w) :
    Calls Tryd.prog 18 #[.slice a K.length c] w fun e w' => ∃ si so : List UInt8, si.length = 64 ∧ so.length = 64 ∧ e = .returned (.agg (runCells (regAfter (padKey K 0x36)) si 64 ++ runCells (regAfter (padKey K 0x5c)) so 64).toArray) ∧ Below w.heap.size w w' := by
  have hz54 := zero54
  have hk1 : (K.length : Int) ≤ 64 := by omega
  have X0 : Hid (blockIs (w.alloc (.cells zeroTwo.toArray 60 (0, 0))) w.heap.size zeroTwo 60) := Lib.hid (blockIs.new _ _ _)
  have XI : Hid (bytesIn (w.alloc (.cells zeroTwo.toArray 60 (0, 0))) a K) := Lib.hid (hin.below ((Below.refl _ _).alloc (Nat.le_refl _) _))
  have XB : Hid (Below w.heap.size w (w.alloc (.cells zeroTwo.toArray 60 (0, 0)))) := Lib.hid ((Below.refl _ _).alloc (Nat.le_refl _) _)
  have HT := Lib.hid ht
  clear ht hin
  go_enter Tryd.func18, Tryd.ntmps18
  go_upto_region 4 with fail
  generalize w.alloc (.cells zeroTwo.toArray 60 (0, 0)) = wx at *

  have hz48 := zero48
  have FA : Hid (blockIs ((wx.alloc (.cells (zeros 64).toArray 56 (0, 0))).alloc (.cells (zeros 64).toArray 56 (0, 0))) wx.heap.size (zeros 64) 56) := Lib.hid ((blockIs.new wx _ _).alloc _)
  have FB : Hid (blockIs ((wx.alloc (.cells (zeros 64).toArray 56 (0, 0))).alloc (.cells (zeros 64).toArray 56 (0, 0))) (wx.heap.size + 1) (zeros 64) 56) := Lib.hid (blockIs.last _ _ _ _ (by simp))
  have FW : Hid (Below wx.heap.size wx ((wx.alloc (.cells (zeros 64).toArray 56 (0, 0))).alloc (.cells (zeros 64).toArray 56 (0, 0)))) := Lib.hid (((Below.refl _ _).alloc (Nat.le_refl _) _).alloc (by simp) _)
  have FS : Hid (((wx.alloc (.cells (zeros 64).toArray 56 (0, 0))).alloc (.cells (zeros 64).toArray 56 (0, 0))).heap.size = wx.heap.size + 2) := Lib.hid (by simp)
  have FC := Lib.hid (XI.out.below FW.out)
  go_wp2_with (refine wpList_copy_but rfl _ _ 22 22 rfl 5 Tryd.underlying22 size5 _ _ _ _ _ _ rfl rfl wx.heap.size 0 (zeros 64) 56 FA.out (byteCells K) ?c1 ?c2 ?c3 ?c4 ?_)
  case c1 => rw [byteCells_length]; simp [Nat.min_def]; omega
  case c2 => exact fun h => by simpa using (bytesIn.cells FC.out h)
  case c3 => rw [byteCells_length]; simp [zeros]; omega
  case c4 => exact byteCells_one _
  intro wa a1 a2 a3
  have A1 : Hid (blockIs wa wx.heap.size (cells8 (padF K 0 0) 64) 56) := Lib.hid (by have := a1.out; rwa [splice_zeros K hK64] at this)
  have FB := Lib.hid (a2.out.is FB.out (by omega))
  have FW : Hid (Below wx.heap.size wx wa) := Lib.hid (FW.out.trans (a2.out.below (Nat.le_refl _) (by rw [FS.out]; omega)))
  have FS : Hid (wa.heap.size = wx.heap.size + 2) := Lib.hid (by have := a3.out; have := FS.out; simp at *; omega)
  have FC := Lib.hid (XI.out.below FW.out)
  clear a1 a2 a3 FA
  go_wp2_with (refine wpList_copy_but rfl _ _ 22 22 rfl 5 Tryd.underlying22 size5 _ _ _ _ _ _ rfl rfl (wx.heap.size + 1) 0 (zeros 64) 56 FB.out (byteCells K) ?c1 ?c2 ?c3 ?c4 ?_)
  case c1 => rw [byteCells_length]; simp [Nat.min_def]; omega
  case c2 => exact fun h => by simpa using (bytesIn.cells FC.out h)
  case c3 => rw [byteCells_length]; simp [zeros]; omega
  case c4 => exact byteCells_one _
  intro wb a1 a2 a3
  have B1 : Hid (blockIs wb (wx.heap.size + 1) (cells8 (padF K 0 0) 64) 56) := Lib.hid (by have := a1.out; rwa [splice_zeros K hK64] at this)
  have A1 := Lib.hid (a2.out.is A1.out (by omega))
  have FW : Hid (Below wx.heap.size wx wb) := Lib.hid (FW.out.trans (a2.out.below (by omega) (by rw [FS.out]; omega)))
  have FS : Hid (wb.heap.size = wx.heap.size + 2) := Lib.hid (by have := a3.out; have := FS.out; simp at *; omega)
  clear a1 a2 a3 FB FC
  go_wp2_with fail
  go_loopw [21, 6] (fun i _ wr => ∃ k : Nat, k ≤ 64 ∧ i = .int .i64 k ∧ blockIs wr wx.heap.size (cells8 (padF K 0x36 k) 64) 56 ∧ blockIs wr (wx.heap.size + 1) (cells8 (padF K 0x5c k) 64) 56 ∧ Below wx.heap.size wx wr ∧ wr.heap.size = wx.heap.size + 2) (fun i _ _ => 64 - (intOf i).toNat)
  case atStart => exact ⟨0, by omega, rfl, A1.out, B1.out, FW.out, FS.out⟩
  case round =>
    clear A1 B1 FW FS
    obtain ⟨k, hk, rfl, h1, h2, h3, h4⟩ := hrel
    by_cases hlt : k < 64
    · have c1 : wr.cell? ⟨wx.heap.size, k, none⟩ = some (.int .u8 (V (K.getD k 0))) := by
        rw [h1.cell, cells8_get _ _ _ hlt]; unfold padF; rw [if_neg (by omega)]
      have c2 : wr.cell? ⟨wx.heap.size + 1, k, none⟩ = some (.int .u8 (V (K.getD k 0))) := by
        rw [h2.cell, cells8_get _ _ _ hlt]; unfold padF; rw [if_neg (by omega)]
      have c3 : wr.frozen? ⟨wx.heap.size, k, none⟩ = false := h1.free _
      have c4 : wr.frozen? ⟨wx.heap.size + 1, k, none⟩ = false := h2.free _
      have n1 := ((h1.set k (.int .u8 (V (K.getD k 0 ^^^ 0x36)))).other ⟨wx.heap.size + 1, k, none⟩ (.int .u8 (V (K.getD k 0 ^^^ 0x5c))) (by simp))
      have n2 := (h2.other ⟨wx.heap.size, k, none⟩ (.int .u8 (V (K.getD k 0 ^^^ 0x36))) (by simp)).set k (.int .u8 (V (K.getD k 0 ^^^ 0x5c)))
      rw [padF_succ _ _ _ hlt] at n1 n2
      have N1 := Lib.hid n1
      have N2 := Lib.hid n2
      have H3 := Lib.hid h3
      have H4 := Lib.hid h4
      clear h1 h2 h3 h4 n1 n2
      have p : 0 ≤ (k : Int) := by omega
      have q : (k : Int) < 64 := by omega
      generalize K.getD k 0 = x at *
      go_wp2_with fail
      go_roundw
      case rel => exact ⟨k + 1, by omega, by go_num, N1.out, N2.out, (H3.out.setCell (Nat.le_refl _) _).setCell (by simp) _, by simpa [World.setCell] using H4.out⟩
      case measure => simp [intOf]; omega
    · as_aux_lemma =>
        obtain rfl : k = 64 := by omega
        rw [show ((64 : Nat) : Int) = 64 from rfl]
        rw [padF_all] at h1 h2
        have hB : Below w.heap.size w wr := XB.out.trans (h3.mono XB.out.size)
        have htab : tables wr := HT.out.below hB HT.out.2.2.1 HT.out.2.2.2
        have s0 : wr.cell? ⟨0, 0, none⟩ = some (.int .u32 (U init.a)) := htab.2.1 0 _ rfl
        have s1 : wr.cell? ⟨0, 1, none⟩ = some (.int .u32 (U init.b)) := htab.2.1 1 _ rfl
        have s2 : wr.cell? ⟨0, 2, none⟩ = some (.int .u32 (U init.c)) := htab.2.1 2 _ rfl
        have s3 : wr.cell? ⟨0, 3, none⟩ = some (.int .u32 (U init.d)) := htab.2.1 3 _ rfl
        have s4 : wr.cell? ⟨0, 4, none⟩ = some (.int .u32 (U init.e)) := htab.2.1 4 _ rfl
        have s5 : wr.cell? ⟨0, 5, none⟩ = some (.int .u32 (U init.f)) := htab.2.1 5 _ rfl
        have s6 : wr.cell? ⟨0, 6, none⟩ = some (.int .u32 (U init.g)) := htab.2.1 6 _ rfl
        have s7 : wr.cell? ⟨0, 7, none⟩ = some (.int .u32 (U init.h)) := htab.2.1 7 _ rfl
        have Y1 := Lib.hid h1
        have Y2 := Lib.hid h2
        have Y3 := Lib.hid hB
        have Y4 := Lib.hid h4
        have Y5 : Hid (blockIs wr w.heap.size zeroTwo 60) := Lib.hid (X0.out.below h3 X0.out.lt)
        have Y6 := Lib.hid htab
        have Y7 := Lib.hid X0.out.lt
        clear h1 h2 h3 h4 hB htab hk hlt hz48
        have hz54 := zero54
        go_wp2_with (first | (refine wpList_build rfl 58 _ rfl _ _ (build50 _) rfl ?_) | (refine wpList_build rfl 60 _ rfl _ _ (build54 _) rfl ?_) | (refine wpList_store_block rfl 60 _ _ rfl wr.heap.size 0 startTwo rfl rfl zeroTwo 60 (blockIs.new wr _ _) (by rw [info54, ← len_two.2.2.1, len_two.2.2.2]) len_two.2.1 two_one ?_))
        intro wc a1 a2 a3
        have a1 := a1.out
        rw [splice_all _ _ len_two.2.2.1] at a1
        have hpl : ∀ x, (padKey K x).length = 64 := fun x => by simp [padKey]
        have Z1 : Hid (runIs wc wr.heap.size [] startRun 60 []) := Lib.hid (start_two a1)
        have Z2 : Hid (blockIs wc wx.heap.size (byteCells (padKey K 0x36)) 56) := Lib.hid (a2.out.is (Y1.out.alloc _) (by have := Y4.out; omega))
        have Z3 : Hid (blockIs wc (wx.heap.size + 1) (byteCells (padKey K 0x5c)) 56) := Lib.hid (a2.out.is (Y2.out.alloc _) (by have := Y4.out; omega))
        have hwg : w.heap.size < wr.heap.size := by have := Y4.out; have := Y7.out; omega
        have Z4 : Hid (Below w.heap.size w wc) := Lib.hid ((Y3.out.alloc Y3.out.size (.cells zeroTwo.toArray 60 (0, 0))).trans (a2.out.below (by omega) (by simp; omega)))
        have Z5 : Hid (blockIs wc w.heap.size zeroTwo 60) := Lib.hid (a2.out.is (Y5.out.alloc _) (by omega))
        have Z6 : Hid (tables wc) := Lib.hid (HT.out.below Z4.out HT.out.2.2.1 HT.out.2.2.2)
        have hg1 := HT.out.2.2.1
        have hab : wx.heap.size + 2 = wr.heap.size := Y4.out.symm
        have ht1 := take_any wr.heap.size 64 (some ⟨wx.heap.size, 0, none⟩) [] startRun 60 [] (padKey K 0x36) wc (by rw [hpl]; omega) (by omega) (by rw [hpl]; simp) Z1.out (Or.inr ⟨_, _, rfl, by omega, fun j hj => by
          rw [Nat.zero_add, Z2.out.cell]
          exact byteCells_get _ _ hj⟩) Z6.out.1 (by omega)
        rw [hpl] at ht1
        simp only [List.nil_append] at ht1
        have HT1 := Lib.hid ht1
        have HPL := Lib.hid hpl
        have HWG := Lib.hid hwg
        have HAB := Lib.hid hab
        clear a1 a2 a3 ht1 hpl hwg hab s0 s1 s2 s3 s4 s5 s6 s7 Y1 Y2 Y3 Y4 Y5 Y6 Z1 Z2 hz54
        go_wp2_with fail
        refine HT1.out.mono ?_
        clear HT1
        rintro e wd ⟨rfl, ⟨p1, q1, q2, q3⟩, k2⟩
        have hab := HAB.out
        have hwg := HWG.out
        have M3 : Hid (blockIs wd (wx.heap.size + 1) (byteCells (padKey K 0x5c)) 56) := Lib.hid (k2.is Z3.out (by omega))
        have M4 : Hid (Below w.heap.size w wd) := Lib.hid (Z4.out.trans (k2.below (by omega) Z4.out.size))
        have M5 : Hid (blockIs wd w.heap.size zeroTwo 60) := Lib.hid (k2.is Z5.out (by omega))
        have M6 : Hid (tables wd) := Lib.hid (HT.out.below M4.out HT.out.2.2.1 HT.out.2.2.2)
        have h73 : (runCells (regAfter (padKey K 0x36)) p1 (padKey K 0x36).length).length = 73 := runCells_length _ _ _ q1
        have ht2 := take_any wr.heap.size 64 (some ⟨wx.heap.size + 1, 0, none⟩) (runCells (regAfter (padKey K 0x36)) p1 (padKey K 0x36).length) [] 60 [] (padKey K 0x5c) wd (by rw [HPL.out]; omega) (by omega) (by rw [HPL.out]; simp) (start_second (by rw [List.nil_append] at q3; exact q3)) (Or.inr ⟨_, _, rfl, by omega, fun j hj => by
          rw [Nat.zero_add, M3.out.cell]
          exact byteCells_get _ _ hj⟩) M6.out.1 (by omega)
        rw [h73, HPL.out] at ht2
        simp only [List.nil_append] at ht2
        have HT2 := Lib.hid ht2
        have Q1 := Lib.hid q1
        clear ht2 q1 q2 q3 k2 h73 hab hwg Z3 Z4 Z5 Z6
        go_wp2_with fail
        refine HT2.out.mono ?_
        clear HT2
        rintro e we ⟨rfl, ⟨p2, r1, r2, r3⟩, k2⟩
        have hwg := HWG.out
        have N4 : Hid (Below w.heap.size w we) := Lib.hid (M4.out.trans (k2.below (by omega) M4.out.size))
        have N5 : Hid (blockIs we w.heap.size zeroTwo 60) := Lib.hid (k2.is M5.out (by omega))
        have hrun : blockIs we wr.heap.size ([] ++ ((runCells (regAfter (padKey K 0x36)) p1 64 ++ runCells (regAfter (padKey K 0x5c)) p2 64) ++ [])) 60 := by
          have e1 : (padKey K 0x36).length = 64 := HPL.out _
          have e2 : (padKey K 0x5c).length = 64 := HPL.out _
          rw [e1, e2, List.append_nil] at r3
          rw [List.nil_append, List.append_nil]
          exact r3
        have N1 : Hid (we.rangeAt wr.heap.size 0 (runCells (regAfter (padKey K 0x36)) p1 64 ++ runCells (regAfter (padKey K 0x5c)) p2 64)) := Lib.hid (rangeAt_block hrun)
        have R1 := Lib.hid r1
        have hlen : (runCells (regAfter (padKey K 0x36)) p1 64 ++ runCells (regAfter (padKey K 0x5c)) p2 64).length = 146 := by
          rw [List.length_append, runCells_length _ _ _ Q1.out, runCells_length _ _ _ r1]
        have hone : ∀ v ∈ runCells (regAfter (padKey K 0x36)) p1 64 ++ runCells (regAfter (padKey K 0x5c)) p2 64, v.oneCell' = true := fun v hv => by
          rcases List.mem_append.1 hv with h | h
          · exact runCells_one _ _ _ v h
          · exact runCells_one _ _ _ v h
        have HLEN := Lib.hid hlen
        have HONE := Lib.hid hone
        clear k2 r1 r2 r3 hrun hlen hone M3 M4 M5 M6 hwg
        obtain ⟨C, hC⟩ : ∃ C, C = runCells (regAfter (padKey K 0x36)) p1 64 ++ runCells (regAfter (padKey K 0x5c)) p2 64 := ⟨_, rfl⟩
        rw [← hC] at N1 HLEN HONE
        have HC := Lib.hid hC
        clear hC
        go_wp2_with (first | (refine wpList_load_mid rfl 60 _ rfl wr.heap.size 0 rfl C _ N1.out Tryd.underlying60 rfl (by rw [info54, HLEN.out]) ?_) | (refine wpList_store_block rfl 60 _ _ rfl w.heap.size 0 C rfl rfl zeroTwo 60 N5.out (by rw [info54, HLEN.out]) (by rw [HLEN.out, len_two.2.2.2]; omega) HONE.out ?_))
        intro wf b1 b2 b3
        have b1 := b1.out
        rw [splice_all _ _ (by rw [HLEN.out, len_two.2.2.2])] at b1
        have B1 := Lib.hid b1
        have B2 := Lib.hid (N4.out.trans (b2.out.below (Nat.le_refl _) N4.out.size))
        clear b1 b2 b3
        go_wp2_with fail
        refine bodyPost_ret (v := .agg C.toArray) (results_cell_row rfl _ _ w.heap.size 60 _ (0, 0) _ rfl B1.out Tryd.underlying60 rfl (by rw [info54]; simp [HLEN.out])) rfl ?_
        exact ⟨p1, p2, Q1.out, R1.out, by rw [HC.out], B2.out⟩
end Go.Proofs.YtjemgniochjgmaaDoor
