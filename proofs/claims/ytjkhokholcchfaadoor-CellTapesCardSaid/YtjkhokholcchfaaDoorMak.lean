/- key.Make: the ring of a word. -/
import Derived.Test.YtjkhokholcchfaaDoorGg
import Derived.Lib.SmallJoins
namespace Go.Proofs.YtjkhokholcchfaaDoor
open Go.RowKit Sha

def hideW : List UInt8 := [104, 105, 100, 101]
def markW : List UInt8 := [109, 97, 114, 107]
def nameW : List UInt8 := [110, 97, 109, 101]
def ringL (s : List UInt8) : List UInt8 := hmac s hideW ++ (hmac s markW ++ hmac s nameW)
set_option maxRecDepth 100000 in
theorem ringL_length (s : List UInt8) : (ringL s).length = 96 := by
  simp only [ringL, List.length_append, hmac_length]
set_option maxRecDepth 100000 in
theorem zeroRing (w : World) : (zeroValue 58).run Tryd.prog w = .ok (.agg (zeros 96).toArray) w := by kernel_rfl
set_option maxRecDepth 100000 in
theorem buildRing (w : World) : (Instr.build 58 #[]).run Tryd.prog w = .ok (.agg (zeros 96).toArray) w := by kernel_rfl
set_option maxRecDepth 100000 in
theorem infoRing : (Tryd.prog.info? 58).map (·.size) = some 96 := by kernel_rfl
set_option maxRecDepth 100000 in
theorem ring_row (A B C : List UInt8) (hA : A.length = 32) (hB : B.length = 32) (hC : C.length = 32) :
    splice (splice (splice (zeros 96) 0 (byteCells A)) 32 (byteCells B)) 64 (byteCells C) = byteCells (A ++ (B ++ C)) := by
  have e : byteCells (A ++ (B ++ C)) = byteCells A ++ (byteCells B ++ byteCells C) := by simp [byteCells]
  have lA : (byteCells A).length = 32 := by rw [byteCells_length, hA]
  have lB : (byteCells B).length = 32 := by rw [byteCells_length, hB]
  have lC : (byteCells C).length = 32 := by rw [byteCells_length, hC]
  rw [e]
  generalize byteCells A = a at *
  generalize byteCells B = b at *
  generalize byteCells C = c at *
  simp [splice, zeros, lA, lB, lC, List.take_append, List.drop_append]
  rw [List.take_of_length_le (by omega), List.drop_eq_nil_of_le (show a.length ≤ 96 by omega), List.drop_eq_nil_of_le (show b.length ≤ 64 by omega)]
  simp
set_option maxRecDepth 100000 in
theorem results_row_tmp {fn : Func} {p u : Tmp} {ty : TypeId} (h : fn.results = #[.cell p ty, .tmp u]) (tmps : Array Value) (w : World) (g : Nat) (cs : Array Value)
    (hp : tmps.getD p undef = .pointer (some ⟨g, 0, none⟩)) (hl : (loadVar ty ⟨g, 0, none⟩).run Tryd.prog w = .ok (.agg cs) w) :
    (results fn tmps).run Tryd.prog w = .ok (.tuple #[.agg cs, tmps.getD u undef]) w := by
  have hp' : tmps[p]?.getD undef = .pointer (some ⟨g, 0, none⟩) := by simpa using hp
  simp [results, h, hp', asAddr, hl]
set_option maxRecDepth 100000 in
theorem splice_keep {x y : List Value} {o : Nat} (h : o + y.length ≤ x.length) : (splice x o y).length = x.length := by
  simp only [splice, List.length_append, List.length_take, List.length_drop]
  omega
set_option maxRecDepth 100000 in
/-- A call of Keyed with one word that the code writes out. -/
theorem keyed_word (X : World) (g : Nat) (s l : List UInt8) (t : TypeId) (hs : s.length = 32) (hb : blockIs X g (byteCells s) t) (hT : tables X) (hl : l.length = 4) :
    Calls Tryd.prog 49 #[.slice (some ⟨g, 0, none⟩) 32 32, .slice (some ⟨X.heap.size + 1, 0, none⟩) 1 1] ((X.alloc (.cells (byteCells l).toArray 5 (4, 5))).alloc (.cells #[.slice (some ⟨X.heap.size, 0, none⟩) 4 4] 22 (0, 0))) fun e w' => e = .returned (.agg (byteCells (hmac s l)).toArray) ∧ Below X.heap.size X w' := by
  have hB : Below X.heap.size X ((X.alloc (.cells (byteCells l).toArray 5 (4, 5))).alloc (.cells #[.slice (some ⟨X.heap.size, 0, none⟩) 4 4] 22 (0, 0))) := (alloc_below X _).alloc (by simp) _
  have b0 : ((X.alloc (.cells (byteCells l).toArray 5 (4, 5))).alloc (.cells #[.slice (some ⟨X.heap.size, 0, none⟩) 4 4] 22 (0, 0))).heap[X.heap.size]? = some (.cells (byteCells l).toArray 5 (4, 5)) := by
    rw [Below.heap_alloc _ _ _ (by simp), heap_alloc_new]
  have b1 : ((X.alloc (.cells (byteCells l).toArray 5 (4, 5))).alloc (.cells #[.slice (some ⟨X.heap.size, 0, none⟩) 4 4] 22 (0, 0))).heap[X.heap.size + 1]? = some (.cells #[.slice (some ⟨X.heap.size, 0, none⟩) 4 4] 22 (0, 0)) := by
    have := heap_alloc_new (X.alloc (.cells (byteCells l).toArray 5 (4, 5))) (.cells #[.slice (some ⟨X.heap.size, 0, none⟩) 4 4] 22 (0, 0))
    simpa using this
  generalize (X.alloc (.cells (byteCells l).toArray 5 (4, 5))).alloc (.cells #[.slice (some ⟨X.heap.size, 0, none⟩) 4 4] 22 (0, 0)) = Y at *
  have hin : bytesIn Y (some ⟨g, 0, none⟩) s := Or.inr ⟨_, _, rfl, fun j hj => by rw [Nat.zero_add, (hb.below hB hb.lt).cell]; exact byteCells_get _ _ hj⟩
  have hp : partsIn Y (some ⟨X.heap.size + 1, 0, none⟩) [l] := by
    refine Or.inr ⟨_, _, rfl, fun j hj => ?_⟩
    obtain rfl : j = 0 := by simpa using hj
    refine ⟨_, _, by rw [cell_of_row _ _ _ _ _ _ b1]; show _ = some (Value.slice (some ⟨X.heap.size, 0, none⟩) l.length 4); rw [hl]; rfl, by show l.length ≤ 4; omega, by omega, Or.inr ⟨_, _, rfl, fun i hi => ?_⟩⟩
    rw [Nat.zero_add, cell_of_row _ _ _ _ _ _ b0, List.getElem?_toArray]
    exact byteCells_get l i hi
  have := kf_any (some ⟨g, 0, none⟩) (some ⟨X.heap.size + 1, 0, none⟩) 32 1 s [l] Y (by omega) (by omega) (by omega) hin (by simp) (by simp) (by simp; omega) (hT.below hB hT.2.2.1 hT.2.2.2) hp
  rw [hs] at this
  simp only [List.flatten_cons, List.flatten_nil, List.append_nil] at this
  exact this.mono fun e w' ⟨h1, h2⟩ => ⟨h1, hB.trans (h2.mono hB.size)⟩

set_option maxRecDepth 100000 in
set_option maxHeartbeats 2000000 in
theorem make_ok (a a2 : Option Addr) (c c2 : Nat) (K S0 : List UInt8) (z : Int) (w : World) (hK0 : 0 < K.length) (hKm : K.length ≤ 800000) (hKc : K.length ≤ c) (hcm : c ≤ 9223372036854775807) (hin : bytesIn w a K)
    (hS : S0.length = 16) (hSc : S0.length ≤ c2) (hcm2 : c2 ≤ 9223372036854775807) (hin2 : bytesIn w a2 S0) (hz0 : 0 ≤ z) (hz : z ≤ 100000) (ht : tables w) :
    Calls Tryd.prog 29 #[.slice a K.length c, .slice a2 S0.length c2, .int .i64 z] w fun e w' => e = .returned (.tuple #[.agg (byteCells (ringL (stretch K S0 z.toNat))).toArray, .int .i64 0]) ∧ Below w.heap.size w w' := by
  have hzr := zeroRing
  have e1 : ¬ (K.length : Int) = 0 := by omega
  have e0 : ¬ K.length = 0 := by omega
  have e5 : ¬ K = [] := fun h => e0 (by rw [h]; rfl)
  have e2 : (S0.length : Int) = 16 := by omega
  have e3 : ¬ z < 0 := by omega
  have e4 : ¬ 100000 < z := by omega
  have G0 := Lib.hid (blockIs.new w (zeros 96) 58)
  have A0 := Lib.hid (alloc_below w (.cells (zeros 96).toArray 58 (0, 0)))
  have Z0 : Hid (w.heap.size < (w.alloc (.cells (zeros 96).toArray 58 (0, 0))).heap.size) := Lib.hid G0.out.lt
  have HT0 := Lib.hid ht.2.2
  have T0 := Lib.hid (ht.below A0.out ht.2.2.1 ht.2.2.2)
  have HS := Lib.hid (stretch_any a a2 c c2 K S0 z (w.alloc (.cells (zeros 96).toArray 58 (0, 0))) hKm hKc hcm (hin.below A0.out) (by omega) hSc hcm2 (hin2.below A0.out) hz T0.out)
  have HL : Hid ((stretch K S0 z.toNat).length = 32) := Lib.hid (stretch_length _ _ _)
  clear hK0 hKm hKc hcm hin hS hSc hcm2 hin2 hz0 hz ht
  generalize stretch K S0 z.toNat = s at *
  obtain ⟨m1, hm1⟩ : ∃ m, m = hmac s hideW := ⟨_, rfl⟩
  have Hm1 : Hid (m1.length = 32) := Lib.hid (by rw [hm1]; exact hmac_length _ _)
  have Wm1 : Hid (∀ (X : World) (g : Nat) (t : TypeId), blockIs X g (byteCells s) t → tables X → Calls Tryd.prog 49 #[.slice (some ⟨g, 0, none⟩) 32 32, .slice (some ⟨X.heap.size + 1, 0, none⟩) 1 1] ((X.alloc (.cells #[.int .u8 104, .int .u8 105, .int .u8 100, .int .u8 101] 5 (4, 5))).alloc (.cells #[.slice (some ⟨X.heap.size, 0, none⟩) 4 4] 22 (0, 0))) fun e w' => e = .returned (.agg (byteCells m1).toArray) ∧ Below X.heap.size X w') := Lib.hid (fun X g t h1 h2 => by rw [hm1]; exact keyed_word X g s hideW t HL.out h1 h2 rfl)
  obtain ⟨m2, hm2⟩ : ∃ m, m = hmac s markW := ⟨_, rfl⟩
  have Hm2 : Hid (m2.length = 32) := Lib.hid (by rw [hm2]; exact hmac_length _ _)
  have Wm2 : Hid (∀ (X : World) (g : Nat) (t : TypeId), blockIs X g (byteCells s) t → tables X → Calls Tryd.prog 49 #[.slice (some ⟨g, 0, none⟩) 32 32, .slice (some ⟨X.heap.size + 1, 0, none⟩) 1 1] ((X.alloc (.cells #[.int .u8 109, .int .u8 97, .int .u8 114, .int .u8 107] 5 (4, 5))).alloc (.cells #[.slice (some ⟨X.heap.size, 0, none⟩) 4 4] 22 (0, 0))) fun e w' => e = .returned (.agg (byteCells m2).toArray) ∧ Below X.heap.size X w') := Lib.hid (fun X g t h1 h2 => by rw [hm2]; exact keyed_word X g s markW t HL.out h1 h2 rfl)
  obtain ⟨m3, hm3⟩ : ∃ m, m = hmac s nameW := ⟨_, rfl⟩
  have Hm3 : Hid (m3.length = 32) := Lib.hid (by rw [hm3]; exact hmac_length _ _)
  have Wm3 : Hid (∀ (X : World) (g : Nat) (t : TypeId), blockIs X g (byteCells s) t → tables X → Calls Tryd.prog 49 #[.slice (some ⟨g, 0, none⟩) 32 32, .slice (some ⟨X.heap.size + 1, 0, none⟩) 1 1] ((X.alloc (.cells #[.int .u8 110, .int .u8 97, .int .u8 109, .int .u8 101] 5 (4, 5))).alloc (.cells #[.slice (some ⟨X.heap.size, 0, none⟩) 4 4] 22 (0, 0))) fun e w' => e = .returned (.agg (byteCells m3).toArray) ∧ Below X.heap.size X w') := Lib.hid (fun X g t h1 h2 => by rw [hm3]; exact keyed_word X g s nameW t HL.out h1 h2 rfl)
  obtain ⟨L, hL⟩ : ∃ L, L = m1 ++ (m2 ++ m3) := ⟨_, rfl⟩
  have HLL := Lib.hid hL
  have HRL : Hid (L.length = 96) := Lib.hid (by rw [hL, List.length_append, List.length_append, Hm1.out, Hm2.out, Hm3.out])
  rw [show ringL s = L by rw [hL, hm1, hm2, hm3]; rfl]
  clear hL hm1 hm2 hm3
  go_enter Tryd.func29, Tryd.ntmps29
  go_wp2_with fail
  generalize w.alloc (.cells (zeros 96).toArray 58 (0, 0)) = w0 at *
  with_reducible refine HS.out.mono ?_
  rintro e w1 ⟨rfl, k1⟩
  have G1 := Lib.hid (G0.out.below k1 Z0.out)
  have A1 := Lib.hid (A0.out.trans (k1.mono A0.out.size))
  have T1 := Lib.hid (T0.out.below k1 T0.out.2.2.1 T0.out.2.2.2)
  have Z1 := Lib.hid (Nat.lt_of_lt_of_le Z0.out k1.size)
  clear G0 A0 T0 Z0 k1 HS e0 e1 e2 e3 e4 e5
  have hz28 := zero28
  have N1 := Lib.hid (blockIs.new w1 (zeros 32) 34)
  have B1 := Lib.hid (alloc_below w1 (.cells (zeros 32).toArray 34 (0, 0)))
  go_wp2_with (refine wpList_store_block rfl 34 _ _ rfl w1.heap.size 0 (byteCells s) rfl rfl (zeros 32) 34 N1.out (by rw [info28, byteCells_length, HL.out]) (by simp [zeros, byteCells_length, HL.out]) (byteCells_one _) ?_)
  intro w2 h1 h2 h3
  have h1 := h1.out
  rw [splice_all _ _ (by simp [zeros, byteCells_length, HL.out])] at h1
  have B2 := Lib.hid (B1.out.trans (h2.out.below (Nat.le_refl _) B1.out.size))
  have Q2 := Lib.hid h1
  have G2 := Lib.hid (G1.out.below B2.out Z1.out)
  have A2 := Lib.hid (A1.out.trans (B2.out.mono A1.out.size))
  have T2 := Lib.hid (T1.out.below B2.out T1.out.2.2.1 T1.out.2.2.2)
  clear h1 h2 h3 N1 B1 B2 G1 A1 T1 Z1 hz28
  generalize w1.heap.size = g at *
  go_upto_region 5 with fail
  have N2 := Lib.hid (blockIs.new w2 (zeros 96) 58)
  have B2 := Lib.hid (alloc_below w2 (.cells (zeros 96).toArray 58 (0, 0)))
  have Q3 := Lib.hid (Q2.out.below B2.out Q2.out.lt)
  have G3 := Lib.hid (G2.out.below B2.out G2.out.lt)
  have A3 := Lib.hid (A2.out.trans (B2.out.mono A2.out.size))
  have T3 := Lib.hid (T2.out.below B2.out T2.out.2.2.1 T2.out.2.2.2)
  have hgr : Hid (g ≠ w2.heap.size) := Lib.hid (Nat.ne_of_lt Q2.out.lt)
  have hwr : Hid (w.heap.size < w2.heap.size) := Lib.hid G2.out.lt
  clear B2 Q2 G2 A2 T2
  generalize w2.alloc (.cells (zeros 96).toArray 58 (0, 0)) = x3 at *
  generalize w2.heap.size = r at *
  have hcv : (convert 22 22 (.slice (some ⟨x3.heap.size, 0, none⟩) 4 4)).run Tryd.prog (x3.alloc (.cells #[.int .u8 104, .int .u8 105, .int .u8 100, .int .u8 101] 5)) = .ok (.slice (some ⟨x3.heap.size, 0, none⟩) 4 4) (x3.alloc (.cells #[.int .u8 104, .int .u8 105, .int .u8 100, .int .u8 101] 5 (4, 5))) := Joins.run_convert_bytes_const_at x3 22 5 _ 4 4 _ rfl Tryd.underlying22 Tryd.underlying5
  have HK := Lib.hid (Wm1.out x3 g _ Q3.out T3.out)
  go_wp2_with fail
  with_reducible refine HK.out.mono ?_
  rintro e y3 ⟨rfl, k1⟩
  have NN := Lib.hid (N2.out.below k1 N2.out.lt)
  have QQ := Lib.hid (Q3.out.below k1 Q3.out.lt)
  have GG := Lib.hid (G3.out.below k1 G3.out.lt)
  have AA := Lib.hid (A3.out.trans (k1.mono A3.out.size))
  have TT := Lib.hid (T3.out.below k1 T3.out.2.2.1 T3.out.2.2.2)
  clear k1 HK hcv N2 Q3 G3 A3 T3
  go_wp2_with (refine wpList_store_block rfl 34 _ _ rfl r 0 (byteCells m1) rfl rfl _ 58 NN.out (by rw [info28, byteCells_length, Hm1.out]) (by rw [byteCells_length, Hm1.out]; simp [zeros]) (byteCells_one _) ?_)
  intro x4 h1 h2 h3
  have NB := Lib.hid (h2.out.below (Nat.le_of_lt hwr.out) AA.out.size)
  have N4 := h1
  have Q4 := Lib.hid (h2.out.is QQ.out hgr.out)
  have G4 := Lib.hid (h2.out.is GG.out (Nat.ne_of_lt hwr.out))
  have A4 := Lib.hid (AA.out.trans NB.out)
  have T4 := Lib.hid (TT.out.below NB.out HT0.out.1 HT0.out.2)
  clear h1 h2 h3 NB NN QQ GG AA TT
  have hcv : (convert 22 22 (.slice (some ⟨x4.heap.size, 0, none⟩) 4 4)).run Tryd.prog (x4.alloc (.cells #[.int .u8 109, .int .u8 97, .int .u8 114, .int .u8 107] 5)) = .ok (.slice (some ⟨x4.heap.size, 0, none⟩) 4 4) (x4.alloc (.cells #[.int .u8 109, .int .u8 97, .int .u8 114, .int .u8 107] 5 (4, 5))) := Joins.run_convert_bytes_const_at x4 22 5 _ 4 4 _ rfl Tryd.underlying22 Tryd.underlying5
  have HK := Lib.hid (Wm2.out x4 g _ Q4.out T4.out)
  go_wp2_with fail
  with_reducible refine HK.out.mono ?_
  rintro e y4 ⟨rfl, k1⟩
  have NN := Lib.hid (N4.out.below k1 N4.out.lt)
  have QQ := Lib.hid (Q4.out.below k1 Q4.out.lt)
  have GG := Lib.hid (G4.out.below k1 G4.out.lt)
  have AA := Lib.hid (A4.out.trans (k1.mono A4.out.size))
  have TT := Lib.hid (T4.out.below k1 T4.out.2.2.1 T4.out.2.2.2)
  clear k1 HK hcv N4 Q4 G4 A4 T4
  go_wp2_with (refine wpList_store_block rfl 34 _ _ rfl r 32 (byteCells m2) rfl rfl _ 58 NN.out (by rw [info28, byteCells_length, Hm2.out]) (by rw [byteCells_length, Hm2.out, splice_keep (by rw [byteCells_length, Hm1.out]; simp [zeros])]; simp [zeros]) (byteCells_one _) ?_)
  intro x5 h1 h2 h3
  have NB := Lib.hid (h2.out.below (Nat.le_of_lt hwr.out) AA.out.size)
  have N5 := h1
  have Q5 := Lib.hid (h2.out.is QQ.out hgr.out)
  have G5 := Lib.hid (h2.out.is GG.out (Nat.ne_of_lt hwr.out))
  have A5 := Lib.hid (AA.out.trans NB.out)
  have T5 := Lib.hid (TT.out.below NB.out HT0.out.1 HT0.out.2)
  clear h1 h2 h3 NB NN QQ GG AA TT
  have hcv : (convert 22 22 (.slice (some ⟨x5.heap.size, 0, none⟩) 4 4)).run Tryd.prog (x5.alloc (.cells #[.int .u8 110, .int .u8 97, .int .u8 109, .int .u8 101] 5)) = .ok (.slice (some ⟨x5.heap.size, 0, none⟩) 4 4) (x5.alloc (.cells #[.int .u8 110, .int .u8 97, .int .u8 109, .int .u8 101] 5 (4, 5))) := Joins.run_convert_bytes_const_at x5 22 5 _ 4 4 _ rfl Tryd.underlying22 Tryd.underlying5
  have HK := Lib.hid (Wm3.out x5 g _ Q5.out T5.out)
  go_wp2_with fail
  with_reducible refine HK.out.mono ?_
  rintro e y5 ⟨rfl, k1⟩
  have NN := Lib.hid (N5.out.below k1 N5.out.lt)
  have QQ := Lib.hid (Q5.out.below k1 Q5.out.lt)
  have GG := Lib.hid (G5.out.below k1 G5.out.lt)
  have AA := Lib.hid (A5.out.trans (k1.mono A5.out.size))
  have TT := Lib.hid (T5.out.below k1 T5.out.2.2.1 T5.out.2.2.2)
  clear k1 HK hcv N5 Q5 G5 A5 T5
  go_wp2_with (refine wpList_store_block rfl 34 _ _ rfl r 64 (byteCells m3) rfl rfl _ 58 NN.out (by rw [info28, byteCells_length, Hm3.out]) (by rw [byteCells_length, Hm3.out, splice_keep (by rw [byteCells_length, Hm2.out, splice_keep (by rw [byteCells_length, Hm1.out]; simp [zeros])]; simp [zeros]), splice_keep (by rw [byteCells_length, Hm1.out]; simp [zeros])]; simp [zeros]) (byteCells_one _) ?_)
  intro x6 h1 h2 h3
  have NB := Lib.hid (h2.out.below (Nat.le_of_lt hwr.out) AA.out.size)
  have N6 := h1
  have Q6 := Lib.hid (h2.out.is QQ.out hgr.out)
  have G6 := Lib.hid (h2.out.is GG.out (Nat.ne_of_lt hwr.out))
  have A6 := Lib.hid (AA.out.trans NB.out)
  have T6 := Lib.hid (TT.out.below NB.out HT0.out.1 HT0.out.2)
  clear h1 h2 h3 NB NN QQ GG AA TT
  have hrr := ring_row m1 m2 m3 Hm1.out Hm2.out Hm3.out
  have N6 : Hid (blockIs x6 r (byteCells L) 58) := Lib.hid (by rw [HLL.out, ← hrr]; exact N6.out)
  clear hrr
  have R6 := Lib.hid (range_of N6.out)
  go_wp2_with (first | (refine wpList_load_mid rfl 58 _ rfl r 0 rfl (byteCells L) _ R6.out Tryd.underlying58 rfl (by rw [infoRing, byteCells_length, HRL.out]) ?_) | (refine wpList_store_block rfl 58 _ _ rfl w.heap.size 0 (byteCells L) rfl rfl (zeros 96) 58 G6.out (by rw [infoRing, byteCells_length, HRL.out]) (by simp [zeros, byteCells_length, HRL.out]) (byteCells_one _) ?_))
  intro x7 h1 h2 h3
  have h1 := h1.out
  rw [splice_all _ _ (by simp [zeros, byteCells_length, HRL.out])] at h1
  have H1 := Lib.hid h1
  have H2 := Lib.hid (A6.out.trans (h2.out.below (Nat.le_refl _) A6.out.size))
  clear h1 h2 h3
  go_wp2_with fail
  refine bodyPost_ret (v := .tuple #[.agg (byteCells L).toArray, .int .i64 0]) (results_row_tmp (p := 6) (u := 7) (ty := 58) rfl _ _ w.heap.size _ rfl (run_loadVar_row _ w.heap.size 58 58 _ (0, 0) _ H1.out Tryd.underlying58 rfl (by rw [infoRing]; simp [byteCells_length, HRL.out]))) rfl ?_
  exact ⟨rfl, H2.out⟩
/-- What no ring is made of. -/
def badMake (K S0 : List UInt8) (z : Int) : Prop := K.length = 0 ∨ S0.length ≠ 16 ∨ z < 0 ∨ 100000 < z
set_option maxRecDepth 100000 in
set_option maxHeartbeats 2000000 in
theorem make_bad (a a2 : Option Addr) (c c2 : Nat) (K S0 : List UInt8) (z : Int) (w : World) (hb : badMake K S0 z) :
    Calls Tryd.prog 29 #[.slice a K.length c, .slice a2 S0.length c2, .int .i64 z] w fun e w' => e = .returned (.tuple #[.agg (zeros 96).toArray, .int .i64 1]) ∧ Below w.heap.size w w' := by
  have hzr := zeroRing
  have G0 := Lib.hid (blockIs.new w (zeros 96) 58)
  have A0 := Lib.hid (alloc_below w (.cells (zeros 96).toArray 58 (0, 0)))
  have HB : Hid (¬ ((K.length : Int) = 0) → (S0.length : Int) = 16 → ¬ z < 0 → ¬ 100000 < z → False) := Lib.hid (fun h1 h2 h3 h4 => by
    rcases hb with h | h | h | h <;> omega)
  clear hb
  generalize K.length = kl at *
  generalize S0.length = sl at *
  go_enter Tryd.func29, Tryd.ntmps29
  by_cases c1 : kl = 0
  · clear HB
    go_wp2_with (first | (refine wpList_build rfl 58 _ rfl _ _ (buildRing _) rfl ?_) | (refine wpList_store_block rfl 58 _ _ rfl w.heap.size 0 (zeros 96) rfl rfl (zeros 96) 58 G0.out (by rw [infoRing]; rfl) (by simp [zeros]) (byteCells_one (List.replicate 96 0)) ?_))
    intro x7 h1 h2 h3
    have h1 := h1.out
    rw [splice_all _ _ (by simp [zeros])] at h1
    have H1 := Lib.hid h1
    have H2 := Lib.hid (A0.out.trans (h2.out.below (Nat.le_refl _) A0.out.size))
    clear h1 h2 h3
    go_wp2_with fail
    refine bodyPost_ret (v := .tuple #[.agg (zeros 96).toArray, .int .i64 1]) (results_row_tmp (p := 6) (u := 7) (ty := 58) rfl _ _ w.heap.size _ rfl (run_loadVar_row _ w.heap.size 58 58 _ (0, 0) _ H1.out Tryd.underlying58 rfl (by rw [infoRing]; rfl))) rfl ?_
    exact ⟨rfl, H2.out⟩
  · have d1 : ¬ (kl : Int) = 0 := by omega
    by_cases c2 : sl = 16
    · have d2 : (sl : Int) = 16 := by omega
      by_cases c3 : z < 0
      · clear HB
        go_wp2_with (first | (refine wpList_build rfl 58 _ rfl _ _ (buildRing _) rfl ?_) | (refine wpList_store_block rfl 58 _ _ rfl w.heap.size 0 (zeros 96) rfl rfl (zeros 96) 58 G0.out (by rw [infoRing]; rfl) (by simp [zeros]) (byteCells_one (List.replicate 96 0)) ?_))
        intro x7 h1 h2 h3
        have h1 := h1.out
        rw [splice_all _ _ (by simp [zeros])] at h1
        have H1 := Lib.hid h1
        have H2 := Lib.hid (A0.out.trans (h2.out.below (Nat.le_refl _) A0.out.size))
        clear h1 h2 h3
        go_wp2_with fail
        refine bodyPost_ret (v := .tuple #[.agg (zeros 96).toArray, .int .i64 1]) (results_row_tmp (p := 6) (u := 7) (ty := 58) rfl _ _ w.heap.size _ rfl (run_loadVar_row _ w.heap.size 58 58 _ (0, 0) _ H1.out Tryd.underlying58 rfl (by rw [infoRing]; rfl))) rfl ?_
        exact ⟨rfl, H2.out⟩
      · have c4 : 100000 < z := by
          rcases Int.lt_or_le 100000 z with h | h
          · exact h
          · exact (HB.out d1 d2 c3 (by omega)).elim
        clear HB
        go_wp2_with (first | (refine wpList_build rfl 58 _ rfl _ _ (buildRing _) rfl ?_) | (refine wpList_store_block rfl 58 _ _ rfl w.heap.size 0 (zeros 96) rfl rfl (zeros 96) 58 G0.out (by rw [infoRing]; rfl) (by simp [zeros]) (byteCells_one (List.replicate 96 0)) ?_))
        intro x7 h1 h2 h3
        have h1 := h1.out
        rw [splice_all _ _ (by simp [zeros])] at h1
        have H1 := Lib.hid h1
        have H2 := Lib.hid (A0.out.trans (h2.out.below (Nat.le_refl _) A0.out.size))
        clear h1 h2 h3
        go_wp2_with fail
        refine bodyPost_ret (v := .tuple #[.agg (zeros 96).toArray, .int .i64 1]) (results_row_tmp (p := 6) (u := 7) (ty := 58) rfl _ _ w.heap.size _ rfl (run_loadVar_row _ w.heap.size 58 58 _ (0, 0) _ H1.out Tryd.underlying58 rfl (by rw [infoRing]; rfl))) rfl ?_
        exact ⟨rfl, H2.out⟩
    · have d2 : ¬ (sl : Int) = 16 := by omega
      clear HB
      go_wp2_with (first | (refine wpList_build rfl 58 _ rfl _ _ (buildRing _) rfl ?_) | (refine wpList_store_block rfl 58 _ _ rfl w.heap.size 0 (zeros 96) rfl rfl (zeros 96) 58 G0.out (by rw [infoRing]; rfl) (by simp [zeros]) (byteCells_one (List.replicate 96 0)) ?_))
      intro x7 h1 h2 h3
      have h1 := h1.out
      rw [splice_all _ _ (by simp [zeros])] at h1
      have H1 := Lib.hid h1
      have H2 := Lib.hid (A0.out.trans (h2.out.below (Nat.le_refl _) A0.out.size))
      clear h1 h2 h3
      go_wp2_with fail
      refine bodyPost_ret (v := .tuple #[.agg (zeros 96).toArray, .int .i64 1]) (results_row_tmp (p := 6) (u := 7) (ty := 58) rfl _ _ w.heap.size _ rfl (run_loadVar_row _ w.heap.size 58 58 _ (0, 0) _ H1.out Tryd.underlying58 rfl (by rw [infoRing]; rfl))) rfl ?_
      exact ⟨rfl, H2.out⟩
end Go.Proofs.YtjkhokholcchfaaDoor
