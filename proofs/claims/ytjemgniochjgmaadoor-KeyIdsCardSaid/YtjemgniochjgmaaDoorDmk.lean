/- The document's own Make. -/
import Derived.Test.YtjemgniochjgmaaDoorBld
import Derived.Test.YtjemgniochjgmaaDoorRst
namespace Go.Proofs.YtjemgniochjgmaaDoor
open Go.RowKit Sha

/-- copy of a text into a block that is known whole. -/
theorem wpList_copy_text {P : Program} {w : World} {ops : Array Oper} {rest : List Oper} {o : Oper} {a : Act} {Q : Exit → Act → World → Prop} (hgd : o.guard = none) (d s : Operand) (dT sT : TypeId)
    (ho : o.op = .call { callee := .builtin .copy, args := #[d, s], argTypes := #[dT, sT] }) (elem : TypeId) (hu : P.underlying dT = some (.slice elem)) (hsz : (P.info? elem).map (·.size) = some 1)
    (g off dLen dCap : Nat) (hd : a.eval d = .slice (some ⟨g, off, none⟩) dLen dCap) (l : List UInt8) (hs : a.eval s = .string (str l)) (cur : List Value) (t : TypeId) (hg : blockIs w g cur t) (hn : l.length ≤ dLen)
    (hfit : off + l.length ≤ cur.length)
    (h : ∀ w', Hid (blockIs w' g (splice cur off (byteCells l)) t) → Hid (But g w w') → Hid (w'.heap.size = w.heap.size) → wpList P ops Q rest (a.put o.dst (goInt l.length)) w') :
    wpList P ops Q (o :: rest) a w := by
  have hst := run_storeCells_at P g off t (byteCells l) 0 cur.toArray w hg (by simpa [byteCells_length] using hfit) (byteCells_one l)
  have hz : ∀ w, (Go.sizeOf elem).run P w = .ok 1 w := fun w => by
    cases hq : P.info? elem with
    | none => simp [hq] at hsz
    | some i =>
      have : i.size = 1 := by simpa [hq] using hsz
      simp [sizeOf, typeInfo, hq, this]
  have hmin : Nat.min (str l).size dLen = l.length := by rw [str_size]; exact Nat.min_eq_left hn
  have hcs : ((str l).data.toList.map fun x => Value.int .u8 (x.toNat : Int)) = byteCells l := rfl
  have hrun : (Builtin.copy_ #[dT, sT] o.type #[.slice (some ⟨g, off, none⟩) dLen dCap, .string (str l)]).run P w = .ok (goInt l.length) (w.setRow g (splice cur off (byteCells l)).toArray) := by
    simp only [Nat.add_zero] at hst
    simp [Builtin.copy_, run_underlying hu, Builtin.lenOf, Builtin.firstCells, hz, hmin]
    rw [hcs, List.take_of_length_le (by rw [byteCells_length]; exact Nat.le_refl _), hst]
    simp [splice]
  refine wpList_plain hgd fun K hK => ?_
  unfold Oper.wp
  simp [execOp, ho, resolve, invoke, builtin, hd, hs, hrun, Result.andThen]
  refine hK _ _ (h _ (show _ = _ by simpa using setRow_heap w g _ _ t _ hg) ⟨rfl, rfl, rfl, by simp [World.setRow], fun k _ hk => setRow_other w g k _ hk⟩ (by
      show (w.setRow g _).heap.size = _
      simp))

set_option maxRecDepth 100000 in
set_option maxHeartbeats 1000000 in
theorem of32_any (l : List UInt8) (w : World) (hl : l.length = 32) :
    Calls Tryd.prog 14 #[.string (str l)] w fun e w' => e = .returned (.agg (byteCells l).toArray) ∧ Below w.heap.size w w' := by
  have hz28 := zero28
  have HL := Lib.hid hl
  clear hl
  have G0 := Lib.hid (blockIs.new w (zeros 32) 23)
  have A0 := Lib.hid (alloc_below w (.cells (zeros 32).toArray 23 (0, 0)))
  have Z0 : Hid ((w.alloc (.cells (zeros 32).toArray 23 (0, 0))).heap.size = w.heap.size + 1) := Lib.hid (by simp)
  have N1 := Lib.hid (blockIs.new (w.alloc (.cells (zeros 32).toArray 23 (0, 0))) (zeros 32) 23)
  have B1 := Lib.hid (alloc_below (w.alloc (.cells (zeros 32).toArray 23 (0, 0))) (.cells (zeros 32).toArray 23 (0, 0)))
  rw [Z0.out] at N1 B1
  have G1 := Lib.hid (G0.out.below B1.out (Nat.lt_succ_self _))
  have A1 := Lib.hid (A0.out.trans (B1.out.mono (Nat.le_succ _)))
  clear G0 A0 Z0 B1
  go_enter Tryd.func14, Tryd.ntmps14
  go_wp2_with (refine wpList_copy_text rfl _ _ 22 9 rfl 5 Tryd.underlying22 size5 (w.heap.size + 1) 0 32 32 rfl l rfl (zeros 32) 23 N1.out (by rw [HL.out]; exact Nat.le_refl _) (by rw [HL.out]; simp [zeros]) ?_)
  intro w2 h1 h2 h3
  have h1 := h1.out
  rw [splice_all _ _ (by simp [zeros, byteCells_length, HL.out])] at h1
  have M2 := Lib.hid (range_of h1)
  have G2 := Lib.hid (h2.out.is G1.out (Nat.ne_of_lt (Nat.lt_succ_self _)))
  have A2 := Lib.hid (A1.out.trans (h2.out.below (Nat.le_succ _) A1.out.size))
  clear h1 h2 h3 G1 A1 N1
  go_wp2_with (first | (refine wpList_load_mid rfl 23 _ rfl (w.heap.size + 1) 0 rfl (byteCells l) _ M2.out Tryd.underlying23 rfl (by rw [info28, byteCells_length, HL.out]) ?_) | (refine wpList_store_block rfl 23 _ _ rfl w.heap.size 0 (byteCells l) rfl rfl (zeros 32) 23 G2.out (by rw [info28, byteCells_length, HL.out]) (by simp [zeros, byteCells_length, HL.out]) (byteCells_one _) ?_))
  intro w3 h1 h2 h3
  have h1 := h1.out
  rw [splice_all _ _ (by simp [zeros, byteCells_length, HL.out])] at h1
  have H1 := Lib.hid h1
  have H2 := Lib.hid (A2.out.trans (h2.out.below (Nat.le_refl _) A2.out.size))
  clear h1 h2 h3
  go_wp2_with fail
  refine bodyPost_ret (v := .agg (byteCells l).toArray) (results_cell_row rfl _ _ w.heap.size 23 _ (0, 0) _ rfl H1.out Tryd.underlying23 rfl (by rw [info28]; simp [byteCells_length, HL.out])) rfl ?_
  exact ⟨rfl, H2.out⟩
theorem keyed_txt (X : World) (s l : List UInt8) (hs : s.length = 32) (hl : l.length = 4) :
    Calls Tryd.prog 15 #[.string (str s), .string (str l)] X fun e w' => e = .returned (.string (str (hmac s l))) ∧ Below X.heap.size X w' :=
  rky_any s l X (by omega) (by omega)

set_option maxRecDepth 100000 in
set_option maxHeartbeats 2000000 in
theorem docMake_ok (K S0 : List UInt8) (z : Int) (w : World) (hK0 : 0 < K.length) (hKm : K.length ≤ 90000) (hS : S0.length = 16) (hz0 : 0 ≤ z) (hz : z ≤ 100000) :
    Calls Tryd.prog 6 #[.string (str K), .string (str S0), .int .i64 z] w fun e w' => e = .returned (.tuple #[.agg (byteCells (ringL (stretch K S0 z.toNat))).toArray, .int .i64 0]) ∧ Below w.heap.size w w' := by
  have hzr := zeroRing2
  have k1 := str_size K
  have k2 := str_size S0
  have k3 : ¬ str K = ⟨#[]⟩ := fun h => by
    have h0 : (str K).size = 0 := by rw [h]; rfl
    omega
  have e2 : (S0.length : Int) = 16 := by omega
  have e3 : ¬ z < 0 := by omega
  have e4 : ¬ 100000 < z := by omega
  have k4 : (str K).toList = K := by rw [ByteArray.toList_eq]; rfl
  have k5 : ¬ K = [] := fun h => by rw [h] at hK0; exact Nat.lt_irrefl _ hK0
  have k6 : K.isEmpty = false := by cases K; exact absurd rfl k5; rfl
  have k7 : ((str K).toList == (⟨#[]⟩ : ByteArray).toList) = false := by rw [k4, ByteArray.toList_eq]; cases K; exact absurd rfl k5; rfl
  have G0 := Lib.hid (blockIs.new w (zeros 96) 33)
  have A0 := Lib.hid (alloc_below w (.cells (zeros 96).toArray 33 (0, 0)))
  have Z0 : Hid (w.heap.size < (w.alloc (.cells (zeros 96).toArray 33 (0, 0))).heap.size) := Lib.hid G0.out.lt
  have HS := Lib.hid (rst_any K S0 z (w.alloc (.cells (zeros 96).toArray 33 (0, 0))) (by omega) (by omega) hz)
  have HL : Hid ((stretch K S0 z.toNat).length = 32) := Lib.hid (stretch_length _ _ _)
  clear hK0 hKm hS hz0 hz
  generalize stretch K S0 z.toNat = s at *
  obtain ⟨m1, hm1⟩ : ∃ m, m = hmac s hideW := ⟨_, rfl⟩
  have Hm1 : Hid (m1.length = 32) := Lib.hid (by rw [hm1]; exact hmac_length _ _)
  have Wm1 : Hid (∀ X : World, Calls Tryd.prog 15 #[.string (str s), .string ⟨#[104, 105, 100, 101]⟩] X fun e w' => e = .returned (.string (str m1)) ∧ Below X.heap.size X w') := Lib.hid (fun X => by rw [hm1]; exact keyed_txt X s hideW HL.out rfl)
  have Om1 := Lib.hid (fun X => of32_any m1 X Hm1.out)
  obtain ⟨m2, hm2⟩ : ∃ m, m = hmac s markW := ⟨_, rfl⟩
  have Hm2 : Hid (m2.length = 32) := Lib.hid (by rw [hm2]; exact hmac_length _ _)
  have Wm2 : Hid (∀ X : World, Calls Tryd.prog 15 #[.string (str s), .string ⟨#[109, 97, 114, 107]⟩] X fun e w' => e = .returned (.string (str m2)) ∧ Below X.heap.size X w') := Lib.hid (fun X => by rw [hm2]; exact keyed_txt X s markW HL.out rfl)
  have Om2 := Lib.hid (fun X => of32_any m2 X Hm2.out)
  obtain ⟨m3, hm3⟩ : ∃ m, m = hmac s nameW := ⟨_, rfl⟩
  have Hm3 : Hid (m3.length = 32) := Lib.hid (by rw [hm3]; exact hmac_length _ _)
  have Wm3 : Hid (∀ X : World, Calls Tryd.prog 15 #[.string (str s), .string ⟨#[110, 97, 109, 101]⟩] X fun e w' => e = .returned (.string (str m3)) ∧ Below X.heap.size X w') := Lib.hid (fun X => by rw [hm3]; exact keyed_txt X s nameW HL.out rfl)
  have Om3 := Lib.hid (fun X => of32_any m3 X Hm3.out)
  rw [show ringL s = m1 ++ (m2 ++ m3) by rw [hm1, hm2, hm3]; rfl]
  clear hm1 hm2 hm3
  have ee : byteCells (m1 ++ (m2 ++ m3)) = (byteCells m1 ++ byteCells m2) ++ byteCells m3 := by simp [byteCells]
  have hb2 := fun X => buildRing2 (byteCells m1 ++ byteCells m2) (byteCells m3) (by rw [List.length_append, byteCells_length, byteCells_length, Hm1.out, Hm2.out]) (by rw [byteCells_length, Hm3.out]) X
  have HRL : Hid (((byteCells m1 ++ byteCells m2) ++ byteCells m3).length = 96) := Lib.hid (by rw [List.length_append, List.length_append, byteCells_length, byteCells_length, byteCells_length, Hm1.out, Hm2.out, Hm3.out])
  have HR1 : Hid (∀ v ∈ (byteCells m1 ++ byteCells m2) ++ byteCells m3, v.oneCell' = true) := Lib.hid (by rw [← ee]; exact byteCells_one _)
  rw [ee]
  clear ee
  obtain ⟨L, hL⟩ : ∃ L, L = (byteCells m1 ++ byteCells m2) ++ byteCells m3 := ⟨_, rfl⟩
  rw [← hL] at HRL HR1 ⊢
  simp only [← hL] at hb2
  clear hL
  have HB2 := Lib.hid hb2
  clear hb2
  go_enter Tryd.func6, Tryd.ntmps6
  go_wp2_with fail
  generalize w.alloc (.cells (zeros 96).toArray 33 (0, 0)) = w0 at *
  with_reducible refine HS.out.mono ?_
  rintro e w1 ⟨rfl, k1⟩
  have G1 := Lib.hid (G0.out.below k1 Z0.out)
  have A1 := Lib.hid (A0.out.trans (k1.mono A0.out.size))
  have Z1 := Lib.hid (Nat.lt_of_lt_of_le Z0.out k1.size)
  clear G0 A0 Z0 k1 HS e2 e3 e4 k2 k3 k4 k5 k6 k7
  go_wp2_with fail
  with_reducible refine (Wm1.out _).mono ?_
  rintro e w2 ⟨rfl, k1⟩
  have G2 := Lib.hid (G1.out.below k1 Z1.out)
  have A2 := Lib.hid (A1.out.trans (k1.mono A1.out.size))
  have Z2 := Lib.hid (Nat.lt_of_lt_of_le Z1.out k1.size)
  clear G1 A1 Z1 k1
  go_wp2_with fail
  with_reducible refine (Om1.out _).mono ?_
  rintro e w3 ⟨rfl, k1⟩
  have G3 := Lib.hid (G2.out.below k1 Z2.out)
  have A3 := Lib.hid (A2.out.trans (k1.mono A2.out.size))
  have Z3 := Lib.hid (Nat.lt_of_lt_of_le Z2.out k1.size)
  clear G2 A2 Z2 k1
  go_wp2_with fail
  with_reducible refine (Wm2.out _).mono ?_
  rintro e w4 ⟨rfl, k1⟩
  have G4 := Lib.hid (G3.out.below k1 Z3.out)
  have A4 := Lib.hid (A3.out.trans (k1.mono A3.out.size))
  have Z4 := Lib.hid (Nat.lt_of_lt_of_le Z3.out k1.size)
  clear G3 A3 Z3 k1
  go_wp2_with fail
  with_reducible refine (Om2.out _).mono ?_
  rintro e w5 ⟨rfl, k1⟩
  have G5 := Lib.hid (G4.out.below k1 Z4.out)
  have A5 := Lib.hid (A4.out.trans (k1.mono A4.out.size))
  have Z5 := Lib.hid (Nat.lt_of_lt_of_le Z4.out k1.size)
  clear G4 A4 Z4 k1
  have hb1 := fun X => buildKeys (byteCells m1) (byteCells m2) (by rw [byteCells_length, Hm1.out]) (by rw [byteCells_length, Hm2.out]) X
  go_wp2_with (refine wpList_build rfl 31 _ rfl _ _ (hb1 _) rfl ?_)
  with_reducible refine (Wm3.out _).mono ?_
  rintro e w6 ⟨rfl, k1⟩
  have G6 := Lib.hid (G5.out.below k1 Z5.out)
  have A6 := Lib.hid (A5.out.trans (k1.mono A5.out.size))
  have Z6 := Lib.hid (Nat.lt_of_lt_of_le Z5.out k1.size)
  clear G5 A5 Z5 k1 hb1
  go_wp2_with fail
  with_reducible refine (Om3.out _).mono ?_
  rintro e w7 ⟨rfl, k1⟩
  have G7 := Lib.hid (G6.out.below k1 Z6.out)
  have A7 := Lib.hid (A6.out.trans (k1.mono A6.out.size))
  clear G6 A6 Z6 k1
  go_wp2_with (first | (refine wpList_build rfl 33 _ rfl _ _ (HB2.out _) rfl ?_) | (refine wpList_store_block rfl 33 _ _ rfl w.heap.size 0 L rfl rfl (zeros 96) 33 G7.out (by rw [infoRing2, HRL.out]) (by simp [zeros, HRL.out]) HR1.out ?_))
  intro w8 h1 h2 h3
  have h1 := h1.out
  rw [splice_all _ _ (by simp [zeros, HRL.out])] at h1
  have H1 := Lib.hid h1
  have H2 := Lib.hid (A7.out.trans (h2.out.below (Nat.le_refl _) A7.out.size))
  clear h1 h2 h3
  go_wp2_with fail
  refine bodyPost_ret (v := .tuple #[.agg L.toArray, .int .i64 0]) (results_row_tmp (p := 6) (u := 7) (ty := 33) rfl _ _ w.heap.size _ rfl (run_loadVar_row _ w.heap.size 33 33 _ (0, 0) _ H1.out Tryd.underlying33 rfl (by rw [infoRing2]; simp [HRL.out]))) rfl ?_
  exact ⟨rfl, H2.out⟩
end Go.Proofs.YtjemgniochjgmaaDoor
