/- The law PackFull: its walk. -/
import Derived.Test.YtfhlcondnaahiaaDoorFe
import Derived.Test.YtfhlcondnaahiaaDoorHj
namespace Go.Proofs.YtfhlcondnaahiaaDoor
open Go.RowKit Sha

theorem full_first (sz : Nat) (ZS : List UInt8) (hz : ZS = List.replicate sz 0) (hs : sz ≤ 131073) :
    (131072 < sz → addR (kN 3 1) (kN 3 2) (kN 3 3) [3] 0 [] [] 1 ZS = ⟨zero32, false, 4, 0, [], []⟩) ∧
    (sz ≤ 131072 → ∃ SB : List UInt8, SB.length = sz + 48 ∧ addR (kN 3 1) (kN 3 2) (kN 3 3) [3] 0 [] [] 1 ZS = ⟨id1 sz, true, 0, 16, SB, [⟨id1 sz, 1, 0, sz + 48⟩]⟩) := by
  have hl : ZS.length = sz := by rw [hz, List.length_replicate]
  have hid : hmac (kN 3 3) (1 :: ZS) = id1 sz := by rw [hz]; rfl
  unfold addR
  rw [hl, hid]
  constructor
  · intro h
    rw [if_pos h]
  · intro h
    rw [if_neg (by omega), if_neg (by simp), if_neg (by simp; omega)]
    refine ⟨_, ?_, rfl⟩
    rw [List.nil_append, wseal_length _ _ _ _ _ _ (tbytes_16 _ _), hl]
theorem full_again (sz told : Nat) (B : List UInt8) (L : List En) (ZS : List UInt8) (hz : ZS = List.replicate sz 0) (hs : sz ≤ 131072) (hin : id1 sz ∈ L.map En.id) :
    addR (kN 3 1) (kN 3 2) (kN 3 3) [3] told B L 1 ZS = ⟨id1 sz, false, 0, told, B, L⟩ := by
  have hl : ZS.length = sz := by rw [hz, List.length_replicate]
  have hid : hmac (kN 3 3) (1 :: ZS) = id1 sz := by rw [hz]; rfl
  unfold addR
  rw [hl, hid, if_neg (by omega), if_pos hin]
theorem full_step (k told : Nat) (B : List UInt8) (L : List En) (ZB : List UInt8) (hz : ZB = List.replicate 131071 0) (hni : idT k ∉ L.map En.id) (hL : L.length ≤ 20) :
    (900000 < B.length + 131072 + 48 → addR (kN 3 1) (kN 3 2) (kN 3 3) [3] told B L 2 (ZB ++ [UInt8.ofNat (k + 1)]) = ⟨zero32, false, 8, told, B, L⟩) ∧
    (¬ 900000 < B.length + 131072 + 48 → ∃ SB : List UInt8, SB.length = 131120 ∧ addR (kN 3 1) (kN 3 2) (kN 3 3) [3] told B L 2 (ZB ++ [UInt8.ofNat (k + 1)]) = ⟨idT k, true, 0, told + 16, B ++ SB, L ++ [⟨idT k, 2, B.length, 131120⟩]⟩) := by
  have hl : (ZB ++ [UInt8.ofNat (k + 1)]).length = 131072 := by rw [hz, List.length_append, List.length_replicate, List.length_singleton]
  have hid : hmac (kN 3 3) (2 :: (ZB ++ [UInt8.ofNat (k + 1)])) = idT k := by rw [hz]; rfl
  unfold addR
  rw [hl, hid, if_neg (by omega), if_neg hni]
  constructor
  · intro h
    rw [if_pos (Or.inr h)]
  · intro h
    rw [if_neg (by omega)]
    refine ⟨_, ?_, rfl⟩
    rw [wseal_length _ _ _ _ _ _ (tbytes_16 _ _), hl]
theorem WrAt.lo {w X : World} {base wb tb : Nat} {fa : Option Addr} {fc : Nat} {F : List UInt8} {told : Nat} {PC : List Value} {B : List UInt8} {L : List En} {v1 v2 : Value} {gm : Option Nat} (h : WrAt X base wb tb fa fc F told PC B L v1 v2 gm) (h1 : w.heap.size ≤ wb) (h2 : w.heap.size ≤ tb) (h3 : w.heap.size ≤ base) : ∀ k, wF wb tb v1 v2 gm k → w.heap.size ≤ k := fun k q => by
  rcases q with q | q | q | q | q
  · omega
  · omega
  · have := (h.a.lt k q).1; omega
  · have := (h.e.lt k q).1; omega
  · rcases h.s with ⟨e, -⟩ | ⟨g, e, hb, hs⟩
    · rw [e] at q; cases q
    · rw [e] at q; cases q; omega
theorem in_new (X : World) (l : List UInt8) : bytesIn (X.alloc (.cells (byteCells l).toArray 5 (0, 0))) (some ⟨X.heap.size, 0, none⟩) l := salt_in _ _ l (0, 0) (heap_alloc_new X _)
theorem bi_but {X Y : World} {q tb : Nat} {l : List UInt8} (h : bytesIn X (some ⟨q, 0, none⟩) l) (k : But tb X Y) (hn : q ≠ tb) : bytesIn Y (some ⟨q, 0, none⟩) l := by
  rcases h with h | ⟨b, o, e, hc⟩
  · exact Or.inl h
  · cases e
    exact Or.inr ⟨_, _, rfl, fun i hi => k.cell (hc i hi) hn⟩
/-- What the law holds, behind k blobs of the second kind. -/
structure FuS (w X : World) (base wb tb : Nat) (fa : Option Addr) (fc : Nat) (sz k told : Nat) (B : List UInt8) (L : List En) (v1 v2 : Value) (gm : Option Nat) : Prop where
  o : WrAt X base wb tb fa fc [3] told (penCells (ringN 3) tb) B L v1 v2 gm
  tl : told ≤ 16 * (k + 1)
  lb : L.length ≤ k + 1
  bb : B.length ≤ 900000
  ids : ∀ x ∈ L, (x.id = id1 sz ∧ sz ≤ 131072) ∨ ∃ t, t < k ∧ x.id = idT t
  on : sz ≤ 131072 → id1 sz ∈ L.map En.id
  bl : Below w.heap.size w X
set_option maxRecDepth 100000 in
set_option maxHeartbeats 8000000 in
theorem law_packFull (size count : Int) (w : World) (ht : tables w) :
    Calls Tryd.prog 5 #[.int .i64 size, .int .i64 count] w fun e w' => e = .returned (.bool true) ∧ Below w.heap.size w w' := by
  have T0 := Lib.hid ht
  obtain ⟨d, hd, hdw⟩ := four_mod size
  obtain ⟨q, hq, hqw⟩ := nine_mod count
  obtain ⟨sz, hsz⟩ : ∃ sz, sz = 131070 + d := ⟨_, rfl⟩
  have hsw : IntKind.i64.wrap (131070 + (d : Int)) = (sz : Int) := by rw [IntWalk.i64_in _ (by omega)]; omega
  have SZ : Hid ((sz = 131070 ∨ sz = 131071 ∨ sz = 131072) ∨ sz = 131073) := Lib.hid (by omega)
  have hs3 : sz ≤ 131073 := by omega
  obtain ⟨ZS, hZS⟩ : ∃ ZS, ZS = List.replicate sz (0 : UInt8) := ⟨_, rfl⟩
  have hmk := mk_zeros sz (by omega)
  rw [← hZS] at hmk
  have ZL : Hid (ZS.length = sz) := Lib.hid (by rw [hZS, List.length_replicate])
  have ZE := Lib.hid hZS
  have WA := writers_any 3 w ht
  rw [show V 3 = 3 from rfl] at WA
  have hz := zeroId
  have HQ := Lib.hid hqw
  have FF := Lib.hid (full_first sz ZS hZS hs3)
  clear hZS ht hqw hsz
  go_enter Tryd.func5, Tryd.ntmps5
  go_wp2_with ((with_reducible refine WA.mono ?_); rintro e w1 ⟨wb, tb, fa, fc, rp, rfl, hW, l1, l2, -, -, -, kb⟩; refine Hid.out ?_)
  refine Lib.hid ?_
  clear hdw hsw hd
  obtain ⟨base, hbase⟩ : ∃ base, base = w1.heap.size := ⟨_, rfl⟩
  rw [← hbase] at hW
  have LO : Hid (w.heap.size ≤ wb ∧ w.heap.size ≤ tb ∧ w.heap.size ≤ base) := Lib.hid ⟨l1, l2, by rw [hbase]; exact kb.size⟩
  have T1 := T0.out.below kb T0.out.2.2.1 T0.out.2.2.2
  have PLN := Lib.hid (penCells_length (ringN 3) tb (ringN_length 3))
  have A1 := alloc_below w1 (.cells (byteCells ZS).toArray 5 (0, 0))
  have A2 := alloc_below (w1.alloc (.cells (byteCells ZS).toArray 5 (0, 0))) (.cells #[.slice (some ⟨w1.heap.size, 0, none⟩) sz sz] 30 (0, 0))
  have HT : w1.heap.size ≠ tb := Nat.ne_of_gt (Nat.lt_of_lt_of_le hW.tl hW.b)
  have HT2 : w1.heap.size + 1 ≠ tb := by have := Nat.lt_of_lt_of_le hW.tl hW.b; omega
  have AM := add_any base wb tb fa fc [3] 0 (kN 3 1) (kN 3 2) (kN 3 3) [] [] _ _ _ 1 (some ⟨w1.heap.size + 1, 0, none⟩) 1 [ZS] ((w1.alloc (.cells (byteCells ZS).toArray 5 (0, 0))).alloc (.cells #[.slice (some ⟨w1.heap.size, 0, none⟩) sz sz] 30 (0, 0))) (kN_length _ _) (kN_length _ _) (kN_length _ _) (Or.inl rfl)
    ((hW.below A1).below A2) ((T1.below A1 T1.2.2.1 T1.2.2.2).below A2 (T1.below A1 T1.2.2.1 T1.2.2.2).2.2.1 (T1.below A1 T1.2.2.1 T1.2.2.2).2.2.2) (by simp) (by simp) (fun h => by cases h) (by rw [show [ZS].flatten = ZS by simp, ZL.out]; omega)
    (fun Y k => parts_one_but (g := w1.heap.size + 1) (q := w1.heap.size) (n := sz) (c := sz) (l := ZS) (by have := blockIs.last (w1.alloc (.cells (byteCells ZS).toArray 5 (0, 0))) [.slice (some ⟨w1.heap.size, 0, none⟩) sz sz] 30 (w1.heap.size + 1) (by simp); exact this.cell 0) ZL.out.symm ⟨Nat.le_refl _, by omega⟩ ((in_new w1 ZS).below A2) HT2 HT Y k) (by omega) (by simp) (by simp)
  rw [show V 1 = 1 from rfl, show [ZS].flatten = ZS by simp, show ([ZS] : List (List UInt8)).length = 1 from rfl] at AM
  have KB1 := Lib.hid (kb.trans ((A1.trans (A2.mono A1.size)).mono kb.size))
  have W1 := Lib.hid ((hW.below A1).below A2)
  obtain ⟨R0, hR0⟩ : ∃ R, R = addR (kN 3 1) (kN 3 2) (kN 3 3) [3] 0 [] [] 1 ZS := ⟨_, rfl⟩
  rw [← hR0] at AM FF
  have R0F : Hid (R0.id.length = 32 ∧ R0.told ≤ 16 ∧ R0.L.length ≤ 1 ∧ R0.B.length ≤ 900000 ∧ (∀ x ∈ R0.L, x.id = id1 sz ∧ sz ≤ 131072) ∧ (sz ≤ 131072 → id1 sz ∈ R0.L.map En.id)) := Lib.hid (by
    rcases Nat.lt_or_ge 131072 sz with h | h
    · rw [FF.out.1 h]
      exact ⟨rfl, Nat.zero_le _, Nat.zero_le _, Nat.zero_le _, fun x hx => absurd hx List.not_mem_nil, fun h2 => by omega⟩
    · obtain ⟨SB, hSB, e⟩ := FF.out.2 h
      rw [e]
      refine ⟨hmac_length _ _, Nat.le_refl _, Nat.le_refl _, ?_, ?_, ?_⟩
      · show SB.length ≤ _
        omega
      · intro x hx
        rw [List.mem_singleton.1 hx]
        exact ⟨rfl, h⟩
      · intro _
        simp)
  have YE : Hid ((131072 < sz → R0.yes = false ∧ R0.er = 4) ∧ (sz ≤ 131072 → R0.yes = true ∧ R0.er = 0)) := Lib.hid ⟨fun h => by rw [FF.out.1 h]; exact ⟨rfl, rfl⟩, fun h => by obtain ⟨SB, hSB, e⟩ := FF.out.2 h; rw [e]; exact ⟨rfl, rfl⟩⟩
  clear WA kb l1 l2 hW T1 A1 A2 HT HT2 hbase FF hR0
  go_wp2_with (first
    | ((with_reducible refine AM.mono ?_); rintro e w2 ⟨rfl, u1, u2, gn, hW2, hK2, hN2⟩)
    | (refine wpList_store_block rfl 24 _ _ rfl _ 0 (byteCells R0.id) rfl rfl (zeros 32) 24 (blockIs.new _ (zeros 32) 24) (by rw [infoId, byteCells_length, R0F.out.1]) (by simp [zeros, byteCells_length, R0F.out.1]) (byteCells_one _) ?_))
  intro w3 P1 P2 P3
  have AZ := alloc_below w2 (.cells (zeros 32).toArray 24 (0, 0))
  have AZ2 := AZ.trans (P2.out.below (Nat.le_refl _) AZ.size)
  have B2 : Below w.heap.size w w2 := Kp.lowF (W1.out.lo LO.out.1 LO.out.2.1 LO.out.2.2) KB1.out hK2
  have FS3 : Hid (FuS w w3 base wb tb fa fc sz 0 R0.told R0.B R0.L u1 u2 gn) := Lib.hid ⟨hW2.below AZ2, R0F.out.2.1, R0F.out.2.2.1, R0F.out.2.2.2.1, fun x hx => Or.inl (R0F.out.2.2.2.2.1 x hx), R0F.out.2.2.2.2.2, B2.trans (AZ2.mono B2.size)⟩
  have T3 := T0.out.below FS3.out.bl T0.out.2.2.1 T0.out.2.2.2
  have PK := packs_any w3 T3
  clear AM hW2 hK2 hN2 P1 P2 P3 AZ AZ2 B2 KB1 W1 T3 R0F
  rcases Nat.lt_or_ge 131072 sz with hbg | hbg
  case' inl =>
    have y0 := (YE.out.1 hbg).1
    have y1 := (YE.out.1 hbg).2
    have c1 : ¬ (sz : Int) ≤ 131072 := by omega
    have c2 : (131072 : Int) < (sz : Int) := by omega
  case' inr =>
    have y0 := (YE.out.2 hbg).1
    have y1 := (YE.out.2 hbg).2
    have c1 : (sz : Int) ≤ 131072 := by omega
    have c2 : ¬ (131072 : Int) < (sz : Int) := by omega
  all_goals
    go_wp2_with ((with_reducible refine PK.mono ?_); rintro e w4 ⟨rfl, kb⟩; refine Hid.out ?_)
    refine Lib.hid ?_
    have FS4 : Hid (FuS w w4 base wb tb fa fc sz 0 R0.told R0.B R0.L u1 u2 gn) := Lib.hid ⟨FS3.out.o.below kb, FS3.out.tl, FS3.out.lb, FS3.out.bb, FS3.out.ids, FS3.out.on, FS3.out.bl.trans (kb.mono FS3.out.bl.size)⟩
    clear PK kb FS3
    have CN := count_any wb _ u1 u2 (.map gn) base R0.L.length _ w4 PLN.out FS4.out.o.i FS4.out.o.e
    have ZN := size_any wb _ u1 u2 (.map gn) base R0.B.length _ w4 PLN.out FS4.out.o.i FS4.out.o.a
    have hqw := HQ.out
    go_wp2_with (first
      | (with_reducible refine CN.mono ?_; rintro e wx ⟨rfl, rfl⟩)
      | (with_reducible refine ZN.mono ?_; rintro e wx ⟨rfl, rfl⟩))
    clear CN ZN hqw y0 y1 YE HQ
    go_loopw [12, 10, 11] (fun i hd by_ wr => ∃ (k told : Nat) (B : List UInt8) (L : List En) (v1 v2 : Value) (gm : Option Nat), k ≤ q ∧ i = .int .i64 (k : Int) ∧ hd = .int .i64 (L.length : Int) ∧ by_ = .int .i64 (B.length : Int) ∧ Hid (FuS w wr base wb tb fa fc sz k told B L v1 v2 gm)) (fun i _ _ _ => q - (intOf i).toNat)
    case atStart => exact ⟨0, _, _, _, u1, u2, gn, Nat.zero_le _, rfl, rfl, rfl, FS4⟩
    case round =>
      clear FS4
      obtain ⟨k, told, B, L, v1, v2, gm, hk, rfl, rfl, rfl, FS⟩ := hrel
      have k0 : 0 ≤ (k : Int) := by omega
      by_cases hlt : k < q
      · have k1 : (k : Int) < (q : Int) := by omega
        have k8 : k < 8 := by omega
        have hL9 : L.length ≤ 9 := by have := FS.out.lb; omega
        have hB9 := FS.out.bb
        obtain ⟨k', hk'⟩ : ∃ k', k' = k + 1 := ⟨_, rfl⟩
        have kw : IntKind.i64.wrap ((k : Int) + 1) = (k' : Int) := by rw [IntWalk.i64_in _ (by omega)]; omega
        have x8 : IntKind.u8.wrap (k' : Int) = V (UInt8.ofNat k') := by have := wrap8 k' 1; simpa using this
        obtain ⟨x, hx⟩ : ∃ x, x = UInt8.ofNat k' := ⟨_, rfl⟩
        rw [← hx] at x8
        have XE : Hid (x = UInt8.ofNat (k + 1)) := Lib.hid (by rw [hx, hk'])
        have KE := Lib.hid hk'
        obtain ⟨ZB, hZB⟩ : ∃ ZB, ZB = List.replicate 131071 (0 : UInt8) := ⟨_, rfl⟩
        have hmb := mk_zeros 131071 (by decide)
        rw [← hZB, show ((131071 : Nat) : Int) = 131071 from rfl] at hmb
        have ZBL : Hid (ZB.length = 131071) := Lib.hid (by rw [hZB, List.length_replicate])
        have hni : idT k ∉ L.map En.id := fun hm => by
          obtain ⟨y, hy, e⟩ := List.mem_map.1 hm
          rcases FS.out.ids y hy with ⟨e2, h2⟩ | ⟨t, ht2, e2⟩
          · exact id1_ne sz k (by have := SZ.out; omega) k8 (e2.symm.trans e)
          · exact idT_ne t k (by omega) k8 (by omega) (e2.symm.trans e)
        have ST := Lib.hid (full_step k told B L ZB hZB hni (by omega))
        rw [← XE.out] at ST
        have A1 := alloc_below wr (.cells (byteCells ZB).toArray 5 (0, 0))
        have A2 := alloc_below (wr.alloc (.cells (byteCells ZB).toArray 5 (0, 0))) (.cells #[.int .u8 (V x)] 5 (0, 0))
        have A3 := alloc_below ((wr.alloc (.cells (byteCells ZB).toArray 5 (0, 0))).alloc (.cells #[.int .u8 (V x)] 5 (0, 0))) (.cells #[.slice (some ⟨wr.heap.size, 0, none⟩) 131071 131071, .slice (some ⟨wr.heap.size + 1, 0, none⟩) 1 1] 30 (0, 0))
        have AA := A1.trans ((A2.trans (A3.mono A2.size)).mono A1.size)
        have hs2 : (wr.alloc (.cells (byteCells ZB).toArray 5 (0, 0))).heap.size = wr.heap.size + 1 := by simp
        have hbz := FS.out.o.b
        have htl := FS.out.o.tl
        have HT0 : wr.heap.size ≠ tb := by omega
        have HT1 : wr.heap.size + 1 ≠ tb := by omega
        have HT2 : wr.heap.size + 1 + 1 ≠ tb := by omega
        have LB := blockIs.last ((wr.alloc (.cells (byteCells ZB).toArray 5 (0, 0))).alloc (.cells #[.int .u8 (V x)] 5 (0, 0))) [.slice (some ⟨wr.heap.size, 0, none⟩) 131071 131071, .slice (some ⟨wr.heap.size + 1, 0, none⟩) 1 1] 30 (wr.heap.size + 1 + 1) (by simp)
        have I1 := ((in_new wr ZB).below A2).below A3
        have I2 := (in_new (wr.alloc (.cells (byteCells ZB).toArray 5 (0, 0))) [x]).below A3
        rw [hs2] at I2
        have B3 : Below w.heap.size w (((wr.alloc (.cells (byteCells ZB).toArray 5 (0, 0))).alloc (.cells #[.int .u8 (V x)] 5 (0, 0))).alloc (.cells #[.slice (some ⟨wr.heap.size, 0, none⟩) 131071 131071, .slice (some ⟨wr.heap.size + 1, 0, none⟩) 1 1] 30 (0, 0))) := FS.out.bl.trans (AA.mono FS.out.bl.size)
        have AM := add_any base wb tb fa fc [3] told (kN 3 1) (kN 3 2) (kN 3 3) B L v1 v2 gm 2 (some ⟨wr.heap.size + 1 + 1, 0, none⟩) 2 [ZB, [x]] _ (kN_length _ _) (kN_length _ _) (kN_length _ _) (Or.inr rfl)
          (FS.out.o.below AA) (T0.out.below B3 T0.out.2.2.1 T0.out.2.2.2) (by simp) (by simp) (fun h => by cases h) (by rw [show [ZB, [x]].flatten = ZB ++ [x] by simp, List.length_append, ZBL.out, List.length_singleton]; omega)
          (fun Y kY => two_parts2 (p := ⟨some ⟨wr.heap.size, 0, none⟩, 131071, ZB⟩) (q := ⟨some ⟨wr.heap.size + 1, 0, none⟩, 1, [x]⟩) (by show _ = some (Value.slice _ ZB.length _); rw [ZBL.out]; exact LB.cell 0) (LB.cell 1) HT2 Y kY
            ⟨⟨Nat.le_of_eq ZBL.out, (show 131071 ≤ 9223372036854775807 by decide), bi_but I1 kY HT0⟩, fun h => by cases h⟩ ⟨⟨Nat.le_refl _, (show 1 ≤ 9223372036854775807 by decide), bi_but I2 kY HT1⟩, fun h => by cases h⟩)
          (by have := FS.out.tl; omega) (by omega) FS.out.bb
        rw [show V 2 = 2 from rfl, show [ZB, [x]].flatten = ZB ++ [x] by simp, show ([ZB, [x]] : List (List UInt8)).length = 2 from rfl] at AM
        have B3 := Lib.hid B3
        have W3 := Lib.hid (FS.out.o.below AA)
        have gB : IntKind.i64.wrap (900000 - (B.length : Int)) = 900000 - (B.length : Int) := by rw [IntWalk.i64_in _ (by omega)]
        clear hZB hk' hx hni A1 A2 A3 AA hs2 HT0 HT1 HT2 LB I1 I2
        by_cases hf : 900000 < B.length + 131072 + 48
        · have hR := ST.out.1 hf
          rw [hR] at AM
          have il : zero32.length = 32 := rfl
          have c3 : ¬ (131120 : Int) ≤ 900000 - (B.length : Int) := by omega
          generalize zero32 = ID at *
          clear hR ST
          go_wp2_with (first
            | ((with_reducible refine AM.mono ?_); rintro e w5 ⟨rfl, u1, u2, gn, hW5, hK5, hN5⟩)
            | (refine wpList_store_block rfl 24 _ _ rfl _ 0 (byteCells ID) rfl rfl (zeros 32) 24 (blockIs.new _ (zeros 32) 24) (by rw [infoId, byteCells_length, il]) (by simp [zeros, byteCells_length, il]) (byteCells_one _) ?_))
          intro w6 P1 P2 P3
          have AZ := alloc_below w5 (.cells (zeros 32).toArray 24 (0, 0))
          have AZ2 := AZ.trans (P2.out.below (Nat.le_refl _) AZ.size)
          have B5 : Below w.heap.size w w5 := Kp.lowF (W3.out.lo LO.out.1 LO.out.2.1 LO.out.2.2) B3.out hK5
          have W6 := hW5.below AZ2
          have B6 := B5.trans (AZ2.mono B5.size)
          have FS7 : Hid (FuS w w6 base wb tb fa fc sz (k + 1) (told) B L u1 u2 gn) := Lib.hid ⟨W6, by have := FS.out.tl; omega, by have := FS.out.lb; omega, FS.out.bb, fun y hy => (FS.out.ids y hy).imp id fun ⟨t, h1, h2⟩ => ⟨t, by omega, h2⟩, FS.out.on, B6⟩
          have CN := count_any wb _ u1 u2 (.map gn) base L.length _ w6 PLN.out W6.i W6.e
          have ZN := size_any wb _ u1 u2 (.map gn) base B.length _ w6 PLN.out W6.i W6.a
          clear AM hW5 hK5 hN5 P1 P2 P3 AZ AZ2 B5 W6 B6 W3 B3 FS
          go_wp2_with (first
            | (with_reducible refine CN.mono ?_; rintro e wx ⟨rfl, rfl⟩)
            | (with_reducible refine ZN.mono ?_; rintro e wx ⟨rfl, rfl⟩))
          clear kw x8
          have hk9 := KE.out
          subst hk9
          go_roundw
          case rel => exact ⟨k + 1, told, B, L, u1, u2, gn, by omega, by go_num, rfl, rfl, FS7⟩
          case measure => simp [intOf]; omega
        · obtain ⟨SB, hSB, hR⟩ := ST.out.2 hf
          rw [hR] at AM
          have il : (idT k).length = 32 := hmac_length _ _
          have c3 : (131120 : Int) ≤ 900000 - (B.length : Int) := by omega
          have LN : Hid (L ++ [⟨idT k, 2, B.length, 131120⟩] = L ++ [⟨idT k, 2, B.length, 131120⟩]) := Lib.hid rfl
          obtain ⟨B2, hB2⟩ : ∃ B2, B2 = B ++ SB := ⟨_, rfl⟩
          obtain ⟨L2, hL2⟩ : ∃ L2, L2 = L ++ [(⟨idT k, 2, B.length, 131120⟩ : En)] := ⟨_, rfl⟩
          rw [← hB2, ← hL2] at AM
          have bl2 : B2.length = B.length + 131120 := by rw [hB2, List.length_append, hSB]
          have ll2 : L2.length = L.length + 1 := by rw [hL2, List.length_append]; rfl
          have g5 : IntKind.i64.wrap ((L.length : Int) + 1) = (L2.length : Int) := by rw [IntWalk.i64_in _ (by omega)]; omega
          have g6 : IntKind.i64.wrap ((B.length : Int) + 131072) = (B.length : Int) + 131072 := by rw [IntWalk.i64_in _ (by omega)]
          have g7 : IntKind.i64.wrap ((B.length : Int) + 131072 + 48) = (B2.length : Int) := by rw [IntWalk.i64_in _ (by omega)]; omega
          have HI : Hid (∀ y ∈ L2, (y.id = id1 sz ∧ sz ≤ 131072) ∨ ∃ t, t < k + 1 ∧ y.id = idT t) := Lib.hid (fun y hy => by
            rw [hL2] at hy
            rcases List.mem_append.1 hy with hy | hy
            · exact (FS.out.ids y hy).imp id fun ⟨t, h1, h2⟩ => ⟨t, by omega, h2⟩
            · rw [List.mem_singleton.1 hy]
              exact Or.inr ⟨k, by omega, rfl⟩)
          have HO : Hid (sz ≤ 131072 → id1 sz ∈ L2.map En.id) := Lib.hid (fun h => by
            rw [hL2, List.map_append]
            exact List.mem_append_left _ (FS.out.on h))
          have HBL := Lib.hid bl2
          have HLL := Lib.hid ll2
          clear hB2 hL2 bl2 ll2 LN
          generalize idT k = ID at *
          clear hR ST
          go_wp2_with (first
            | ((with_reducible refine AM.mono ?_); rintro e w5 ⟨rfl, u1, u2, gn, hW5, hK5, hN5⟩)
            | (refine wpList_store_block rfl 24 _ _ rfl _ 0 (byteCells ID) rfl rfl (zeros 32) 24 (blockIs.new _ (zeros 32) 24) (by rw [infoId, byteCells_length, il]) (by simp [zeros, byteCells_length, il]) (byteCells_one _) ?_))
          intro w6 P1 P2 P3
          have AZ := alloc_below w5 (.cells (zeros 32).toArray 24 (0, 0))
          have AZ2 := AZ.trans (P2.out.below (Nat.le_refl _) AZ.size)
          have B5 : Below w.heap.size w w5 := Kp.lowF (W3.out.lo LO.out.1 LO.out.2.1 LO.out.2.2) B3.out hK5
          have W6 := hW5.below AZ2
          have B6 := B5.trans (AZ2.mono B5.size)
          have FS7 : Hid (FuS w w6 base wb tb fa fc sz (k + 1) (told + 16) B2 L2 u1 u2 gn) := Lib.hid ⟨W6, by have := FS.out.tl; omega, by have := FS.out.lb; have := HLL.out; omega, by have := HBL.out; omega, HI.out, HO.out, B6⟩
          have CN := count_any wb _ u1 u2 (.map gn) base L2.length _ w6 PLN.out W6.i W6.e
          have ZN := size_any wb _ u1 u2 (.map gn) base B2.length _ w6 PLN.out W6.i W6.a
          clear AM hW5 hK5 hN5 P1 P2 P3 AZ AZ2 B5 W6 B6 W3 B3 FS
          go_wp2_with (first
            | (with_reducible refine CN.mono ?_; rintro e wx ⟨rfl, rfl⟩)
            | (with_reducible refine ZN.mono ?_; rintro e wx ⟨rfl, rfl⟩))
          clear kw x8
          have hk9 := KE.out
          subst hk9
          go_roundw
          case rel => exact ⟨k + 1, told + 16, B2, L2, u1, u2, gn, by omega, by go_num, rfl, rfl, FS7⟩
          case measure => simp [intOf]; omega
      · have k1 : ¬ (k : Int) < (q : Int) := by omega
        clear c1 c2
        by_cases hsz : sz ≤ 131072
        · try (exfalso; omega)
          all_goals
            have c1 : (sz : Int) ≤ 131072 := by omega
            have A1 := alloc_below wr (.cells (byteCells ZS).toArray 5 (0, 0))
            have A2 := alloc_below (wr.alloc (.cells (byteCells ZS).toArray 5 (0, 0))) (.cells #[.slice (some ⟨wr.heap.size, 0, none⟩) sz sz] 30 (0, 0))
            have AA := A1.trans (A2.mono A1.size)
            have hbz := FS.out.o.b
            have htl := FS.out.o.tl
            have HT : wr.heap.size ≠ tb := by omega
            have HT2 : wr.heap.size + 1 ≠ tb := by omega
            have hL9 : L.length ≤ 9 := by have := FS.out.lb; omega
            have B3 : Below w.heap.size w ((wr.alloc (.cells (byteCells ZS).toArray 5 (0, 0))).alloc (.cells #[.slice (some ⟨wr.heap.size, 0, none⟩) sz sz] 30 (0, 0))) := FS.out.bl.trans (AA.mono FS.out.bl.size)
            have AM := add_any base wb tb fa fc [3] told (kN 3 1) (kN 3 2) (kN 3 3) B L v1 v2 gm 1 (some ⟨wr.heap.size + 1, 0, none⟩) 1 [ZS] _ (kN_length _ _) (kN_length _ _) (kN_length _ _) (Or.inl rfl)
              (FS.out.o.below AA) (T0.out.below B3 T0.out.2.2.1 T0.out.2.2.2) (by simp) (by simp) (fun h => by cases h) (by rw [show [ZS].flatten = ZS by simp, ZL.out]; omega)
              (fun Y k => parts_one_but (g := wr.heap.size + 1) (q := wr.heap.size) (n := sz) (c := sz) (l := ZS) (by have := blockIs.last (wr.alloc (.cells (byteCells ZS).toArray 5 (0, 0))) [.slice (some ⟨wr.heap.size, 0, none⟩) sz sz] 30 (wr.heap.size + 1) (by simp); exact this.cell 0) ZL.out.symm ⟨Nat.le_refl _, by omega⟩ ((in_new wr ZS).below A2) HT2 HT Y k) (by have := FS.out.tl; omega) (by omega) FS.out.bb
            rw [show V 1 = 1 from rfl, show [ZS].flatten = ZS by simp, show ([ZS] : List (List UInt8)).length = 1 from rfl, full_again sz told B L ZS ZE.out hsz (FS.out.on hsz)] at AM
            have W3 := Lib.hid (FS.out.o.below AA)
            have il : (id1 sz).length = 32 := hmac_length _ _
            have HB3 := Lib.hid B3
            clear A1 A2 AA HT HT2 B3 FS
            generalize id1 sz = ID at *
            go_wp2_with (first
              | ((with_reducible refine AM.mono ?_); rintro e w5 ⟨rfl, u3, u4, gn4, hW5, hK5, hN5⟩)
              | (refine wpList_store_block rfl 24 _ _ rfl _ 0 (byteCells ID) rfl rfl (zeros 32) 24 (blockIs.new _ (zeros 32) 24) (by rw [infoId, byteCells_length, il]) (by simp [zeros, byteCells_length, il]) (byteCells_one _) ?_))
            intro w6 P1 P2 P3
            have AZ := alloc_below w5 (.cells (zeros 32).toArray 24 (0, 0))
            have AZ2 := AZ.trans (P2.out.below (Nat.le_refl _) AZ.size)
            have B5 : Below w.heap.size w w5 := Kp.lowF (W3.out.lo LO.out.1 LO.out.2.1 LO.out.2.2) HB3.out hK5
            have B6 := B5.trans (AZ2.mono B5.size)
            clear AM hW5 hK5 hN5 P1 P2 P3 AZ AZ2 B5 W3 HB3
            go_wp2_with fail
            go_ret
            exact ⟨rfl, B6⟩
        · try (exfalso; omega)
          all_goals
            have c1 : ¬ (sz : Int) ≤ 131072 := by omega
            go_wp2_with fail
            go_ret
            exact ⟨rfl, FS.out.bl⟩
end Go.Proofs.YtfhlcondnaahiaaDoor
