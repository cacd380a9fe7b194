/- The document's Writer: Add. -/
import Derived.Test.YtfhlcondnaahiaaDoorTk
import Derived.Test.YtfhlcondnaahiaaDoorRw
import Derived.Test.YtfhlcondnaahiaaDoorHf
import Derived.Test.YtfhlcondnaahiaaDoorDid
import Derived.Test.YtfhlcondnaahiaaDoorHc
namespace Go.Proofs.YtfhlcondnaahiaaDoor
open Go.RowKit Sha

theorem own_ensW {X : World} {base : Nat} {v : Value} {L : List En} (h : X.ownsRow base 93 35 v L.length (enCells L)) (hok : ∀ x ∈ L, x.ok) : ∃ A c, v = .slice A L.length c ∧ ensIn X A L := by
  have hc := fun g hg => h.cells (g := g) hg
  rcases h.2 with ⟨rfl, h0⟩ | ⟨g, cap, cur, rfl, -⟩
  · rw [h0]; exact ⟨_, _, rfl, Or.inl (List.eq_nil_of_length_eq_zero h0)⟩
  · refine ⟨_, _, rfl, Or.inr ⟨g, 0, rfl, fun j hj i u hi => ?_⟩⟩
    have := hc g rfl (j * 35 + i) u (en_get L hok j hj i u hi)
    rw [Addr.add_lit] at this
    rw [← this]
    congr 2
    omega
def RefAt (X : World) (base rb : Nat) (RG F : List UInt8) (used : Nat) (B : List UInt8) (L : List En) (lv : Value) : Prop :=
  blockIs X rb (refCells RG F (used : Int) B lv) 52 ∧ X.ownsRow base 93 35 lv L.length (enCells L) ∧ rb < base ∧ base ≤ X.heap.size
def rF (rb : Nat) (lv : Value) (k : Nat) : Prop := k = rb ∨ lv.ownBlock = some k
theorem RefAt.below {X Y : World} {base rb used : Nat} {RG F B : List UInt8} {L : List En} {lv : Value} (h : RefAt X base rb RG F used B L lv) (k : Below X.heap.size X Y) : RefAt Y base rb RG F used B L lv :=
  ⟨h.1.below k h.1.lt, row_kp h.2.1 (Kp.below (f := fun _ => False) k) fun _ _ => id, h.2.2.1, Nat.le_trans h.2.2.2 k.size⟩
set_option maxRecDepth 100000 in
theorem eq_ids2 (l m : List UInt8) (hl : l.length = 32) (hm : m.length = 32) (w : World) : (Op.equalIn 10000 24 (.agg (byteCells l).toArray) (.agg (byteCells m).toArray)).run Tryd.prog w = .ok (l == m) w := by
  obtain ⟨i0, hi, hz0, hz1, hz2⟩ := info_parts info_u8
  rw [show (10000 : Nat) = 9999 + 1 from rfl, run_equalIn_array w 9999 _ _ Tryd.underlying24 hi, run_eqItems_bytes l m w _ (fun i hi => by have := List.mem_range.1 hi; omega)]
  congr 1
  rw [Bool.eq_iff_iff, List.all_eq_true, beq_iff_eq]
  constructor
  · intro h
    apply List.ext_getElem (by omega)
    intro i h1 h2
    have := h i (List.mem_range.2 (by omega))
    rw [beq_iff_eq] at this
    have := V_inj this
    simpa [h1, h2] using this
  · rintro rfl i _
    simp
theorem eql_idO2 (a : Act) (o : Oper) (x y : Operand) (l m : List UInt8) (ho : o.op = .binOp .eql 24 x y 24) (hx : a.eval x = .agg (byteCells l).toArray) (hy : a.eval y = .agg (byteCells m).toArray) (hl : l.length = 32) (hm : m.length = 32) (b : Bool) (hb : (l == m) = b) (w : World) :
    (execOp a.eval o).run Tryd.prog w = .ok (.value (.bool b)) w := by
  subst hb
  unfold execOp
  simp only [ho, hx, hy, Sem.run_bind, run_eql_struct, eq_ids2 l m hl hm, run_eqGuard_agg _ _ _ _ _ _ _ egtId, Result.andThen_ok, Sem.run_pure]
theorem info_slR : (Tryd.prog.info? 41).map (·.size) = some 1 := by kernel_rfl
def RaddPost (base rb : Nat) (RG F : List UInt8) (lv : Value) (w : World) (R : AddOut) (e : Ending) (w' : World) : Prop :=
  ∃ used2 lv2, e = .returned (.tuple #[.agg (byteCells R.id).toArray, .bool R.yes, .int .i64 R.er]) ∧ R.told = 16 * used2 ∧ RefAt w' base rb RG F used2 R.B R.L lv2 ∧ Kp (rF rb lv) w w' ∧ ∀ k, rF rb lv2 k → rF rb lv k ∨ w.heap.size ≤ k
set_option maxRecDepth 100000 in
set_option maxHeartbeats 8000000 in
theorem radd_any (H M C F : List UInt8) (used : Nat) (B : List UInt8) (L : List En) (lv : Value) (base rb : Nat) (k8 : UInt8) (ki : Int) (b : List UInt8) (w : World) (hH : H.length = 32) (hM : M.length = 32) (hC : C.length = 32) (hF : F.length ≤ 400) (hu : used ≤ 60000) (hki : ki = 1 ∨ ki = 2) (hk8 : ki = V k8) (hb : b.length ≤ 1000)
    (hL : L.length ≤ 100) (hB : B.length ≤ 100000) (hok : ∀ x ∈ L, x.ok) (hR : RefAt w base rb (H ++ (M ++ C)) F used B L lv) :
    Calls Tryd.prog 17 #[.pointer (some ⟨rb, 0, none⟩), .int .i64 ki, .string (str b)] w (RaddPost base rb (H ++ (M ++ C)) F lv w (addR H M C F (16 * used) B L k8 b)) := by
  have hidl : (hmac C (k8 :: b)).length = 32 := hmac_length _ _
  have HK : Hid (IntKind.u8.wrap ki = V k8) := Lib.hid (by rw [hk8]; exact V_wrap k8)
  have HKV := Lib.hid hk8
  have RGL : Hid ((H ++ (M ++ C)).length = 96) := Lib.hid (by simp [hH, hM, hC])
  have DI : Hid (∀ X, Calls Tryd.prog 39 #[.agg (byteCells (H ++ (M ++ C))).toArray, .int .u8 (V k8), .string (str b)] X fun e w' => e = .returned (.agg (byteCells (hmac C (k8 :: b))).toArray) ∧ Below X.heap.size X w') := Lib.hid (fun X => by
    have := docId_any (H ++ M) C b k8 X (by simp [hH, hM]) hC (by omega)
    rwa [List.append_assoc] at this)
  have TX := Lib.hid (fun X => rtext_any (hmac C (k8 :: b)) X (by omega))
  have WR := Lib.hid (fun X (h : blockIs X rb (refCells (H ++ (M ++ C)) F (used : Int) B lv) 52) => rwrite_any H M C F used B lv rb k8 ki (hexL (hmac C (k8 :: b))) b X hH hM hC hF hu HK.out (by rw [hexL_length, hidl]; decide) hb h)
  have SL : Hid ((wseal H M k8 (hexL (hmac C (k8 :: b))) (tbytes F (16 * used) 16) b).length = b.length + 48) := Lib.hid (wseal_length _ _ _ _ _ _ (tbytes_16 _ _))
  obtain ⟨R, hRR⟩ : ∃ R, R = addR H M C F (16 * used) B L k8 b := ⟨_, rfl⟩
  rw [← hRR]
  unfold addR at hRR
  rw [if_neg (by omega)] at hRR
  generalize wseal H M k8 (hexL (hmac C (k8 :: b))) (tbytes F (16 * used) 16) b = SB at *
  generalize hmac C (k8 :: b) = ID at *
  generalize H ++ (M ++ C) = RG at *
  have hRR2 : R = if ID ∈ L.map En.id then ⟨ID, false, 0, 16 * used, B, L⟩ else ⟨ID, true, 0, 16 * used + 16, B ++ SB, L ++ [⟨ID, V k8, B.length, b.length + 48⟩]⟩ := by
    rw [hRR]
    by_cases q : ID ∈ L.map En.id
    · rw [if_pos q, if_pos q]
    · rw [if_neg q, if_neg q, if_neg (by omega)]
  have HR := Lib.hid hRR2
  have R0 := Lib.hid hR
  have IDL := Lib.hid hidl
  have HOK := Lib.hid hok
  have LM := Lib.hid hL
  have BM := Lib.hid hB
  have bM := Lib.hid hb
  obtain ⟨al, cl, hlv, hle⟩ := own_ensW hR.2.1 hok
  have LE := Lib.hid hle
  have LV := Lib.hid hlv
  have A0 := Lib.hid (alloc_below w (.cells (zeros 32).toArray 24 (0, 0)))
  have X0 := Lib.hid (blockIs.new w (zeros 32) 24)
  have hz := zeroId
  have gb : ¬ (131072 : Int) < (b.length : Int) := by omega
  have GB := Lib.hid gb
  clear hH hM hC hF hu hk8 hb hL hB hok hR hRR hRR2 hidl hle hlv gb
  have HKI := Lib.hid hki
  go_enter Tryd.func17, Tryd.ntmps17
  go_upto_region 1 with fail
  generalize w.alloc (.cells (zeros 32).toArray 24 (0, 0)) = w1 at *
  have WB0 : Hid (base ≤ w.heap.size ∧ rb < base) := Lib.hid ⟨R0.out.2.2.2, R0.out.2.2.1⟩
  generalize hrx : w.heap.size = rx at *
  have HRX := Lib.hid hrx
  have A1 : Hid (Below w.heap.size w w1) := Lib.hid (by rw [hrx]; exact A0.out)
  have R1 := Lib.hid (R0.out.below A1.out)
  clear hrx A0
  rcases hki with hki | hki
  case' inl =>
    have f1 : (ki == 1) = true := by rw [hki]; rfl
    have f2 : (ki != 1) = false := by rw [hki]; rfl
    have f3 : (ki = 1) = True := by rw [hki]; simp
    clear hki
  case' inr =>
    have f1 : (ki == 1) = false := by rw [hki]; rfl
    have f2 : (ki != 1) = true := by rw [hki]; rfl
    have f5 : (ki != 2) = false := by rw [hki]; rfl
    have f6 : (ki = 1) = False := by rw [hki]; simp
    have f3 : (ki == 2) = true := by rw [hki]; rfl
    have f4 : (ki = 2) = True := by rw [hki]; simp
    clear hki
  all_goals
    go_upto_region 3 with fail
    have gb := GB.out
    have hkw := HK.out
    have sz := str_size' b
    have szB := str_size' B
    have szS := str_size' SB
    have RR1 := ref_ring R1.out.1
    have DI1 := DI.out w1
    go_wp2_with (first
      | (refine wpList_load_mid (by rfl) 50 _ rfl rb 0 rfl (byteCells RG) _ RR1 Tryd.underlying50 rfl (by rw [infoRing2, byteCells_length, RGL.out]) ?_)
      | ((with_reducible refine DI1.mono ?_); rintro e w2 ⟨rfl, kb⟩)
      | (refine wpList_store_block rfl 24 _ _ rfl _ 0 (byteCells ID) rfl rfl (zeros 32) 24 (blockIs.new _ (zeros 32) 24) (by rw [infoId, byteCells_length, IDL.out]) (by simp [zeros, byteCells_length, IDL.out]) (byteCells_one _) ?_))
    intro w3 P1 P2 P3
    have P1 := P1.out
    rw [splice_all _ _ (by simp [zeros, byteCells_length, IDL.out])] at P1
    have A2 := (kb.trans ((alloc_below w2 (.cells (zeros 32).toArray 24 (0, 0))).mono kb.size))
    have A3 : Hid (Below w1.heap.size w1 w3) := Lib.hid (A2.trans (P2.out.below kb.size A2.size))
    have I3 := Lib.hid P1
    have X3 : Hid (blockIs w3 rx (zeros 32) 24) := Lib.hid (X0.out.below A3.out X0.out.lt)
    have R3 := Lib.hid (R1.out.below A3.out)
    have B3 := Lib.hid (A1.out.trans (A3.out.mono A1.out.size))
    have IB : Hid (rx < w2.heap.size) := Lib.hid (Nat.lt_of_lt_of_le X0.out.lt kb.size)
    clear P1 P2 P3 kb A2 hkw RR1 DI1 DI R1 A1 X0 hz
    generalize w2.heap.size = ib at *
    obtain ⟨n, hnl⟩ : ∃ n, n = L.length := ⟨_, rfl⟩
    have NL := Lib.hid hnl
    have lvn : Hid (lv = .slice al n cl) := Lib.hid (hnl ▸ LV.out)
    clear hnl
    have LE3 : Hid (ensIn w3 al L) := Lib.hid (by
      rcases LE.out with h | ⟨p, q, e, hc⟩
      · exact Or.inl h
      · exact Or.inr ⟨p, q, e, fun j hj i u hi => (B3.out.cell (block_lt_of_cell (hc j hj i u hi))).trans (hc j hj i u hi)⟩)
    clear LE
    have e99 : Hid (∀ X, Below w3.heap.size w3 X → X.cell? ⟨rb, 99, none⟩ = some (.slice al n cl)) := Lib.hid (fun X h => lvn.out ▸ ref_at99 RGL.out (R3.out.below h).1)
    have f99 := e99.out w3 (Below.refl _ _)
    go_wp2_with fail
    clear f99
    go_loopw [10] (fun i wr => ∃ j : Nat, j ≤ n ∧ i = .int .i64 (j : Int) ∧ Hid (∀ k (h : k < L.length), k < j → L[k].id ≠ ID) ∧ Hid (Below w3.heap.size w3 wr)) (fun i _ => n - (intOf i).toNat)
    case atStart => exact ⟨0, by omega, rfl, Lib.hid (fun k h q => absurd q (Nat.not_lt_zero _)), Lib.hid (Below.refl _ _)⟩
    case round =>
      obtain ⟨j, hj, rfl, NI, BR⟩ := hrel
      have q0 : 0 ≤ (j : Int) := by omega
      have hn100 : n ≤ 100 := by have := LM.out; have := NL.out; omega
      have f99 := e99.out wr BR.out
      by_cases hlt : j < n
      · have q1 : (j : Int) < (n : Int) := by omega
        have hjl : j < L.length := NL.out ▸ hlt
        obtain ⟨x, hx⟩ : ∃ x, x = L[j] := ⟨_, rfl⟩
        have X1 : Hid x.ok := Lib.hid (HOK.out x (hx ▸ List.getElem_mem hjl))
        have XJ : Hid (x = L[j]) := Lib.hid hx
        rcases LE3.out with h0 | ⟨b1, o1, rfl, k1⟩
        · rw [h0] at hjl; cases hjl
        have X32 : Hid ((byteCells x.id).length = 32) := Lib.hid (by rw [byteCells_length]; exact X1.out)
        have XI : Hid (∀ X, Below wr.heap.size wr X → X.rangeAt b1 (o1 + j * 35) (byteCells x.id)) := Lib.hid (fun X hX i u hi => by
          have h1 := k1 j hjl i u (by rw [← hx]; unfold En.cells; rw [List.getElem?_append_left (List.getElem?_eq_some_iff.1 hi).1]; exact hi)
          exact ((BR.out.trans (hX.mono BR.out.size)).cell (block_lt_of_cell h1)).trans h1)
        have II : Hid (∀ X, Below wr.heap.size wr X → X.rangeAt ib 0 (byteCells ID)) := Lib.hid (fun X hX => Ci.range_of (I3.out.below (BR.out.trans (hX.mono BR.out.size)) I3.out.lt))
        have E9 : Hid (∀ X, Below wr.heap.size wr X → X.cell? ⟨rb, 99, none⟩ = some (.slice (some ⟨b1, o1, none⟩) n cl)) := Lib.hid (fun X hX => e99.out X (BR.out.trans (hX.mono BR.out.size)))
        clear k1 hx
        go_upto_region 9 with fail
        clear f99
        refine wp_region_noPanic ?_
        refine wp_region_held_drew (S := fun w' => Below wr.heap.size wr w') (by kernel_rfl) (below_drew' (Below.refl _ _)) (fun hH => ?_)
        generalize wr.drew = z0 at *
        obtain ⟨bq, hbq⟩ : ∃ bq, bq = (x.id == ID) := ⟨_, rfl⟩
        have HBQ := Lib.hid hbq
        clear hbq
        refine tk (i := 0) (oi := { dst := some 40, op := Op.move (Operand.tmp 0), type := 36, pos := "ref.go:62", after := #[], guard := none }) (v := .pointer (some ⟨rb, 0, none⟩)) rfl (fun wx hS => ?_) hH ?_
        · go_simp
        refine tk (i := 1) (oi := { dst := some 41, op := Op.nilCheck (Operand.tmp 40), type := 0, pos := "ref.go:62", after := #[⟨0, .data⟩], guard := none }) (v := .pointer (some ⟨rb, 0, none⟩)) rfl (fun wx hS => ?_) hH ?_
        · go_simp
        refine tk (i := 2) (oi := { dst := some 42, op := Op.fieldAddr 52 (Operand.tmp 41) 4, type := 0, pos := "ref.go:62", after := #[⟨1, .data⟩], guard := none }) (v := .pointer (some ⟨rb, 99, none⟩)) rfl (fun wx hS => ?_) hH ?_
        · go_simp
        refine tk (i := 3) (oi := { dst := some 43, op := Op.load 41 (Operand.tmp 42), type := 41, pos := "ref.go:62", after := #[⟨2, .data⟩], guard := none }) (v := .slice (some ⟨b1, o1, none⟩) n cl) rfl (fun wx hS => ?_) hH ?_
        · have e1 := E9.out wx hS; go_simp
        refine tk (i := 4) (oi := { dst := some 44, op := Op.move (Operand.tmp 10), type := 3, pos := "ref.go:62", after := #[], guard := none }) (v := .int .i64 (j : Int)) rfl (fun wx hS => ?_) hH ?_
        · go_simp
        refine tk (i := 5) (oi := { dst := some 45, op := Op.indexAddr 41 (Operand.tmp 43) (Operand.tmp 44), type := 0, pos := "ref.go:62", after := #[⟨3, .data⟩, ⟨4, .data⟩], guard := none }) (v := .pointer (some ⟨b1, o1 + j * 35, none⟩)) rfl (fun wx hS => ?_) hH ?_
        · go_simp
        refine tk (i := 6) (oi := { dst := some 46, op := Op.fieldAddr 93 (Operand.tmp 45) 0, type := 0, pos := "ref.go:62", after := #[⟨5, .data⟩], guard := none }) (v := .pointer (some ⟨b1, o1 + j * 35, none⟩)) rfl (fun wx hS => ?_) hH ?_
        · go_simp
        refine tky (i := 7) (oi := { dst := some 47, op := Op.load 24 (Operand.tmp 46), type := 24, pos := "ref.go:62", after := #[⟨6, .data⟩], guard := none }) (v := .agg (byteCells x.id).toArray) rfl (yieldsIf_load_mid (by rfl) 24 _ rfl (b1) (o1 + j * 35) rfl (byteCells x.id) _ (fun wx hS => XI.out wx hS) Tryd.underlying24 rfl (by rw [infoId, X32.out])) hH ?_
        refine tky (i := 8) (oi := { dst := some 48, op := Op.load 24 (Operand.tmp 9), type := 24, pos := "ref.go:62", after := #[], guard := none }) (v := .agg (byteCells ID).toArray) rfl (yieldsIf_load_mid (by rfl) 24 _ rfl (ib) 0 rfl (byteCells ID) _ (fun wx hS => II.out wx hS) Tryd.underlying24 rfl (by rw [infoId, byteCells_length, IDL.out])) hH ?_
        refine tk (i := 9) (oi := { dst := some 49, op := Op.binOp BinOp.eql 24 (Operand.tmp 47) (Operand.tmp 48) 24, type := 4, pos := "ref.go:62", after := #[⟨7, .data⟩, ⟨8, .data⟩], guard := none }) (v := .bool bq) rfl (fun wx hS => ?_) hH ?_
        · exact eql_idO2 _ _ _ _ x.id ID (by rfl) rfl rfl X1.out IDL.out bq HBQ.out.symm wx
        refine wpAnyH_done (by kernel_rfl) ?_ _
        refine NoPanic.normal ?_
        have BR2 := Lib.hid (BR.out.trans (hH.mono BR.out.size))
        clear hH
        cases bq with
        | true =>
          have hxi : x.id = ID := by simpa using HBQ.out
          have hin : ID ∈ L.map En.id := List.mem_map.2 ⟨x, XJ.out ▸ List.getElem_mem hjl, hxi⟩
          have HRR := HR.out
          rw [if_pos hin] at HRR
          have R4 := Lib.hid (R3.out.below BR2.out)
          have XX4 := Lib.hid (X3.out.below BR2.out X3.out.lt)
          have II4 := Ci.range_of (I3.out.below BR2.out I3.out.lt)
          go_wp2_with (first
            | (refine wpList_load_mid (by rfl) 24 _ rfl ib 0 rfl (byteCells ID) _ II4 Tryd.underlying24 rfl (by rw [infoId, byteCells_length, IDL.out]) ?_)
            | (refine wpList_store_block rfl 24 _ _ rfl rx 0 (byteCells ID) rfl rfl (zeros 32) 24 XX4.out (by rw [infoId, byteCells_length, IDL.out]) (by simp [zeros, byteCells_length, IDL.out]) (byteCells_one _) ?_))
          intro wq P1 P2 P3
          have P1 := P1.out
          rw [splice_all _ _ (by simp [zeros, byteCells_length, IDL.out])] at P1
          have KX := (B3.out.trans (BR2.out.mono B3.out.size))
          have KQ := KX.trans (P2.out.below (Nat.le_of_eq HRX.out) KX.size)
          go_wp2_with fail
          refine bodyPost_ret (v := .tuple #[.agg (byteCells ID).toArray, .bool false, .int .i64 0]) (results_cell_two (p := 6) (t := 7) (u := 8) rfl _ _ rx _ rfl (run_loadVar_row _ _ 24 _ _ (0, 0) _ P1 Tryd.underlying24 rfl (by rw [infoId]; simp [byteCells_length, IDL.out]))) rfl ?_
          exact ⟨used, lv, by rw [HRR], by rw [HRR], by rw [HRR]; exact R0.out.below KQ, Kp.below KQ, fun k q => Or.inl q⟩
        | false =>
          have hxi : x.id ≠ ID := by simpa using HBQ.out
          have NI2 : Hid (∀ k (h : k < L.length), k < j + 1 → L[k].id ≠ ID) := Lib.hid (fun k h q => by
            by_cases e : k = j
            · subst e; rw [← XJ.out]; exact hxi
            · exact NI.out k h (by omega))
          go_wp2_with fail
          go_roundw
          case rel => exact ⟨j + 1, by omega, by go_num, NI2, BR2⟩
          case measure => simp [intOf]; omega
      · have q1 : ¬ (j : Int) < (n : Int) := by omega
        have hni : ID ∉ L.map En.id := fun hm => by
          obtain ⟨x, hx, e⟩ := List.mem_map.1 hm
          obtain ⟨k, hk, rfl⟩ := List.getElem_of_mem hx
          exact NI.out k hk (by have := NL.out; omega) e
        have HRR := Lib.hid HR.out
        rw [if_neg hni] at HRR
        have R4 := Lib.hid (R3.out.below BR.out)
        have XX4 := Lib.hid (X3.out.below BR.out X3.out.lt)
        have I4 := Lib.hid (I3.out.below BR.out I3.out.lt)
        have B4 := Lib.hid (B3.out.trans (BR.out.mono B3.out.size))
        have IB4 := Lib.hid I4.out.lt
        have e98 := ref_at98 RGL.out R4.out.1
        have g1 : ¬ (1000 : Int) ≤ (n : Int) := by have := LM.out; have := NL.out; omega
        have g2 : IntKind.i64.wrap ((b.length : Int) + 48) = (b.length : Int) + 48 := by have := bM.out; rw [IntWalk.i64_in _ (by omega)]
        have g3 : IntKind.i64.wrap (900000 - (B.length : Int)) = 900000 - (B.length : Int) := by have := BM.out; rw [IntWalk.i64_in _ (by omega)]
        have g4 : ¬ 900000 - (B.length : Int) < (b.length : Int) + 48 := by have := BM.out; have := bM.out; omega
        have cv := conv_string wr (some ⟨ib, 0, none⟩) ID 32 (Or.inr ⟨_, _, rfl, fun i hi => by rw [Nat.zero_add, I4.out.cell]; exact byteCells_get ID i hi⟩)
        rw [IDL.out] at cv
        have TX1 := TX.out wr
        clear hni HR NI R3 X3 I3 B3 LE3 e99
        go_wp2_with ((with_reducible refine TX1.mono ?_); rintro e w5 ⟨rfl, kb⟩; refine Hid.out ?_)
        refine Lib.hid ?_
        clear g1 g2 g3 g4 cv TX1 TX f99 e98
        have R5 := Lib.hid (R4.out.below kb)
        have XX5 := Lib.hid (XX4.out.below kb XX4.out.lt)
        have I5 := Lib.hid (I4.out.below kb I4.out.lt)
        have B5 := Lib.hid (B4.out.trans (kb.mono B4.out.size))
        have WR1 := WR.out w5 R5.out.1
        have LV5 := Lib.hid (And.intro R5.out.2.1 R5.out.2.2.2)
        clear R4 XX4 I4 B4 kb WR
        go_wp2_with ((with_reducible refine WR1.mono ?_); rintro e w6 ⟨rfl, hr6, k6⟩; refine Hid.out ?_)
        refine Lib.hid ?_
        have K6 := Lib.hid ((Kp.below (f := fun k => k = rb) B5.out).trans k6 fun i hi => Or.inl hi)
        have R6 := Lib.hid hr6
        have XX6 := Lib.hid (k6.is XX5.out (by have := WB0.out; omega))
        have I6 := Lib.hid (k6.is I5.out (by have := WB0.out; have := IB.out; omega))
        have L6 := Lib.hid (row_kp LV5.out.1 k6 fun g hg e => row_type LV5.out.1 R5.out.1 (by decide) (e ▸ hg))
        have S6 := Lib.hid (Nat.le_trans LV5.out.2 k6.size)
        clear WR1 R5 XX5 I5 B5 LV5 hr6 k6
        go_upto_region 14 with fail
        obtain ⟨sn, hsn⟩ : ∃ sn, sn = SB.length := ⟨_, rfl⟩
        have SN := Lib.hid hsn
        refine wp_region_noPanic ?_
        refine wp_region_held_drew (S := fun X => blockIs X ib (byteCells ID) 24 ∧ X.cell? ⟨rb, 98, none⟩ = some (.string (str B))) (by kernel_rfl) ⟨I6.out.drewN 1, ref_at98 RGL.out (R6.out.drewN 1)⟩ (fun hH => ?_)
        have D7 := below_drew' (Below.refl w6.heap.size w6)
        have L7 := Lib.hid (row_kp (lvn.out ▸ L6.out) (Kp.below (f := fun _ => False) D7) fun _ _ => id)
        have R7 := Lib.hid (lvn.out ▸ R6.out.below D7 R6.out.lt)
        have XX7 := Lib.hid (XX6.out.below D7 XX6.out.lt)
        have I7 := Lib.hid (I6.out.below D7 I6.out.lt)
        have K7 := Lib.hid (K6.out.trans (Kp.below (f := fun _ => False) D7) fun _ q => q.elim)
        have S7 := Lib.hid (Nat.le_trans S6.out D7.size)
        clear D7 L6 R6 XX6 I6 K6 S6
        generalize w6.drew = z0 at *
        refine tk (i := 0) (oi := { dst := some 77, op := Op.move (Operand.tmp 0), type := 36, pos := "ref.go:70", after := #[], guard := none }) (v := .pointer (some ⟨rb, 0, none⟩)) rfl (fun wx hS => ?_) hH ?_
        · go_simp
        refine tk (i := 1) (oi := { dst := some 78, op := Op.move (Operand.tmp 0), type := 36, pos := "ref.go:70", after := #[], guard := none }) (v := .pointer (some ⟨rb, 0, none⟩)) rfl (fun wx hS => ?_) hH ?_
        · go_simp
        refine tk (i := 2) (oi := { dst := some 79, op := Op.nilCheck (Operand.tmp 78), type := 0, pos := "ref.go:70", after := #[⟨1, .data⟩], guard := none }) (v := .pointer (some ⟨rb, 0, none⟩)) rfl (fun wx hS => ?_) hH ?_
        · go_simp
        refine tk (i := 3) (oi := { dst := some 80, op := Op.fieldAddr 52 (Operand.tmp 79) 4, type := 0, pos := "ref.go:70", after := #[⟨2, .data⟩], guard := none }) (v := .pointer (some ⟨rb, 99, none⟩)) rfl (fun wx hS => ?_) hH ?_
        · go_simp
        refine tky (i := 5) (oi := { dst := some 82, op := Op.load 24 (Operand.tmp 9), type := 24, pos := "ref.go:70", after := #[], guard := none }) (v := .agg (byteCells ID).toArray) rfl (yieldsIf_load_mid (by rfl) 24 _ rfl (ib) 0 rfl (byteCells ID) _ (fun wx hS => Ci.range_of hS.1) Tryd.underlying24 rfl (by rw [infoId, byteCells_length, IDL.out])) hH ?_
        refine tk (i := 6) (oi := { dst := some 83, op := Op.move (Operand.tmp 1), type := 3, pos := "ref.go:70", after := #[], guard := none }) (v := .int .i64 ki) rfl (fun wx hS => ?_) hH ?_
        · go_simp
        refine tk (i := 7) (oi := { dst := some 84, op := Op.move (Operand.tmp 0), type := 36, pos := "ref.go:70", after := #[], guard := none }) (v := .pointer (some ⟨rb, 0, none⟩)) rfl (fun wx hS => ?_) hH ?_
        · go_simp
        refine tk (i := 8) (oi := { dst := some 85, op := Op.nilCheck (Operand.tmp 84), type := 0, pos := "ref.go:70", after := #[⟨7, .data⟩], guard := none }) (v := .pointer (some ⟨rb, 0, none⟩)) rfl (fun wx hS => ?_) hH ?_
        · go_simp
        refine tk (i := 9) (oi := { dst := some 86, op := Op.fieldAddr 52 (Operand.tmp 85) 3, type := 0, pos := "ref.go:70", after := #[⟨8, .data⟩], guard := none }) (v := .pointer (some ⟨rb, 98, none⟩)) rfl (fun wx hS => ?_) hH ?_
        · go_simp
        refine tk (i := 10) (oi := { dst := some 87, op := Op.load 9 (Operand.tmp 86), type := 9, pos := "ref.go:70", after := #[⟨9, .data⟩], guard := none }) (v := .string (str B)) rfl (fun wx hS => ?_) hH ?_
        · have e1 := hS.2; go_simp
        refine tk (i := 11) (oi := { dst := some 88, op := Op.call { callee := Callee.builtin Builtin.len, args := #[Operand.tmp 87], argTypes := #[9] }, type := 3, pos := "ref.go:70", after := #[⟨10, .data⟩], guard := none }) (v := .int .i64 (B.length : Int)) rfl (fun wx hS => ?_) hH ?_
        · go_simp
        refine tk (i := 12) (oi := { dst := some 89, op := Op.move (Operand.tmp 11), type := 9, pos := "ref.go:70", after := #[], guard := none }) (v := .string (str SB)) rfl (fun wx hS => ?_) hH ?_
        · go_simp
        refine tk (i := 13) (oi := { dst := some 90, op := Op.call { callee := Callee.builtin Builtin.len, args := #[Operand.tmp 89], argTypes := #[9] }, type := 3, pos := "ref.go:70", after := #[⟨12, .data⟩], guard := none }) (v := .int .i64 (sn : Int)) rfl (fun wx hS => ?_) hH ?_
        · have e1 := SN.out; go_simp
        obtain ⟨ne, hne⟩ : ∃ ne : En, ne = ⟨ID, ki, B.length, sn⟩ := ⟨_, rfl⟩
        have NEW := Lib.hid hne
        have NOK : Hid ne.ok := Lib.hid (by rw [hne]; exact IDL.out)
        have NC : Hid (∀ X, (Instr.build 93 #[(0, .agg (byteCells ID).toArray), (1, .int .i64 ki), (2, .int .i64 (B.length : Int)), (3, .int .i64 (sn : Int))]).run Tryd.prog X = .ok (.agg ne.cells.toArray) X) := Lib.hid (fun X => by rw [hne]; exact buildEnR ⟨ID, ki, B.length, sn⟩ IDL.out X)
        clear hne hsn
        refine tk (i := 14) (oi := { dst := some 91, op := Op.build 93 #[(0, Operand.tmp 82), (1, Operand.tmp 83), (2, Operand.tmp 88), (3, Operand.tmp 90)], type := 93, pos := "ref.go:70", after := #[⟨5, .data⟩, ⟨6, .data⟩, ⟨11, .data⟩, ⟨13, .data⟩], guard := none }) (v := .agg ne.cells.toArray) rfl (fun wx hS => ?_) hH ?_
        · exact run_buildO _ 93 _ rfl _ _ (NC.out wx) rfl
        refine wpAnyH_ready (rs := [4, 15]) (by kernel_rfl) (by simp) ?_
        refine AllReadyH.cons (o := { dst := some 81, op := Op.load 41 (Operand.tmp 80), type := 41, pos := "ref.go:70", after := #[⟨3, .data⟩], guard := none }) rfl (fun KK hKK => ?_) (AllReadyH.cons (o := { dst := some 92, op := Op.buildSlice 41 1 #[(0, Operand.tmp 91)], type := 41, pos := "ref.go:70", after := #[⟨14, .data⟩], guard := none }) rfl (fun KK hKK => ?_) AllReadyH.nil)
        · skip
          have e99 := ref_at99 RGL.out R7.out
          go_simp
          refine hKK.out _ _ hH (fun hH => ?_)
          clear hKK KK e99
          try simp only [Act.put, List.setIfInBounds_toArray, List.set_cons_zero, List.set_cons_succ]
          refine wpAnyH_ready (rs := [15]) (by kernel_rfl) (by simp) ?_
          refine AllReadyH.cons (o := { dst := some 92, op := Op.buildSlice 41 1 #[(0, Operand.tmp 91)], type := 41, pos := "ref.go:70", after := #[⟨14, .data⟩], guard := none }) rfl (fun KK hKK => ?_) AllReadyH.nil
          have kb := alloc_below z0 (.cells ne.cells.toArray 93 (0, 0))
          have L8 := Lib.hid (row_kp L7.out (Kp.below (f := fun _ => False) kb) fun _ _ => id)
          have NB := Lib.hid (blockIs.new z0 ne.cells 93)
          have R8 := Lib.hid (R7.out.below kb R7.out.lt)
          have XX8 := Lib.hid (XX7.out.below kb XX7.out.lt)
          have I8 := Lib.hid (I7.out.below kb I7.out.lt)
          have K8 := Lib.hid (K7.out.trans (Kp.below (f := fun _ => False) kb) fun _ q => q.elim)
          have S8 := Lib.hid (Nat.le_trans S7.out kb.size)
          have hN := And.intro (hH.1.below kb hH.1.lt) ((kb.cell (block_lt_of_cell hH.2)).trans hH.2)
          clear hH kb L7 R7 XX7 I7 K7 S7
          refine step_build_enR (by rfl) _ rfl ne.cells (En.len35 NOK.out) rfl ?_
          refine hKK.out _ _ hN (fun hH => ?_)
          clear hKK KK hN
          try simp only [Act.put, List.setIfInBounds_toArray, List.set_cons_zero, List.set_cons_succ]
          generalize z0.alloc (.cells ne.cells.toArray 93) = z1 at *
          generalize z0.heap.size = nb at *
          refine wpAnyH_ready (rs := [16]) (by kernel_rfl) (by simp) ?_
          refine AllReadyH.cons (o := { dst := some 93, op := Op.call { callee := Callee.builtin Builtin.append, args := #[Operand.tmp 81, Operand.tmp 92], argTypes := #[41, 41] }, type := 41, pos := "ref.go:70", after := #[⟨4, .data⟩, ⟨15, .data⟩], guard := none }) rfl (fun KK hKK => ?_) AllReadyH.nil
          refine step_append_enR (by rfl) _ _ rfl base (.slice al n cl) L rfl L8.out nb 1 ne NOK.out rfl NB.out (by have := LM.out; omega) S8.out ?_
          intro u2 z2 P1 P2 P3
          have KG := Kp.grown (f := fun i => (Value.slice al n cl).ownBlock = some i) P2.out fun _ q => Or.inl q
          have R9 := Lib.hid (KG.is R8.out fun q => row_type L8.out R8.out (by decide) q)
          have XX9 := Lib.hid (KG.is XX8.out fun q => row_type L8.out XX8.out (by decide) q)
          have I9 := Lib.hid (KG.is I8.out fun q => row_type L8.out I8.out (by decide) q)
          have K9 : Hid (Kp (rF rb lv) w z2) := Lib.hid ((K8.out.mono fun k q => Or.inl (Or.inl q)).trans KG fun i hi => Or.inl (Or.inr (by rw [lvn.out]; exact hi)))
          have S9 := Lib.hid (Nat.le_trans S8.out KG.size)
          have U2 : Hid (∀ k, u2.ownBlock = some k → lv.ownBlock = some k ∨ w.heap.size ≤ k) := Lib.hid (fun k hk => P3.out.elim (fun e => Or.inl (by rw [lvn.out]; exact e ▸ hk)) fun e => Or.inr (by rw [e] at hk; cases hk; exact K8.out.size))
          have HO2 : Hid (u2.oneCell' = true ∧ u2.cells = #[u2]) := Lib.hid (own_cell P1.out)
          have L9 := Lib.hid P1.out
          have hN := And.intro I9.out (ref_at98 RGL.out R9.out)
          clear hH L8 R8 XX8 I8 K8 S8 NB KG P1 P2 P3
          refine hKK.out _ _ hN (fun hH => ?_)
          clear hKK KK hN
          try simp only [Act.put, List.setIfInBounds_toArray, List.set_cons_zero, List.set_cons_succ]
          refine tk (i := 17) (oi := { dst := some 94, op := Op.nilCheck (Operand.tmp 77), type := 0, pos := "ref.go:70", after := #[⟨0, .data⟩, ⟨0, .phase⟩, ⟨1, .phase⟩, ⟨2, .phase⟩, ⟨3, .phase⟩, ⟨4, .phase⟩, ⟨5, .phase⟩, ⟨6, .phase⟩, ⟨7, .phase⟩, ⟨8, .phase⟩, ⟨9, .phase⟩, ⟨10, .phase⟩, ⟨11, .phase⟩, ⟨12, .phase⟩, ⟨13, .phase⟩, ⟨14, .phase⟩, ⟨15, .phase⟩, ⟨16, .phase⟩], guard := none }) (v := .pointer (some ⟨rb, 0, none⟩)) rfl (fun wx hS => ?_) hH ?_
          · go_simp
          refine tk (i := 18) (oi := { dst := some 95, op := Op.fieldAddr 52 (Operand.tmp 94) 4, type := 0, pos := "ref.go:70", after := #[⟨17, .data⟩, ⟨0, .phase⟩, ⟨1, .phase⟩, ⟨2, .phase⟩, ⟨3, .phase⟩, ⟨4, .phase⟩, ⟨5, .phase⟩, ⟨6, .phase⟩, ⟨7, .phase⟩, ⟨8, .phase⟩, ⟨9, .phase⟩, ⟨10, .phase⟩, ⟨11, .phase⟩, ⟨12, .phase⟩, ⟨13, .phase⟩, ⟨14, .phase⟩, ⟨15, .phase⟩, ⟨16, .phase⟩], guard := none }) (v := .pointer (some ⟨rb, 99, none⟩)) rfl (fun wx hS => ?_) hH ?_
          · go_simp
          refine wpAnyH_ready (rs := [19]) (by kernel_rfl) (by simp) ?_
          refine AllReadyH.cons (o := { dst := none, op := Op.store 41 (Operand.tmp 95) (Operand.tmp 93), type := 0, pos := "ref.go:70", after := #[⟨18, .data⟩, ⟨16, .data⟩, ⟨16, .chain⟩, ⟨0, .phase⟩, ⟨1, .phase⟩, ⟨2, .phase⟩, ⟨3, .phase⟩, ⟨4, .phase⟩, ⟨5, .phase⟩, ⟨6, .phase⟩, ⟨7, .phase⟩, ⟨8, .phase⟩, ⟨9, .phase⟩, ⟨10, .phase⟩, ⟨11, .phase⟩, ⟨12, .phase⟩, ⟨13, .phase⟩, ⟨14, .phase⟩, ⟨15, .phase⟩, ⟨16, .phase⟩], guard := none }) rfl (fun KK hKK => ?_) AllReadyH.nil
          refine step_store_cell (by rfl) 41 _ _ rfl rb 99 u2 rfl rfl _ 52 R9.out info_slR (by rw [ref_len RGL.out]; decide) HO2.out.2 HO2.out.1 ?_
          intro z3 P1 P2 P3
          have P1 := P1.out
          rw [ref_set99 RGL.out] at P1
          have KB := Kp.but (f := fun i => i = rb) P2.out (Or.inl rfl)
          have XX10 := Lib.hid (KB.is XX9.out fun e => (show rx ≠ rb by have := WB0.out; omega) e)
          have I10 := Lib.hid (KB.is I9.out fun e => (show ib ≠ rb by have := WB0.out; have := IB.out; omega) e)
          have L10 := Lib.hid (row_kp L9.out KB fun k hk q => row_type L9.out R9.out (by decide) (q ▸ hk))
          have K10 := Lib.hid (K9.out.trans KB fun i hi => Or.inl (Or.inl hi))
          have S10 := Lib.hid (Nat.le_trans S9.out KB.size)
          have R10 := Lib.hid P1
          have hN := And.intro I10.out (ref_at98 RGL.out P1)
          clear hH L9 R9 XX9 I9 K9 S9 P1 P2 P3 KB HO2
          refine hKK.out _ _ hN (fun hH => ?_)
          clear hKK KK hN
          try simp only [Act.put, List.setIfInBounds_toArray, List.set_cons_zero, List.set_cons_succ]
          refine wpAnyH_done (by kernel_rfl) ?_ _
          refine NoPanic.normal ?_
          clear hH
          have e98 := ref_at98 RGL.out R10.out
          have gl := str_append B SB
          have gN : ¬ 9223372036854775807 < B.length + SB.length := by have := BM.out; have := bM.out; have := SL.out; omega
          have hf98 : 98 < (refCells RG F ((used + 1 : Nat) : Int) B u2).length := by rw [ref_len RGL.out]; decide
          go_wp2_with (refine wpList_store_cell (by rfl) 9 _ _ rfl rb 98 (.string (str (B ++ SB))) rfl (by first | rfl | (rw [gl]; rfl) | (rw [← gl]; rfl)) _ 52 R10.out info_str hf98 rfl rfl ?_)
          intro z4 P1 P2 P3
          have P1 := P1.out
          rw [ref_set98 RGL.out] at P1
          have KB := Kp.but (f := fun i => i = rb) P2.out (Or.inl rfl)
          have XX11 := Lib.hid (KB.is XX10.out fun e => (show rx ≠ rb by have := WB0.out; omega) e)
          have I11 := Lib.hid (KB.is I10.out fun e => (show ib ≠ rb by have := WB0.out; have := IB.out; omega) e)
          have L11 := Lib.hid (row_kp L10.out KB fun k hk q => row_type L10.out R10.out (by decide) (q ▸ hk))
          have K11 := Lib.hid (K10.out.trans KB fun i hi => Or.inl (Or.inl hi))
          have S11 := Lib.hid (Nat.le_trans S10.out KB.size)
          have W11 := Lib.hid P1
          clear P1 P2 P3 KB R10 XX10 I10 L10 K10 S10 e98 gl gN hf98
          have II := Ci.range_of I11.out
          go_wp2_with (first
            | (refine wpList_load_mid (by rfl) 24 _ rfl ib 0 rfl (byteCells ID) _ II Tryd.underlying24 rfl (by rw [infoId, byteCells_length, IDL.out]) ?_)
            | (refine wpList_store_block rfl 24 _ _ rfl rx 0 (byteCells ID) rfl rfl (zeros 32) 24 XX11.out (by rw [infoId, byteCells_length, IDL.out]) (by simp [zeros, byteCells_length, IDL.out]) (byteCells_one _) ?_))
          intro wq P1 P2 P3
          have P1 := P1.out
          rw [splice_all _ _ (by simp [zeros, byteCells_length, IDL.out])] at P1
          go_wp2_with fail
          refine bodyPost_ret (v := .tuple #[.agg (byteCells ID).toArray, .bool true, .int .i64 0]) (results_cell_two (p := 6) (t := 7) (u := 8) rfl _ _ rx _ rfl (run_loadVar_row _ _ 24 _ _ (0, 0) _ P1 Tryd.underlying24 rfl (by rw [infoId]; simp [byteCells_length, IDL.out]))) rfl ?_
          have KB := Kp.but (f := fun i => i = rx) P2.out (Or.inl rfl)
          have LN : L ++ [ne] = L ++ [⟨ID, V k8, B.length, b.length + 48⟩] := by rw [NEW.out, SN.out, SL.out, HKV.out]
          rw [LN] at L11
          have L12 := row_kp L11.out KB fun k hk q => row_type L11.out XX11.out (by decide) (q ▸ hk)
          refine ⟨used + 1, u2, by rw [HRR.out], by rw [HRR.out]; show 16 * used + 16 = _; omega, ?_, K11.out.trans KB fun i hi => Or.inr (by rw [HRX.out, hi]; exact Nat.le_refl _), ?_⟩
          · rw [HRR.out]; exact ⟨KB.is W11.out (by have := WB0.out; omega), L12, WB0.out.2, Nat.le_trans S11.out KB.size⟩
          · rintro k (q | q)
            · exact Or.inl (Or.inl q)
            · exact (U2.out k q).imp (fun e => Or.inr e) id
        · skip
          have kb := alloc_below z0 (.cells ne.cells.toArray 93 (0, 0))
          have L8 := Lib.hid (row_kp L7.out (Kp.below (f := fun _ => False) kb) fun _ _ => id)
          have NB := Lib.hid (blockIs.new z0 ne.cells 93)
          have R8 := Lib.hid (R7.out.below kb R7.out.lt)
          have XX8 := Lib.hid (XX7.out.below kb XX7.out.lt)
          have I8 := Lib.hid (I7.out.below kb I7.out.lt)
          have K8 := Lib.hid (K7.out.trans (Kp.below (f := fun _ => False) kb) fun _ q => q.elim)
          have S8 := Lib.hid (Nat.le_trans S7.out kb.size)
          have hN := And.intro (hH.1.below kb hH.1.lt) ((kb.cell (block_lt_of_cell hH.2)).trans hH.2)
          clear hH kb L7 R7 XX7 I7 K7 S7
          refine step_build_enR (by rfl) _ rfl ne.cells (En.len35 NOK.out) rfl ?_
          refine hKK.out _ _ hN (fun hH => ?_)
          clear hKK KK hN
          try simp only [Act.put, List.setIfInBounds_toArray, List.set_cons_zero, List.set_cons_succ]
          generalize z0.alloc (.cells ne.cells.toArray 93) = z1 at *
          generalize z0.heap.size = nb at *
          refine wpAnyH_ready (rs := [4]) (by kernel_rfl) (by simp) ?_
          refine AllReadyH.cons (o := { dst := some 81, op := Op.load 41 (Operand.tmp 80), type := 41, pos := "ref.go:70", after := #[⟨3, .data⟩], guard := none }) rfl (fun KK hKK => ?_) AllReadyH.nil
          have e99 := ref_at99 RGL.out R8.out
          go_simp
          refine hKK.out _ _ hH (fun hH => ?_)
          clear hKK KK e99
          try simp only [Act.put, List.setIfInBounds_toArray, List.set_cons_zero, List.set_cons_succ]
          refine wpAnyH_ready (rs := [16]) (by kernel_rfl) (by simp) ?_
          refine AllReadyH.cons (o := { dst := some 93, op := Op.call { callee := Callee.builtin Builtin.append, args := #[Operand.tmp 81, Operand.tmp 92], argTypes := #[41, 41] }, type := 41, pos := "ref.go:70", after := #[⟨4, .data⟩, ⟨15, .data⟩], guard := none }) rfl (fun KK hKK => ?_) AllReadyH.nil
          refine step_append_enR (by rfl) _ _ rfl base (.slice al n cl) L rfl L8.out nb 1 ne NOK.out rfl NB.out (by have := LM.out; omega) S8.out ?_
          intro u2 z2 P1 P2 P3
          have KG := Kp.grown (f := fun i => (Value.slice al n cl).ownBlock = some i) P2.out fun _ q => Or.inl q
          have R9 := Lib.hid (KG.is R8.out fun q => row_type L8.out R8.out (by decide) q)
          have XX9 := Lib.hid (KG.is XX8.out fun q => row_type L8.out XX8.out (by decide) q)
          have I9 := Lib.hid (KG.is I8.out fun q => row_type L8.out I8.out (by decide) q)
          have K9 : Hid (Kp (rF rb lv) w z2) := Lib.hid ((K8.out.mono fun k q => Or.inl (Or.inl q)).trans KG fun i hi => Or.inl (Or.inr (by rw [lvn.out]; exact hi)))
          have S9 := Lib.hid (Nat.le_trans S8.out KG.size)
          have U2 : Hid (∀ k, u2.ownBlock = some k → lv.ownBlock = some k ∨ w.heap.size ≤ k) := Lib.hid (fun k hk => P3.out.elim (fun e => Or.inl (by rw [lvn.out]; exact e ▸ hk)) fun e => Or.inr (by rw [e] at hk; cases hk; exact K8.out.size))
          have HO2 : Hid (u2.oneCell' = true ∧ u2.cells = #[u2]) := Lib.hid (own_cell P1.out)
          have L9 := Lib.hid P1.out
          have hN := And.intro I9.out (ref_at98 RGL.out R9.out)
          clear hH L8 R8 XX8 I8 K8 S8 NB KG P1 P2 P3
          refine hKK.out _ _ hN (fun hH => ?_)
          clear hKK KK hN
          try simp only [Act.put, List.setIfInBounds_toArray, List.set_cons_zero, List.set_cons_succ]
          refine tk (i := 17) (oi := { dst := some 94, op := Op.nilCheck (Operand.tmp 77), type := 0, pos := "ref.go:70", after := #[⟨0, .data⟩, ⟨0, .phase⟩, ⟨1, .phase⟩, ⟨2, .phase⟩, ⟨3, .phase⟩, ⟨4, .phase⟩, ⟨5, .phase⟩, ⟨6, .phase⟩, ⟨7, .phase⟩, ⟨8, .phase⟩, ⟨9, .phase⟩, ⟨10, .phase⟩, ⟨11, .phase⟩, ⟨12, .phase⟩, ⟨13, .phase⟩, ⟨14, .phase⟩, ⟨15, .phase⟩, ⟨16, .phase⟩], guard := none }) (v := .pointer (some ⟨rb, 0, none⟩)) rfl (fun wx hS => ?_) hH ?_
          · go_simp
          refine tk (i := 18) (oi := { dst := some 95, op := Op.fieldAddr 52 (Operand.tmp 94) 4, type := 0, pos := "ref.go:70", after := #[⟨17, .data⟩, ⟨0, .phase⟩, ⟨1, .phase⟩, ⟨2, .phase⟩, ⟨3, .phase⟩, ⟨4, .phase⟩, ⟨5, .phase⟩, ⟨6, .phase⟩, ⟨7, .phase⟩, ⟨8, .phase⟩, ⟨9, .phase⟩, ⟨10, .phase⟩, ⟨11, .phase⟩, ⟨12, .phase⟩, ⟨13, .phase⟩, ⟨14, .phase⟩, ⟨15, .phase⟩, ⟨16, .phase⟩], guard := none }) (v := .pointer (some ⟨rb, 99, none⟩)) rfl (fun wx hS => ?_) hH ?_
          · go_simp
          refine wpAnyH_ready (rs := [19]) (by kernel_rfl) (by simp) ?_
          refine AllReadyH.cons (o := { dst := none, op := Op.store 41 (Operand.tmp 95) (Operand.tmp 93), type := 0, pos := "ref.go:70", after := #[⟨18, .data⟩, ⟨16, .data⟩, ⟨16, .chain⟩, ⟨0, .phase⟩, ⟨1, .phase⟩, ⟨2, .phase⟩, ⟨3, .phase⟩, ⟨4, .phase⟩, ⟨5, .phase⟩, ⟨6, .phase⟩, ⟨7, .phase⟩, ⟨8, .phase⟩, ⟨9, .phase⟩, ⟨10, .phase⟩, ⟨11, .phase⟩, ⟨12, .phase⟩, ⟨13, .phase⟩, ⟨14, .phase⟩, ⟨15, .phase⟩, ⟨16, .phase⟩], guard := none }) rfl (fun KK hKK => ?_) AllReadyH.nil
          refine step_store_cell (by rfl) 41 _ _ rfl rb 99 u2 rfl rfl _ 52 R9.out info_slR (by rw [ref_len RGL.out]; decide) HO2.out.2 HO2.out.1 ?_
          intro z3 P1 P2 P3
          have P1 := P1.out
          rw [ref_set99 RGL.out] at P1
          have KB := Kp.but (f := fun i => i = rb) P2.out (Or.inl rfl)
          have XX10 := Lib.hid (KB.is XX9.out fun e => (show rx ≠ rb by have := WB0.out; omega) e)
          have I10 := Lib.hid (KB.is I9.out fun e => (show ib ≠ rb by have := WB0.out; have := IB.out; omega) e)
          have L10 := Lib.hid (row_kp L9.out KB fun k hk q => row_type L9.out R9.out (by decide) (q ▸ hk))
          have K10 := Lib.hid (K9.out.trans KB fun i hi => Or.inl (Or.inl hi))
          have S10 := Lib.hid (Nat.le_trans S9.out KB.size)
          have R10 := Lib.hid P1
          have hN := And.intro I10.out (ref_at98 RGL.out P1)
          clear hH L9 R9 XX9 I9 K9 S9 P1 P2 P3 KB HO2
          refine hKK.out _ _ hN (fun hH => ?_)
          clear hKK KK hN
          try simp only [Act.put, List.setIfInBounds_toArray, List.set_cons_zero, List.set_cons_succ]
          refine wpAnyH_done (by kernel_rfl) ?_ _
          refine NoPanic.normal ?_
          clear hH
          have e98 := ref_at98 RGL.out R10.out
          have gl := str_append B SB
          have gN : ¬ 9223372036854775807 < B.length + SB.length := by have := BM.out; have := bM.out; have := SL.out; omega
          have hf98 : 98 < (refCells RG F ((used + 1 : Nat) : Int) B u2).length := by rw [ref_len RGL.out]; decide
          go_wp2_with (refine wpList_store_cell (by rfl) 9 _ _ rfl rb 98 (.string (str (B ++ SB))) rfl (by first | rfl | (rw [gl]; rfl) | (rw [← gl]; rfl)) _ 52 R10.out info_str hf98 rfl rfl ?_)
          intro z4 P1 P2 P3
          have P1 := P1.out
          rw [ref_set98 RGL.out] at P1
          have KB := Kp.but (f := fun i => i = rb) P2.out (Or.inl rfl)
          have XX11 := Lib.hid (KB.is XX10.out fun e => (show rx ≠ rb by have := WB0.out; omega) e)
          have I11 := Lib.hid (KB.is I10.out fun e => (show ib ≠ rb by have := WB0.out; have := IB.out; omega) e)
          have L11 := Lib.hid (row_kp L10.out KB fun k hk q => row_type L10.out R10.out (by decide) (q ▸ hk))
          have K11 := Lib.hid (K10.out.trans KB fun i hi => Or.inl (Or.inl hi))
          have S11 := Lib.hid (Nat.le_trans S10.out KB.size)
          have W11 := Lib.hid P1
          clear P1 P2 P3 KB R10 XX10 I10 L10 K10 S10 e98 gl gN hf98
          have II := Ci.range_of I11.out
          go_wp2_with (first
            | (refine wpList_load_mid (by rfl) 24 _ rfl ib 0 rfl (byteCells ID) _ II Tryd.underlying24 rfl (by rw [infoId, byteCells_length, IDL.out]) ?_)
            | (refine wpList_store_block rfl 24 _ _ rfl rx 0 (byteCells ID) rfl rfl (zeros 32) 24 XX11.out (by rw [infoId, byteCells_length, IDL.out]) (by simp [zeros, byteCells_length, IDL.out]) (byteCells_one _) ?_))
          intro wq P1 P2 P3
          have P1 := P1.out
          rw [splice_all _ _ (by simp [zeros, byteCells_length, IDL.out])] at P1
          go_wp2_with fail
          refine bodyPost_ret (v := .tuple #[.agg (byteCells ID).toArray, .bool true, .int .i64 0]) (results_cell_two (p := 6) (t := 7) (u := 8) rfl _ _ rx _ rfl (run_loadVar_row _ _ 24 _ _ (0, 0) _ P1 Tryd.underlying24 rfl (by rw [infoId]; simp [byteCells_length, IDL.out]))) rfl ?_
          have KB := Kp.but (f := fun i => i = rx) P2.out (Or.inl rfl)
          have LN : L ++ [ne] = L ++ [⟨ID, V k8, B.length, b.length + 48⟩] := by rw [NEW.out, SN.out, SL.out, HKV.out]
          rw [LN] at L11
          have L12 := row_kp L11.out KB fun k hk q => row_type L11.out XX11.out (by decide) (q ▸ hk)
          refine ⟨used + 1, u2, by rw [HRR.out], by rw [HRR.out]; show 16 * used + 16 = _; omega, ?_, K11.out.trans KB fun i hi => Or.inr (by rw [HRX.out, hi]; exact Nat.le_refl _), ?_⟩
          · rw [HRR.out]; exact ⟨KB.is W11.out (by have := WB0.out; omega), L12, WB0.out.2, Nat.le_trans S11.out KB.size⟩
          · rintro k (q | q)
            · exact Or.inl (Or.inl q)
            · exact (U2.out k q).imp (fun e => Or.inr e) id

end Go.Proofs.YtfhlcondnaahiaaDoor
