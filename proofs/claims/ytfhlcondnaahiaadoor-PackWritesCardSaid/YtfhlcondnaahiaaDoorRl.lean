/- The law PackWrites: its walk. -/
import Derived.Test.YtfhlcondnaahiaaDoorTk
import Derived.Test.YtfhlcondnaahiaaDoorHj
import Derived.Test.YtfhlcondnaahiaaDoorPp
namespace Go.Proofs.YtfhlcondnaahiaaDoor
open Go.RowKit Sha

theorem PwS.next {w X : World} {base wb tb rb : Nat} {fa : Option Addr} {fc : Nat} {n : UInt8} {i k used : Nat} {B : List UInt8} {L : List En} {v1 v2 : Value} {gm : Option Nat} {lv : Value} (h : PwS w X base wb tb rb fa fc n i used B L v1 v2 gm lv) (hk : i ≤ k) : PwS w X base wb tb rb fa fc n k used B L v1 v2 gm lv :=
  ⟨h.o, h.r, Nat.le_trans h.ub hk, Nat.le_trans h.lb hk, by have := h.bb; omega, h.ff, h.bl⟩
theorem ensIn.belowW {w w' : World} {a : Option Addr} {L : List En} (h : ensIn w a L) (k : Below w.heap.size w w') : ensIn w' a L := by
  rcases h with h | ⟨b, o, e, hc⟩
  · exact Or.inl h
  · exact Or.inr ⟨b, o, e, fun j hj i u hi => (k.cell (block_lt_of_cell (hc j hj i u hi))).trans (hc j hj i u hi)⟩
theorem rowM.row {w : World} {base b2 m : Nat} {v lv : Value} {l : List UInt8} {xs : List Value} (h : rowM w base v l) (h2 : w.ownsRow b2 93 35 lv m xs) (k : Nat) (hk : lv.ownBlock = some k) : v.ownBlock ≠ some k := by
  rcases h2.2 with ⟨rfl, h0⟩ | ⟨q, cap, cur, rfl, hba, hh, hr⟩
  · cases hk
  · simp only [Value.ownBlock] at hk
    cases hk
    rcases h.2 with ⟨rfl, h0⟩ | ⟨q2, cap2, cur2, fz, rfl, hbg, hgg, rest⟩
    · intro q; cases q
    · intro e
      simp only [Value.ownBlock] at e
      cases e
      rw [hgg] at hh
      injection hh with hh
      injection hh with _ h2 _
      exact absurd h2 (by decide)
set_option maxRecDepth 100000 in
set_option maxHeartbeats 16000000 in
theorem law_packWrites (n : UInt8) (a : Option Addr) (c : Nat) (R : List Lmp) (w : World) (hR : lumpsIn w a R) (ht : tables w) :
    Calls Tryd.prog 3 #[.int .u8 (V n), .slice a R.length c] w fun e w' => e = .returned (.bool true) ∧ Below w.heap.size w w' := by
  have HR := Lib.hid hR
  have T0 := Lib.hid ht
  have hz := zeroId
  have zl : zero32.length = 32 := rfl
  clear hR ht
  go_enter Tryd.func3, Tryd.ntmps3
  go_wp2_with (first
    | (with_reducible refine (none_any w).mono ?_; rintro e wx ⟨rfl, rfl⟩)
    | ((with_reducible refine (add_nil w).mono ?_); rintro e w1 ⟨rfl, kb⟩; refine Hid.out ?_))
  refine Lib.hid ?_
  have B1 := Lib.hid kb
  clear kb
  generalize zero32 = ZZ at *
  go_wp2_with (refine wpList_store_block rfl 24 _ _ rfl _ 0 (byteCells ZZ) rfl rfl (zeros 32) 24 (blockIs.new _ (zeros 32) 24) (by rw [infoId, byteCells_length, zl]) (by simp [zeros, byteCells_length, zl]) (byteCells_one _) ?_)
  intro w2 P1 P2 P3
  have kb := alloc_below w1 (.cells (zeros 32).toArray 24 (0, 0))
  have B2 : Hid (Below w.heap.size w w2) := Lib.hid (B1.out.trans ((kb.trans (P2.out.below (Nat.le_refl _) kb.size)).mono B1.out.size))
  have T2 := Lib.hid (T0.out.below B2.out T0.out.2.2.1 T0.out.2.2.2)
  have PK := packs_any w2 T2.out
  clear P1 P2 P3 kb B1
  go_wp2_with (first
    | (with_reducible refine (none_any w2).mono ?_; rintro e wx ⟨rfl, rfl⟩)
    | (with_reducible refine (close_nil w2).mono ?_; rintro e wx ⟨rfl, rfl⟩)
    | ((with_reducible refine PK.mono ?_); rintro e w3 ⟨rfl, kb⟩; refine Hid.out ?_))
  refine Lib.hid ?_
  have B3 := Lib.hid (B2.out.trans (kb.mono B2.out.size))
  have T3 := Lib.hid (T2.out.below kb T2.out.2.2.1 T2.out.2.2.2)
  have WA := writers_any n w3 T3.out
  clear PK kb B2 T2
  go_wp2_with (first
    | (with_reducible refine (none_any w3).mono ?_; rintro e wx ⟨rfl, rfl⟩)
    | (with_reducible refine (count_nil w3).mono ?_; rintro e wx ⟨rfl, rfl⟩)
    | (with_reducible refine (size_nil w3).mono ?_; rintro e wx ⟨rfl, rfl⟩)
    | ((with_reducible refine WA.mono ?_); rintro e w4 ⟨wb, tb, fa, fc, rp, rfl, hW, l1, l2, l3, -, hRf, kb⟩; refine Hid.out ?_))
  refine Lib.hid ?_
  have B4 := Lib.hid (B3.out.trans (kb.mono B3.out.size))
  obtain ⟨base, hbase⟩ : ∃ base, base = w4.heap.size := ⟨_, rfl⟩
  rw [← hbase] at hW
  generalize hnl : Value.slice none 0 0 = nl at *
  have LO : Hid (w.heap.size ≤ wb ∧ w.heap.size ≤ tb ∧ w.heap.size ≤ rp ∧ w.heap.size ≤ base) := Lib.hid ⟨Nat.le_trans B3.out.size l1, Nat.le_trans B3.out.size l2, Nat.le_trans B3.out.size l3, by rw [hbase]; exact B4.out.size⟩
  have PS : Hid (PwS w w4 base wb tb rp fa fc n 0 0 [] [] nl nl none nl) := Lib.hid ⟨hW, ⟨hRf, hnl ▸ World.ownsRow_nil _ _ _ _, by rw [hbase]; exact hRf.lt, Nat.le_of_eq hbase⟩, Nat.le_refl _, Nat.le_refl _, Nat.le_refl _, fun x hx => absurd hx List.not_mem_nil, B4.out⟩
  have PLN := Lib.hid (penCells_length (ringN n) tb (ringN_length n))
  clear WA kb B3 T3 l1 l2 l3 hW hRf B4 hbase hnl
  go_wp2_with fail
  go_loopw [14] (fun i wr => ∃ (j used : Nat) (B : List UInt8) (L : List En) (v1 v2 : Value) (gm : Option Nat) (lv : Value), j ≤ R.length ∧ j ≤ 12 ∧ i = .int .i64 (j : Int) ∧ Hid (PwS w wr base wb tb rp fa fc n j used B L v1 v2 gm lv)) (fun i _ => R.length - (intOf i).toNat)
  case atStart => exact ⟨0, 0, [], [], nl, nl, none, nl, Nat.zero_le _, Nat.zero_le _, rfl, PS⟩
  case round =>
    clear PS
    obtain ⟨j, used, B, L, v1, v2, gm, lv, hj, hj2, rfl, HS⟩ := hrel
    have q0 : 0 ≤ (j : Int) := by omega
    by_cases hlt : j < R.length ∧ j < 12
    · obtain ⟨h1, h2⟩ := hlt
      have q1 : (j : Int) < (R.length : Int) := by omega
      have q2 : (j : Int) < 12 := by omega
      obtain ⟨b, o, rfl, d0, d1, hp0⟩ := HR.out j h1
      have CX0 := Lib.hid (fun X (hX : Below w.heap.size w X) => (hX.cell (block_lt_of_cell d0)).trans d0)
      have CX1 := Lib.hid (fun X (hX : Below w.heap.size w X) => (hX.cell (block_lt_of_cell d1)).trans d1)
      generalize R[j] = r at *
      obtain ⟨kind, ra, rc, rl⟩ := r
      dsimp only at d0 d1 hp0 CX0 CX1
      have e0 := CX0.out wr HS.out.bl
      have TR := Lib.hid (T0.out.below HS.out.bl T0.out.2.2.1 T0.out.2.2.2)
      clear d0 d1
      by_cases hk9 : kind = 9
      · subst hk9
        clear hp0 CX0 CX1
        have b9 : ((9 : Int) == 9) = true := rfl
        by_cases hne : L = []
        · subst hne
          have CL := close_none wb (penCells (ringN n) tb) v1 v2 (.map gm) base wr PLN.out HS.out.o.i HS.out.o.e
          have RC := rclose_none (ringN n) [n] B used lv base rp wr (ringN_length n) HS.out.r
          have cv := conv_string wr none [] 0 (Or.inl rfl)
          have FR := from_any none 0 [] wr (Or.inl rfl) (fun x hx => absurd hx List.not_mem_nil) (by decide)
          rw [List.length_nil] at cv FR
          go_wp2_with (first
            | (with_reducible refine CL.mono ?_; rintro e wx ⟨rfl, rfl⟩)
            | (with_reducible refine RC.mono ?_; rintro e wx ⟨rfl, rfl⟩)
            | ((with_reducible refine FR.mono ?_); rintro e w5 ⟨v5, rfl, hv5, kb⟩; refine Hid.out ?_))
          refine Lib.hid ?_
          obtain ⟨a5, c5, rfl, hl5⟩ := own_ensW hv5 (fun x hx => absurd hx List.not_mem_nil)
          have SY := same_yes a5 none c5 0 [] w5 hl5 (Or.inl rfl) (fun x hx => absurd hx List.not_mem_nil) (by decide)
          have HS5 := Lib.hid (HS.out.below kb)
          rw [List.length_nil] at SY
          clear CL RC cv FR hv5 hl5 kb HS
          go_wp2_with ((with_reducible refine SY.mono ?_); rintro e w6 ⟨rfl, kb⟩)
          have HS6 := Lib.hid ((HS5.out.below kb).next (Nat.le_succ j))
          clear SY kb HS5
          go_roundw
          case rel => exact ⟨j + 1, used, B, [], v1, v2, gm, lv, h1, h2, by go_num, HS6⟩
          case measure => simp [intOf]; omega
        · have CL := close_any base wb tb fa fc [n] (16 * used) (kN n 1) (kN n 2) (kN n 3) B L v1 v2 gm wr (kN_length _ _) (kN_length _ _) (kN_length _ _) HS.out.o TR.out (by have := HS.out.ub; omega) (by have := HS.out.lb; omega) (by have := HS.out.bb; omega) HS.out.ff hne
          have PLB : Hid ((closeB (kN n 1) (kN n 2) [n] (16 * used) B L).length ≤ 100000) := Lib.hid (by
            unfold closeB
            have g1 := wseal_length (kN n 1) (kN n 2) 104 [104, 101, 97, 100] (tbytes [n] (16 * used) 16) (headB L) (tbytes_16 _ _)
            have g2 : (headB L).length ≤ 7 + 37 * L.length := headP_len L HS.out.ff (by have := HS.out.lb; omega) L.length
            have g3 := HS.out.lb
            have g4 := HS.out.bb
            rw [List.length_append, List.length_append, g1]
            show _ + (_ + 4) ≤ _
            omega)
          go_wp2_with ((with_reducible refine CL.mono ?_); rintro e w5 ⟨bv, rfl, hbv, hent, hW5, hk5⟩; refine Hid.out ?_)
          refine Lib.hid ?_
          have KF : Kp (wF wb tb v1 v2 gm) wr w5 := hk5.mono fun k q => Or.inl (q.elim Or.inl fun e => Or.inr (Or.inl e))
          have R5 := Lib.hid (HS.out.r.kpw HS.out.o KF)
          have W5 := Lib.hid hW5
          have BV5 := Lib.hid hbv
          have EN5 := Lib.hid hent
          have LO5 := Lib.hid (HS.out.bl.trans (hk5.low (fun k q => q.elim (fun e => e ▸ LO.out.1) fun e => e ▸ LO.out.2.1) HS.out.bl.size))
          have RC := rclose_any (kN n 1) (kN n 2) (kN n 3) [n] used B L lv base rp w5 (kN_length _ _) (kN_length _ _) (kN_length _ _) (by simp) (by have := HS.out.ub; omega) (by have := HS.out.lb; omega) (by have := HS.out.bb; omega) HS.out.ff hne R5.out
          have RLO : Hid (∀ k, rF rp lv k → w.heap.size ≤ k) := Lib.hid (HS.out.lor LO.out.2.2.1 LO.out.2.2.2)
          generalize hPP : closeB (kN n 1) (kN n 2) [n] (16 * used) B L = PP at *
          obtain ⟨av, cvv, rfl, okv⟩ := Pt.ok0_of hbv
          obtain ⟨ae, ce, rfl, ele⟩ := own_ens hent (fun x hx => (HS.out.ff x hx).1)
          clear CL KF hbv hent hW5 hk5 okv ele
          go_wp2_with ((with_reducible refine RC.mono ?_); rintro e w6 ⟨rfl, hr6, hl6, k6⟩; refine Hid.out ?_)
          refine Lib.hid ?_
          have W6 := Lib.hid (W5.out.kpr R5.out (ringN_length n) (fun x hx => (HS.out.ff x hx).1) (k6.mono fun k q => Or.inl (Or.inl q)) hr6)
          have R6 := Lib.hid hr6
          have BV6 := Lib.hid (row_kp BV5.out k6 fun g hg e => row_type BV5.out R5.out.1 (by decide) (e ▸ hg))
          have EN6 := Lib.hid (row_kp EN5.out k6 fun g hg e => row_type EN5.out R5.out.1 (by decide) (e ▸ hg))
          have LO6 := Lib.hid (LO5.out.trans (k6.low (fun k q => q ▸ LO.out.2.2.1) LO5.out.size))
          have HOK : Hid (∀ x ∈ L, x.ok) := Lib.hid (fun x hx => (HS.out.ff x hx).1)
          have UB := Lib.hid HS.out.ub
          have LB := Lib.hid HS.out.lb
          obtain ⟨av', cv', eav, okv⟩ := Pt.ok0_of BV6.out
          cases eav
          obtain ⟨ae', ce', eae, ele⟩ := own_ens EN6.out HOK.out
          cases eae
          obtain ⟨al, cl, rfl, ell⟩ := own_ensW hl6 HOK.out
          have L6 := Lib.hid ell
          have cv := conv_string w6 av PP cvv okv.1.2.2
          have FR := from_any ae ce L w6 ele HOK.out (by have := LB.out; omega)
          clear RC R5 W5 BV5 EN5 LO5 k6 hr6 hl6 HS okv ele
          go_wp2_with ((with_reducible refine FR.mono ?_); rintro e w7 ⟨v7, rfl, hv7, kb⟩; refine Hid.out ?_)
          refine Lib.hid ?_
          obtain ⟨a7, c7, rfl, el7⟩ := own_ensW hv7 HOK.out
          have SY := same_yes a7 al c7 cl L w7 el7 (L6.out.belowW kb) HOK.out (by have := LB.out; omega)
          have W7 := Lib.hid (W6.out.below kb)
          have R7 := Lib.hid (R6.out.below kb)
          have LO7 := Lib.hid (LO6.out.trans (kb.mono LO6.out.size))
          clear FR cv hv7 el7 W6 R6 BV6 EN6 LO6 L6 kb
          go_wp2_with ((with_reducible refine SY.mono ?_); rintro e w8 ⟨rfl, kb⟩)
          have HS8 : Hid (PwS w w8 base wb tb rp fa fc n (j + 1) (used + 1) [] [] (.slice none 0 0) (.slice none 0 0) none (.slice none 0 0)) := Lib.hid ⟨W7.out.below kb, R7.out.below kb, by have := UB.out; omega, Nat.zero_le _, Nat.zero_le _, fun x hx => absurd hx List.not_mem_nil, LO7.out.trans (kb.mono LO7.out.size)⟩
          clear SY kb W7 R7 LO7
          go_roundw
          case rel => exact ⟨j + 1, used + 1, [], [], _, _, none, _, h1, h2, by go_num, HS8⟩
          case measure => simp [intOf]; omega
      · have b9 : (kind == 9) = false := by simpa using hk9
        have b9b : ¬ kind = 9 := hk9
        go_upto_region 14 with fail
        clear e0 b9 b9b hz
        obtain ⟨m, hm⟩ : ∃ m, m = min rl.length 120 := ⟨_, rfl⟩
        have HMN : Hid (min (rl.length : Int) 120 = (m : Int)) := Lib.hid (by omega)
        obtain ⟨sa, sc, hsl, hso⟩ := cut_to ra rc rl 120 m hm hp0.1.1
        have hb1 : (rl.take 120).length ≤ 120 := by rw [List.length_take]; omega
        have SLI := Lib.hid hsl
        have HB1 := Lib.hid hb1
        have OBS := Lib.hid (hso w hp0)
        clear hsl hso hm hp0 hb1
        generalize rl.take 120 = BL at *
        refine wp_region_noPanic ?_
        refine wp_region_held_drew (S := fun w' => Below wr.heap.size wr w') (by kernel_rfl) (below_drew' (Below.refl _ _)) (fun hH => ?_)
        generalize wr.drew = z0 at *
        refine tk (i := 1) (oi := { dst := some 121, op := Op.move (Operand.tmp 1), type := 22, pos := "law.go:71", after := #[], guard := none }) (v := .slice (some ⟨b, o, none⟩) R.length c) rfl (fun wx hS => ?_) hH ?_
        · go_simp
        refine tk (i := 2) (oi := { dst := some 122, op := Op.move (Operand.tmp 14), type := 3, pos := "law.go:71", after := #[], guard := none }) (v := .int .i64 (j : Int)) rfl (fun wx hS => ?_) hH ?_
        · go_simp
        refine tk (i := 3) (oi := { dst := some 123, op := Op.indexAddr 22 (Operand.tmp 121) (Operand.tmp 122), type := 0, pos := "law.go:71", after := #[⟨1, .data⟩, ⟨2, .data⟩], guard := none }) (v := .pointer (some ⟨b, o + j * 2, none⟩)) rfl (fun wx hS => ?_) hH ?_
        · go_simp
        refine tk (i := 4) (oi := { dst := some 124, op := Op.fieldAddr 40 (Operand.tmp 123) 1, type := 0, pos := "law.go:71", after := #[⟨3, .data⟩], guard := none }) (v := .pointer (some ⟨b, o + j * 2 + 1, none⟩)) rfl (fun wx hS => ?_) hH ?_
        · go_simp
        refine tk (i := 5) (oi := { dst := some 125, op := Op.load 30 (Operand.tmp 124), type := 30, pos := "law.go:71", after := #[⟨4, .data⟩], guard := none }) (v := .slice ra rl.length rc) rfl (fun wx hS => ?_) hH ?_
        · have e1 := CX1.out wx (HS.out.bl.trans (hS.mono HS.out.bl.size)); go_simp
        refine tk (i := 6) (oi := { dst := some 126, op := Op.move (Operand.tmp 1), type := 22, pos := "law.go:71", after := #[], guard := none }) (v := .slice (some ⟨b, o, none⟩) R.length c) rfl (fun wx hS => ?_) hH ?_
        · go_simp
        refine tk (i := 7) (oi := { dst := some 127, op := Op.move (Operand.tmp 14), type := 3, pos := "law.go:71", after := #[], guard := none }) (v := .int .i64 (j : Int)) rfl (fun wx hS => ?_) hH ?_
        · go_simp
        refine tk (i := 8) (oi := { dst := some 128, op := Op.indexAddr 22 (Operand.tmp 126) (Operand.tmp 127), type := 0, pos := "law.go:71", after := #[⟨6, .data⟩, ⟨7, .data⟩], guard := none }) (v := .pointer (some ⟨b, o + j * 2, none⟩)) rfl (fun wx hS => ?_) hH ?_
        · go_simp
        refine tk (i := 9) (oi := { dst := some 129, op := Op.fieldAddr 40 (Operand.tmp 128) 1, type := 0, pos := "law.go:71", after := #[⟨8, .data⟩], guard := none }) (v := .pointer (some ⟨b, o + j * 2 + 1, none⟩)) rfl (fun wx hS => ?_) hH ?_
        · go_simp
        refine tk (i := 10) (oi := { dst := some 130, op := Op.load 30 (Operand.tmp 129), type := 30, pos := "law.go:71", after := #[⟨9, .data⟩], guard := none }) (v := .slice ra rl.length rc) rfl (fun wx hS => ?_) hH ?_
        · have e1 := CX1.out wx (HS.out.bl.trans (hS.mono HS.out.bl.size)); go_simp
        refine tk (i := 11) (oi := { dst := some 131, op := Op.call { callee := Callee.builtin Builtin.len, args := #[Operand.tmp 130], argTypes := #[30] }, type := 3, pos := "law.go:71", after := #[⟨10, .data⟩], guard := none }) (v := .int .i64 (rl.length : Int)) rfl (fun wx hS => ?_) hH ?_
        · go_simp
        refine tk (i := 12) (oi := { dst := some 132, op := Op.call { callee := Callee.builtin Builtin.min, args := #[Operand.tmp 131, Operand.const (Value.int IntKind.i64 120)], argTypes := #[3, 3] }, type := 3, pos := "law.go:71", after := #[⟨11, .data⟩], guard := none }) (v := .int .i64 (m : Int)) rfl (fun wx hS => ?_) hH ?_
        · have e1 := HMN.out; go_simp
        refine tk (i := 13) (oi := { dst := some 133, op := Op.slice 30 (Operand.tmp 125) none (some (Operand.tmp 132)) none, type := 30, pos := "law.go:71", after := #[⟨5, .data⟩, ⟨12, .data⟩], guard := none }) (v := .slice sa BL.length sc) rfl (fun wx hS => ?_) hH ?_
        · have e1 := SLI.out wx; go_simp
        refine wpAnyH_ready (rs := [0]) (by kernel_rfl) (by simp) ?_
        refine AllReadyH.cons (o := { dst := some 120, op := Op.buildSlice 30 0 #[], type := 30, pos := "law.go:71", after := #[], guard := none }) rfl (fun KK hKK => ?_) AllReadyH.nil
        have kb := alloc_below z0 (.cells #[] 5 (0, 0))
        have RO := Lib.hid (rowM.lit z0 wr.heap.size [] #[] rfl 0 rfl hH.size (by decide))
        have hN := hH.trans (kb.mono hH.size)
        clear hH kb
        go_simp
        refine hKK.out _ _ hN (fun hH => ?_)
        clear hKK KK hN
        try simp only [Act.put, List.setIfInBounds_toArray, List.set_cons_zero, List.set_cons_succ]
        generalize z0.alloc (.cells #[] 5 (0, 0)) = z1 at *
        generalize z0.heap.size = lb at *
        refine wpAnyH_ready (rs := [14]) (by kernel_rfl) (by simp) ?_
        refine AllReadyH.cons (o := { dst := some 134, op := Op.call { callee := Callee.builtin Builtin.append, args := #[Operand.tmp 120, Operand.tmp 133], argTypes := #[30, 30] }, type := 30, pos := "law.go:71", after := #[⟨0, .data⟩, ⟨13, .data⟩], guard := none }) rfl (fun KK hKK => ?_) AllReadyH.nil
        refine step_appendM0 rfl _ _ rfl wr.heap.size (.slice (some ⟨lb, 0, none⟩) 0 0) [] rfl RO.out sa BL.length sc BL rfl rfl ((OBS.out.below (HS.out.bl.trans (hH.mono HS.out.bl.size))).1.2.2) (by have := HB1.out; simp; omega) hH.size ?_
        intro v5 z2 p1 p2
        have hN := hH.trans (RO.out.grown p2 hH.size)
        rw [List.nil_append] at p1
        have RI := Lib.hid p1
        clear hH RO p1 p2
        refine hKK.out _ _ hN (fun hH => ?_)
        clear hKK KK hN
        try simp only [Act.put, List.setIfInBounds_toArray, List.set_cons_zero, List.set_cons_succ]
        refine wpAnyH_ready (rs := [15]) (by kernel_rfl) (by simp) ?_
        refine AllReadyH.cons (o := { dst := some 23, op := Op.assign (Operand.tmp 134), type := 30, pos := "law.go:71", after := #[⟨14, .data⟩, ⟨14, .chain⟩, ⟨0, .phase⟩, ⟨1, .phase⟩, ⟨2, .phase⟩, ⟨3, .phase⟩, ⟨4, .phase⟩, ⟨5, .phase⟩, ⟨6, .phase⟩, ⟨7, .phase⟩, ⟨8, .phase⟩, ⟨9, .phase⟩, ⟨10, .phase⟩, ⟨11, .phase⟩, ⟨12, .phase⟩, ⟨13, .phase⟩, ⟨14, .phase⟩], guard := none }) rfl (fun KK hKK => ?_) AllReadyH.nil
        go_simp
        refine hKK.out _ _ hH (fun hH => ?_)
        clear hKK KK
        try simp only [Act.put, List.setIfInBounds_toArray, List.set_cons_zero, List.set_cons_succ]
        refine wpAnyH_done (by kernel_rfl) ?_ _
        refine NoPanic.normal ?_
        have PS := Lib.hid (HS.out.below hH)
        have FR := Lib.hid (HS.out.o.fresh)
        have BWR := Lib.hid HS.out.o.b
        have TZ := Lib.hid (TR.out.below hH TR.out.2.2.1 TR.out.2.2.2)
        obtain ⟨ia, ic, hie, hio⟩ := RI.out.ok0
        have IO := Lib.hid hio
        have ILO : Hid (∀ g, v5.ownBlock = some g → wr.heap.size ≤ g ∧ g < z2.heap.size) := Lib.hid (by obtain ⟨_, _, _, _, _, _, _, h⟩ := RI.out.bytes; exact h)
        have INF : Hid (∀ g, v5.ownBlock = some g → ¬ wF wb tb v1 v2 gm g) := Lib.hid (fun g hg => FR.out g (ILO.out g hg).1)
        subst hie
        clear hH HS TR SLI OBS HMN CX1 FR hio
        obtain ⟨h, hh⟩ : ∃ h, h = BL.length / 2 := ⟨_, rfl⟩
        have HQU : Hid (IntKind.i64.wrap ((BL.length : Int) / 2) = (h : Int)) := Lib.hid (by have := HB1.out; rw [IntWalk.i64_in _ (by omega)]; omega)
        have hle : h ≤ BL.length := by omega
        have RH := Lib.hid (fun X => Pt.run_h ⟨ia, ic, BL⟩ h hle IO.out.1.1 X)
        have RL := Lib.hid (fun X => Pt.run_l ⟨ia, ic, BL⟩ h hle IO.out.1.1 X)
        have PH := Lib.hid (fun X (q : Pt.ok0 X ⟨ia, ic, BL⟩) => Pt.sub_ok0 q 0 h (Nat.zero_le _) hle)
        have PL := Lib.hid (fun X (q : Pt.ok0 X ⟨ia, ic, BL⟩) => Pt.sub_ok0 q h BL.length hle (Nat.le_refl _))
        have FLT : Hid (([(Pt.sub ⟨ia, ic, BL⟩ 0 h).l, (Pt.sub ⟨ia, ic, BL⟩ h BL.length).l] : List (List UInt8)).flatten = BL) := Lib.hid (by
          show ((BL.take h).drop 0) ++ (((BL.take BL.length).drop h) ++ []) = BL
          rw [List.drop_zero, List.take_length, List.append_nil, List.take_append_drop])
        dsimp only at RH RL
        generalize hp1 : Pt.sub ⟨ia, ic, BL⟩ 0 h = p1 at *
        generalize hp2 : Pt.sub ⟨ia, ic, BL⟩ h BL.length = p2 at *
        clear hh hle hp1 hp2
        obtain ⟨a1, c1, l1⟩ := p1
        obtain ⟨a2, c2, l2⟩ := p2
        dsimp only at RH RL FLT
        have hz := zeroId
        have zl : zero32.length = 32 := rfl
        obtain ⟨RX, hRX⟩ : ∃ RX, RX = addX n used B L kind BL := ⟨_, rfl⟩
        have RGOOD : Hid (RX.id.length = 32 ∧ RX.L.length ≤ L.length + 1 ∧ RX.B.length ≤ B.length + 168 ∧ (∀ x ∈ RX.L, x.fine) ∧ RX.told ≤ 16 * (used + 1)) := Lib.hid (hRX ▸ addX_good n used B L kind BL (by have := PS.out.lb; omega) (by have := PS.out.bb; omega) HB1.out PS.out.ff)
        have ADD := Lib.hid (fun g X (hW : WrAt X base wb tb fa fc [n] (16 * used) (penCells (ringN n) tb) B L v1 v2 gm) (t : tables X) hP => addX_any n base wb tb fa fc used B L v1 v2 gm kind [l1, l2] BL FLT.out rfl HB1.out g X hW t (by have := PS.out.ub; omega) (by have := PS.out.lb; omega) (by have := PS.out.bb; omega) hP)
        have RADD := Lib.hid (fun X (hR : RefAt X base rp (ringN n) [n] used B L lv) => raddX_any n base rp used B L lv kind BL HB1.out X hR (by have := PS.out.ub; omega) (by have := PS.out.lb; omega) (by have := PS.out.bb; omega) PS.out.ff)
        rw [← hRX] at ADD RADD
        have HRX := Lib.hid hRX
        clear hRX
        go_upto_region 15 with fail
        refine wp_region_noPanic ?_
        refine wp_region_held_drew (S := fun X => Below w.heap.size w X) (by kernel_rfl) (below_drew' PS.out.bl) (fun hH => ?_)
        have D0 := below_drew' (Below.refl z2.heap.size z2)
        have Q0 := Lib.hid (PS.out.below D0)
        have TZ0 := Lib.hid (TZ.out.below D0 TZ.out.2.2.1 TZ.out.2.2.2)
        have RI0 := Lib.hid (RI.out.kp (Kp.below (f := fun _ => False) D0) fun _ _ => id)
        have SZ0 := Lib.hid D0.size
        clear D0 PS TZ RI IO
        generalize z2.drew = y0 at *
        refine tk (i := 0) (oi := { dst := some 136, op := Op.move (Operand.tmp 12), type := 27, pos := "law.go:72", after := #[], guard := none }) (v := .pointer (some ⟨wb, 0, none⟩)) rfl (fun wx hS => ?_) hH ?_
        · go_simp
        refine tk (i := 1) (oi := { dst := some 137, op := Op.move (Operand.tmp 1), type := 22, pos := "law.go:72", after := #[], guard := none }) (v := .slice (some ⟨b, o, none⟩) R.length c) rfl (fun wx hS => ?_) hH ?_
        · go_simp
        refine tk (i := 2) (oi := { dst := some 138, op := Op.move (Operand.tmp 14), type := 3, pos := "law.go:72", after := #[], guard := none }) (v := .int .i64 (j : Int)) rfl (fun wx hS => ?_) hH ?_
        · go_simp
        refine tk (i := 3) (oi := { dst := some 139, op := Op.indexAddr 22 (Operand.tmp 137) (Operand.tmp 138), type := 0, pos := "law.go:72", after := #[⟨1, .data⟩, ⟨2, .data⟩], guard := none }) (v := .pointer (some ⟨b, o + j * 2, none⟩)) rfl (fun wx hS => ?_) hH ?_
        · go_simp
        refine tk (i := 4) (oi := { dst := some 140, op := Op.fieldAddr 40 (Operand.tmp 139) 0, type := 0, pos := "law.go:72", after := #[⟨3, .data⟩], guard := none }) (v := .pointer (some ⟨b, o + j * 2, none⟩)) rfl (fun wx hS => ?_) hH ?_
        · go_simp
        refine tk (i := 5) (oi := { dst := some 141, op := Op.load 3 (Operand.tmp 140), type := 3, pos := "law.go:72", after := #[⟨4, .data⟩], guard := none }) (v := .int .i64 kind) rfl (fun wx hS => ?_) hH ?_
        · have e1 := CX0.out wx hS; go_simp
        refine tk (i := 6) (oi := { dst := some 142, op := Op.move (Operand.tmp 23), type := 30, pos := "law.go:72", after := #[], guard := none }) (v := .slice ia BL.length ic) rfl (fun wx hS => ?_) hH ?_
        · go_simp
        refine tk (i := 7) (oi := { dst := some 143, op := Op.move (Operand.tmp 23), type := 30, pos := "law.go:72", after := #[], guard := none }) (v := .slice ia BL.length ic) rfl (fun wx hS => ?_) hH ?_
        · go_simp
        refine tk (i := 8) (oi := { dst := some 144, op := Op.call { callee := Callee.builtin Builtin.len, args := #[Operand.tmp 143], argTypes := #[30] }, type := 3, pos := "law.go:72", after := #[⟨7, .data⟩], guard := none }) (v := .int .i64 (BL.length : Int)) rfl (fun wx hS => ?_) hH ?_
        · go_simp
        refine tk (i := 9) (oi := { dst := some 145, op := Op.binOp BinOp.quo 3 (Operand.tmp 144) (Operand.const (Value.int IntKind.i64 2)) 3, type := 3, pos := "law.go:72", after := #[⟨8, .data⟩], guard := none }) (v := .int .i64 (h : Int)) rfl (fun wx hS => ?_) hH ?_
        · have e1 := HQU.out; go_simp
        refine tk (i := 10) (oi := { dst := some 146, op := Op.slice 30 (Operand.tmp 142) none (some (Operand.tmp 145)) none, type := 30, pos := "law.go:72", after := #[⟨6, .data⟩, ⟨9, .data⟩], guard := none }) (v := .slice a1 l1.length c1) rfl (fun wx hS => ?_) hH ?_
        · have e1 := RH.out wx; go_simp
        refine tk (i := 11) (oi := { dst := some 147, op := Op.move (Operand.tmp 23), type := 30, pos := "law.go:72", after := #[], guard := none }) (v := .slice ia BL.length ic) rfl (fun wx hS => ?_) hH ?_
        · go_simp
        refine tk (i := 12) (oi := { dst := some 148, op := Op.move (Operand.tmp 23), type := 30, pos := "law.go:72", after := #[], guard := none }) (v := .slice ia BL.length ic) rfl (fun wx hS => ?_) hH ?_
        · go_simp
        refine tk (i := 13) (oi := { dst := some 149, op := Op.call { callee := Callee.builtin Builtin.len, args := #[Operand.tmp 148], argTypes := #[30] }, type := 3, pos := "law.go:72", after := #[⟨12, .data⟩], guard := none }) (v := .int .i64 (BL.length : Int)) rfl (fun wx hS => ?_) hH ?_
        · go_simp
        refine tk (i := 14) (oi := { dst := some 150, op := Op.binOp BinOp.quo 3 (Operand.tmp 149) (Operand.const (Value.int IntKind.i64 2)) 3, type := 3, pos := "law.go:72", after := #[⟨13, .data⟩], guard := none }) (v := .int .i64 (h : Int)) rfl (fun wx hS => ?_) hH ?_
        · have e1 := HQU.out; go_simp
        refine tk (i := 15) (oi := { dst := some 151, op := Op.slice 30 (Operand.tmp 147) (some (Operand.tmp 150)) none none, type := 30, pos := "law.go:72", after := #[⟨11, .data⟩, ⟨14, .data⟩], guard := none }) (v := .slice a2 l2.length c2) rfl (fun wx hS => ?_) hH ?_
        · have e1 := RL.out wx; go_simp
        obtain ⟨TUP, hTUP⟩ : ∃ T, T = Value.tuple #[.agg (byteCells RX.id).toArray, .bool RX.yes, .int .i64 RX.er] := ⟨_, rfl⟩
        have HTUP := Lib.hid hTUP
        clear hTUP
        have PB := Lib.hid (And.intro Q0.out.ub (And.intro Q0.out.lb (And.intro Q0.out.bb Q0.out.ff)))
        revert SZ0 RI0 TZ0 Q0 hH
        refine join2 (Q := ?QA_) (H := fun (q g : Nat) (wx : World) => Below w.heap.size w wx ∧ (∃ u1 u2 gn, WrAt wx base wb tb fa fc [n] RX.told (penCells (ringN n) tb) RX.B RX.L u1 u2 gn ∧ ∀ k, wF wb tb u1 u2 gn k → wF wb tb v1 v2 gm k ∨ z2.heap.size ≤ k) ∧ RefAt wx base rp (ringN n) [n] used B L lv ∧ tables wx ∧ rowM wx wr.heap.size (.slice ia BL.length ic) BL ∧ (blockIs wx q (zeros 32) 24 ∧ base ≤ q) ∧ g = g) (fun REST => ?mainA_) ?restA_
        case mainA_ =>
          intro hH Q0 TZ0 RI0 SZ0
          have OKI : ∀ X, rowM X wr.heap.size (.slice ia BL.length ic) BL → ∀ Y, But tb X Y → (∀ g, (Value.slice ia BL.length ic).ownBlock = some g → g ≠ tb) → Pt.ok0 Y ⟨ia, ic, BL⟩ := fun X r Y k hg => by
            have r2 := r.kp (Kp.but (f := fun i => i = tb) k (Or.inl rfl)) hg
            obtain ⟨a9, c9, e9, o9⟩ := r2.ok0
            cases e9
            exact o9
          refine wpAnyH_ready (rs := [16, 22]) (by kernel_rfl) (by simp) ?_
          refine AllReadyH.cons (o := { dst := some 152, op := Op.buildSlice 71 2 #[(0, Operand.tmp 146), (1, Operand.tmp 151)], type := 71, pos := "law.go:72", after := #[⟨10, .data⟩, ⟨15, .data⟩], guard := none }) rfl (fun KK hKK => ?_) (AllReadyH.cons (o := { dst := some 24, op := Op.alloc 24, type := 0, pos := "law.go:72", after := #[], guard := none }) rfl (fun KK hKK => ?_) AllReadyH.nil)
          · skip
            have kb := alloc_below y0 (.cells #[.slice a1 l1.length c1, .slice a2 l2.length c2] 30 (0, 0))
            have LB := Lib.hid (blockIs.new y0 [.slice a1 l1.length c1, .slice a2 l2.length c2] 30)
            replace Q0 := Lib.hid (Q0.out.below kb)
            replace TZ0 := Lib.hid (TZ0.out.below kb TZ0.out.2.2.1 TZ0.out.2.2.2)
            replace RI0 := Lib.hid (RI0.out.kp (Kp.below (f := fun _ => False) kb) fun _ _ => id)
            replace SZ0 := Lib.hid (Nat.le_trans SZ0.out kb.size)
            have hN := hH.trans (kb.mono hH.size)
            clear hH kb
            go_simp
            refine hKK.out _ _ hN (fun hH => ?_)
            clear hKK KK hN
            try simp only [Act.put, List.setIfInBounds_toArray, List.set_cons_zero, List.set_cons_succ]
            generalize y0.alloc (.cells #[.slice a1 l1.length c1, .slice a2 l2.length c2] 30 (0, 0)) = yl1 at *
            generalize y0.heap.size = lb2 at *
            refine wpAnyH_ready (rs := [17, 22]) (by kernel_rfl) (by simp) ?_
            refine AllReadyH.cons (o := { dst := some 153, op := Op.call { callee := Callee.value (Operand.func 8), args := #[Operand.tmp 136, Operand.tmp 141, Operand.tmp 152], argTypes := #[27, 3, 71] }, type := 26, pos := "law.go:72", after := #[⟨0, .data⟩, ⟨5, .data⟩, ⟨16, .data⟩], guard := none }) rfl (fun KK hKK => ?_) (AllReadyH.cons (o := { dst := some 24, op := Op.alloc 24, type := 0, pos := "law.go:72", after := #[], guard := none }) rfl (fun KK hKK => ?_) AllReadyH.nil)
            · skip
              have hlt : lb2 ≠ tb := fun e => blk_ne LB.out Q0.out.o.t.is (by decide) e
              have hbt : ∀ g, (Value.slice ia BL.length ic).ownBlock = some g → g ≠ tb := fun g hg e => RI0.out.typ Q0.out.o.t.is (by decide) (e ▸ hg)
              have AD := ADD.out lb2 yl1 Q0.out.o TZ0.out (fun Y k => two_parts2 (p := ⟨a1, c1, l1⟩) (q := ⟨a2, c2, l2⟩) (LB.out.cell 0) (LB.out.cell 1) hlt Y k (PH.out Y (OKI _ RI0.out Y k hbt)) (PL.out Y (OKI _ RI0.out Y k hbt)))
              go_simp
              with_reducible refine AD.mono ?_
              rintro e yc2 ⟨rfl, u1, u2, gn, hw1, hk1, hn1⟩
              have R0 := Lib.hid (Q0.out.r.kpw Q0.out.o hk1)
              replace TZ0 := Lib.hid (Q0.out.o.tabs TZ0.out hk1)
              replace RI0 := Lib.hid (RI0.out.kp hk1 INF.out)
              have hN := (show Below w.heap.size w yc2 from Below.trans hH (hk1.low (Q0.out.lo LO.out.1 LO.out.2.1 LO.out.2.2.2) hH.size))
              have hn2 : ∀ k, wF wb tb u1 u2 gn k → wF wb tb v1 v2 gm k ∨ z2.heap.size ≤ k := fun k q => (hn1 k q).imp id fun e => Nat.le_trans SZ0.out e
              replace Q0 := Lib.hid (And.intro hw1 hn2)
              clear hH hw1 hk1 hn1 hn2 AD hlt hbt LB SZ0
              rw [← HTUP.out]
              refine hKK.out _ _ hN (fun hH => ?_)
              clear hKK KK hN
              try simp only [Act.put, List.setIfInBounds_toArray, List.set_cons_zero, List.set_cons_succ]
              refine tk (i := 18) (oi := { dst := some 135, op := Op.move (Operand.tmp 153), type := 26, pos := "law.go:72", after := #[⟨17, .data⟩], guard := none }) (v := TUP) rfl (fun wx hS => ?_) hH ?_
              · go_simp
              refine tk (i := 19) (oi := { dst := some 154, op := Op.extract (Operand.tmp 135) 0, type := 24, pos := "law.go:72", after := #[⟨18, .data⟩], guard := none }) (v := .agg (byteCells RX.id).toArray) rfl (fun wx hS => ?_) hH ?_
              · have e1 := HTUP.out; go_simp
              refine tk (i := 20) (oi := { dst := some 155, op := Op.extract (Operand.tmp 135) 1, type := 4, pos := "law.go:72", after := #[⟨18, .data⟩, ⟨23, .gcOnly .lateStores⟩], guard := none }) (v := .bool RX.yes) rfl (fun wx hS => ?_) hH ?_
              · have e1 := HTUP.out; go_simp
              refine tk (i := 21) (oi := { dst := some 156, op := Op.extract (Operand.tmp 135) 2, type := 25, pos := "law.go:72", after := #[⟨18, .data⟩, ⟨24, .gcOnly .lateStores⟩], guard := none }) (v := .int .i64 RX.er) rfl (fun wx hS => ?_) hH ?_
              · have e1 := HTUP.out; go_simp
              refine wpAnyH_ready (rs := [22]) (by kernel_rfl) (by simp) ?_
              refine AllReadyH.cons (o := { dst := some 24, op := Op.alloc 24, type := 0, pos := "law.go:72", after := #[], guard := none }) rfl (fun KK hKK => ?_) AllReadyH.nil
              have kb := alloc_below yc2 (.cells (zeros 32).toArray 24 (0, 0))
              have QB := Lib.hid (And.intro (blockIs.new yc2 (zeros 32) 24) (show base ≤ yc2.heap.size from Q0.out.1.b))
              replace Q0 := Lib.hid (And.intro (Q0.out.1.below kb) Q0.out.2)
              replace R0 := Lib.hid (R0.out.below kb)
              replace TZ0 := Lib.hid (TZ0.out.below kb TZ0.out.2.2.1 TZ0.out.2.2.2)
              replace RI0 := Lib.hid (RI0.out.kp (Kp.below (f := fun _ => False) kb) fun _ _ => id)
              have hN := hH.trans (kb.mono hH.size)
              clear hH kb
              go_simp
              refine hKK.out _ _ hN (fun hH => ?_)
              clear hKK KK hN
              try simp only [Act.put, List.setIfInBounds_toArray, List.set_cons_zero, List.set_cons_succ]
              generalize yc2.alloc (.cells (zeros 32).toArray 24 (0, 0)) = ya3 at *
              generalize yc2.heap.size = qb at *
              refine wpAnyH_listed (L2 := #[true, true, true, true, true, true, true, true, true, true, true, true, true, true, true, true, true, true, true, true, true, true, true, false, false, false]) (by kernel_rfl) ?_
              exact REST qb lb2 ya3 ⟨hH, ⟨u1, u2, gn, Q0.out.1, Q0.out.2⟩, R0.out, TZ0.out, RI0.out, QB.out, rfl⟩
            · skip
              have kb := alloc_below yl1 (.cells (zeros 32).toArray 24 (0, 0))
              have QB := Lib.hid (And.intro (blockIs.new yl1 (zeros 32) 24) (show base ≤ yl1.heap.size from Q0.out.o.b))
              replace LB := Lib.hid (LB.out.below kb LB.out.lt)
              replace Q0 := Lib.hid (Q0.out.below kb)
              replace TZ0 := Lib.hid (TZ0.out.below kb TZ0.out.2.2.1 TZ0.out.2.2.2)
              replace RI0 := Lib.hid (RI0.out.kp (Kp.below (f := fun _ => False) kb) fun _ _ => id)
              replace SZ0 := Lib.hid (Nat.le_trans SZ0.out kb.size)
              have hN := hH.trans (kb.mono hH.size)
              clear hH kb
              go_simp
              refine hKK.out _ _ hN (fun hH => ?_)
              clear hKK KK hN
              try simp only [Act.put, List.setIfInBounds_toArray, List.set_cons_zero, List.set_cons_succ]
              generalize yl1.alloc (.cells (zeros 32).toArray 24 (0, 0)) = ya2 at *
              generalize yl1.heap.size = qb at *
              refine wpAnyH_ready (rs := [17]) (by kernel_rfl) (by simp) ?_
              refine AllReadyH.cons (o := { dst := some 153, op := Op.call { callee := Callee.value (Operand.func 8), args := #[Operand.tmp 136, Operand.tmp 141, Operand.tmp 152], argTypes := #[27, 3, 71] }, type := 26, pos := "law.go:72", after := #[⟨0, .data⟩, ⟨5, .data⟩, ⟨16, .data⟩], guard := none }) rfl (fun KK hKK => ?_) AllReadyH.nil
              have hlt : lb2 ≠ tb := fun e => blk_ne LB.out Q0.out.o.t.is (by decide) e
              have hbt : ∀ g, (Value.slice ia BL.length ic).ownBlock = some g → g ≠ tb := fun g hg e => RI0.out.typ Q0.out.o.t.is (by decide) (e ▸ hg)
              have AD := ADD.out lb2 ya2 Q0.out.o TZ0.out (fun Y k => two_parts2 (p := ⟨a1, c1, l1⟩) (q := ⟨a2, c2, l2⟩) (LB.out.cell 0) (LB.out.cell 1) hlt Y k (PH.out Y (OKI _ RI0.out Y k hbt)) (PL.out Y (OKI _ RI0.out Y k hbt)))
              go_simp
              with_reducible refine AD.mono ?_
              rintro e yc3 ⟨rfl, u1, u2, gn, hw1, hk1, hn1⟩
              replace QB := Lib.hid (And.intro (hk1.is QB.out.1 (Q0.out.o.blkF QB.out.1 (by decide) (by decide) (by decide) (by decide))) QB.out.2)
              have R0 := Lib.hid (Q0.out.r.kpw Q0.out.o hk1)
              replace TZ0 := Lib.hid (Q0.out.o.tabs TZ0.out hk1)
              replace RI0 := Lib.hid (RI0.out.kp hk1 INF.out)
              have hN := (show Below w.heap.size w yc3 from Below.trans hH (hk1.low (Q0.out.lo LO.out.1 LO.out.2.1 LO.out.2.2.2) hH.size))
              have hn2 : ∀ k, wF wb tb u1 u2 gn k → wF wb tb v1 v2 gm k ∨ z2.heap.size ≤ k := fun k q => (hn1 k q).imp id fun e => Nat.le_trans SZ0.out e
              replace Q0 := Lib.hid (And.intro hw1 hn2)
              clear hH hw1 hk1 hn1 hn2 AD hlt hbt LB SZ0
              rw [← HTUP.out]
              refine hKK.out _ _ hN (fun hH => ?_)
              clear hKK KK hN
              try simp only [Act.put, List.setIfInBounds_toArray, List.set_cons_zero, List.set_cons_succ]
              refine tk (i := 18) (oi := { dst := some 135, op := Op.move (Operand.tmp 153), type := 26, pos := "law.go:72", after := #[⟨17, .data⟩], guard := none }) (v := TUP) rfl (fun wx hS => ?_) hH ?_
              · go_simp
              refine tk (i := 19) (oi := { dst := some 154, op := Op.extract (Operand.tmp 135) 0, type := 24, pos := "law.go:72", after := #[⟨18, .data⟩], guard := none }) (v := .agg (byteCells RX.id).toArray) rfl (fun wx hS => ?_) hH ?_
              · have e1 := HTUP.out; go_simp
              refine tk (i := 20) (oi := { dst := some 155, op := Op.extract (Operand.tmp 135) 1, type := 4, pos := "law.go:72", after := #[⟨18, .data⟩, ⟨23, .gcOnly .lateStores⟩], guard := none }) (v := .bool RX.yes) rfl (fun wx hS => ?_) hH ?_
              · have e1 := HTUP.out; go_simp
              refine tk (i := 21) (oi := { dst := some 156, op := Op.extract (Operand.tmp 135) 2, type := 25, pos := "law.go:72", after := #[⟨18, .data⟩, ⟨24, .gcOnly .lateStores⟩], guard := none }) (v := .int .i64 RX.er) rfl (fun wx hS => ?_) hH ?_
              · have e1 := HTUP.out; go_simp
              refine wpAnyH_listed (L2 := #[true, true, true, true, true, true, true, true, true, true, true, true, true, true, true, true, true, true, true, true, true, true, true, false, false, false]) (by kernel_rfl) ?_
              exact REST qb lb2 yc3 ⟨hH, ⟨u1, u2, gn, Q0.out.1, Q0.out.2⟩, R0.out, TZ0.out, RI0.out, QB.out, rfl⟩
          · skip
            have kb := alloc_below y0 (.cells (zeros 32).toArray 24 (0, 0))
            have QB := Lib.hid (And.intro (blockIs.new y0 (zeros 32) 24) (show base ≤ y0.heap.size from Q0.out.o.b))
            replace Q0 := Lib.hid (Q0.out.below kb)
            replace TZ0 := Lib.hid (TZ0.out.below kb TZ0.out.2.2.1 TZ0.out.2.2.2)
            replace RI0 := Lib.hid (RI0.out.kp (Kp.below (f := fun _ => False) kb) fun _ _ => id)
            replace SZ0 := Lib.hid (Nat.le_trans SZ0.out kb.size)
            have hN := hH.trans (kb.mono hH.size)
            clear hH kb
            go_simp
            refine hKK.out _ _ hN (fun hH => ?_)
            clear hKK KK hN
            try simp only [Act.put, List.setIfInBounds_toArray, List.set_cons_zero, List.set_cons_succ]
            generalize y0.alloc (.cells (zeros 32).toArray 24 (0, 0)) = ya1 at *
            generalize y0.heap.size = qb at *
            refine wpAnyH_ready (rs := [16]) (by kernel_rfl) (by simp) ?_
            refine AllReadyH.cons (o := { dst := some 152, op := Op.buildSlice 71 2 #[(0, Operand.tmp 146), (1, Operand.tmp 151)], type := 71, pos := "law.go:72", after := #[⟨10, .data⟩, ⟨15, .data⟩], guard := none }) rfl (fun KK hKK => ?_) AllReadyH.nil
            have kb := alloc_below ya1 (.cells #[.slice a1 l1.length c1, .slice a2 l2.length c2] 30 (0, 0))
            have LB := Lib.hid (blockIs.new ya1 [.slice a1 l1.length c1, .slice a2 l2.length c2] 30)
            replace QB := Lib.hid (And.intro (QB.out.1.below kb QB.out.1.lt) QB.out.2)
            replace Q0 := Lib.hid (Q0.out.below kb)
            replace TZ0 := Lib.hid (TZ0.out.below kb TZ0.out.2.2.1 TZ0.out.2.2.2)
            replace RI0 := Lib.hid (RI0.out.kp (Kp.below (f := fun _ => False) kb) fun _ _ => id)
            replace SZ0 := Lib.hid (Nat.le_trans SZ0.out kb.size)
            have hN := hH.trans (kb.mono hH.size)
            clear hH kb
            go_simp
            refine hKK.out _ _ hN (fun hH => ?_)
            clear hKK KK hN
            try simp only [Act.put, List.setIfInBounds_toArray, List.set_cons_zero, List.set_cons_succ]
            generalize ya1.alloc (.cells #[.slice a1 l1.length c1, .slice a2 l2.length c2] 30 (0, 0)) = yl2 at *
            generalize ya1.heap.size = lb2 at *
            refine wpAnyH_ready (rs := [17]) (by kernel_rfl) (by simp) ?_
            refine AllReadyH.cons (o := { dst := some 153, op := Op.call { callee := Callee.value (Operand.func 8), args := #[Operand.tmp 136, Operand.tmp 141, Operand.tmp 152], argTypes := #[27, 3, 71] }, type := 26, pos := "law.go:72", after := #[⟨0, .data⟩, ⟨5, .data⟩, ⟨16, .data⟩], guard := none }) rfl (fun KK hKK => ?_) AllReadyH.nil
            have hlt : lb2 ≠ tb := fun e => blk_ne LB.out Q0.out.o.t.is (by decide) e
            have hbt : ∀ g, (Value.slice ia BL.length ic).ownBlock = some g → g ≠ tb := fun g hg e => RI0.out.typ Q0.out.o.t.is (by decide) (e ▸ hg)
            have AD := ADD.out lb2 yl2 Q0.out.o TZ0.out (fun Y k => two_parts2 (p := ⟨a1, c1, l1⟩) (q := ⟨a2, c2, l2⟩) (LB.out.cell 0) (LB.out.cell 1) hlt Y k (PH.out Y (OKI _ RI0.out Y k hbt)) (PL.out Y (OKI _ RI0.out Y k hbt)))
            go_simp
            with_reducible refine AD.mono ?_
            rintro e yc3 ⟨rfl, u1, u2, gn, hw1, hk1, hn1⟩
            replace QB := Lib.hid (And.intro (hk1.is QB.out.1 (Q0.out.o.blkF QB.out.1 (by decide) (by decide) (by decide) (by decide))) QB.out.2)
            have R0 := Lib.hid (Q0.out.r.kpw Q0.out.o hk1)
            replace TZ0 := Lib.hid (Q0.out.o.tabs TZ0.out hk1)
            replace RI0 := Lib.hid (RI0.out.kp hk1 INF.out)
            have hN := (show Below w.heap.size w yc3 from Below.trans hH (hk1.low (Q0.out.lo LO.out.1 LO.out.2.1 LO.out.2.2.2) hH.size))
            have hn2 : ∀ k, wF wb tb u1 u2 gn k → wF wb tb v1 v2 gm k ∨ z2.heap.size ≤ k := fun k q => (hn1 k q).imp id fun e => Nat.le_trans SZ0.out e
            replace Q0 := Lib.hid (And.intro hw1 hn2)
            clear hH hw1 hk1 hn1 hn2 AD hlt hbt LB SZ0
            rw [← HTUP.out]
            refine hKK.out _ _ hN (fun hH => ?_)
            clear hKK KK hN
            try simp only [Act.put, List.setIfInBounds_toArray, List.set_cons_zero, List.set_cons_succ]
            refine tk (i := 18) (oi := { dst := some 135, op := Op.move (Operand.tmp 153), type := 26, pos := "law.go:72", after := #[⟨17, .data⟩], guard := none }) (v := TUP) rfl (fun wx hS => ?_) hH ?_
            · go_simp
            refine tk (i := 19) (oi := { dst := some 154, op := Op.extract (Operand.tmp 135) 0, type := 24, pos := "law.go:72", after := #[⟨18, .data⟩], guard := none }) (v := .agg (byteCells RX.id).toArray) rfl (fun wx hS => ?_) hH ?_
            · have e1 := HTUP.out; go_simp
            refine tk (i := 20) (oi := { dst := some 155, op := Op.extract (Operand.tmp 135) 1, type := 4, pos := "law.go:72", after := #[⟨18, .data⟩, ⟨23, .gcOnly .lateStores⟩], guard := none }) (v := .bool RX.yes) rfl (fun wx hS => ?_) hH ?_
            · have e1 := HTUP.out; go_simp
            refine tk (i := 21) (oi := { dst := some 156, op := Op.extract (Operand.tmp 135) 2, type := 25, pos := "law.go:72", after := #[⟨18, .data⟩, ⟨24, .gcOnly .lateStores⟩], guard := none }) (v := .int .i64 RX.er) rfl (fun wx hS => ?_) hH ?_
            · have e1 := HTUP.out; go_simp
            refine wpAnyH_listed (L2 := #[true, true, true, true, true, true, true, true, true, true, true, true, true, true, true, true, true, true, true, true, true, true, true, false, false, false]) (by kernel_rfl) ?_
            exact REST qb lb2 yc3 ⟨hH, ⟨u1, u2, gn, Q0.out.1, Q0.out.2⟩, R0.out, TZ0.out, RI0.out, QB.out, rfl⟩
        case restA_ =>
          rintro qb lb2 y5 ⟨hH, ⟨u1, u2, gn, W1, N1⟩, R1, TZ1, RI1, QB1, -⟩
          have W5 := Lib.hid W1
          have N5 := Lib.hid N1
          have R5 := Lib.hid R1
          have TZ5 := Lib.hid TZ1
          have RI5 := Lib.hid RI1
          have QB5 := Lib.hid QB1
          clear W1 N1 R1 TZ1 RI1 QB1 ADD RH RL PH PL FLT HQU
          refine wpAnyH_ready (rs := [23]) (by kernel_rfl) (by simp) ?_
          refine AllReadyH.cons (o := { dst := none, op := Op.store 24 (Operand.tmp 24) (Operand.tmp 154), type := 0, pos := "law.go:72", after := #[⟨22, .data⟩, ⟨19, .data⟩, ⟨17, .chain⟩, ⟨0, .phase⟩, ⟨1, .phase⟩, ⟨2, .phase⟩, ⟨3, .phase⟩, ⟨4, .phase⟩, ⟨5, .phase⟩, ⟨6, .phase⟩, ⟨7, .phase⟩, ⟨8, .phase⟩, ⟨9, .phase⟩, ⟨10, .phase⟩, ⟨11, .phase⟩, ⟨12, .phase⟩, ⟨13, .phase⟩, ⟨14, .phase⟩, ⟨15, .phase⟩, ⟨16, .phase⟩, ⟨17, .phase⟩, ⟨18, .phase⟩, ⟨19, .phase⟩, ⟨20, .textOnly .lateStores⟩, ⟨21, .textOnly .lateStores⟩, ⟨22, .phase⟩], guard := none }) rfl (fun KK hKK => ?_) AllReadyH.nil
          refine step_store_block (by rfl) 24 _ _ rfl qb 0 (byteCells RX.id) rfl rfl (zeros 32) 24 QB5.out.1 (by rw [infoId, byteCells_length, RGOOD.out.1]) (by simp [zeros, byteCells_length, RGOOD.out.1]) (byteCells_one _) ?_
          intro y6 P1 P2 P3
          have P1 := P1.out
          rw [splice_all _ _ (by simp [zeros, byteCells_length, RGOOD.out.1])] at P1
          have nf : ¬ wF wb tb u1 u2 gn qb := W5.out.blkF QB5.out.1 (by decide) (by decide) (by decide) (by decide)
          have kp := Kp.but (f := fun i => i = qb) P2.out (Or.inl rfl)
          have W6 := Lib.hid (W5.out.but P2.out QB5.out.2 nf)
          have R6 : Hid (RefAt y6 base rp (ringN n) [n] used B L lv) := Lib.hid ⟨kp.is R5.out.1 fun e => blk_ne R5.out.1 QB5.out.1 (by decide) e, row_kp R5.out.2.1 kp fun g hg e => row_type R5.out.2.1 QB5.out.1 (by decide) (e ▸ hg), R5.out.2.2.1, Nat.le_trans R5.out.2.2.2 kp.size⟩
          have RI6 := Lib.hid (RI5.out.kp kp fun g hg e => RI5.out.typ QB5.out.1 (by decide) (e ▸ hg))
          have TZ6 := Lib.hid (TZ5.out.but P2.out ⟨by have := W5.out.g.2.2.2.2.1; have := QB5.out.2; omega, by have := W5.out.g.2.2.2.2.2; have := QB5.out.2; omega⟩)
          have Q6 := Lib.hid (And.intro P1 QB5.out.2)
          have hN := Below.trans hH (kp.low (fun k q => by rw [q]; exact Nat.le_trans LO.out.2.2.2 QB5.out.2) hH.size)
          clear hH P1 P2 P3 kp nf W5 R5 RI5 TZ5 QB5
          refine hKK.out _ _ hN (fun hH => ?_)
          clear hKK KK hN
          try simp only [Act.put, List.setIfInBounds_toArray, List.set_cons_zero, List.set_cons_succ]
          refine wpAnyH_ready (rs := [24]) (by kernel_rfl) (by simp) ?_
          refine AllReadyH.cons (o := { dst := some 25, op := Op.assign (Operand.tmp 155), type := 4, pos := "law.go:72", after := #[⟨20, .data⟩, ⟨23, .chain⟩, ⟨0, .phase⟩, ⟨1, .phase⟩, ⟨2, .phase⟩, ⟨3, .phase⟩, ⟨4, .phase⟩, ⟨5, .phase⟩, ⟨6, .phase⟩, ⟨7, .phase⟩, ⟨8, .phase⟩, ⟨9, .phase⟩, ⟨10, .phase⟩, ⟨11, .phase⟩, ⟨12, .phase⟩, ⟨13, .phase⟩, ⟨14, .phase⟩, ⟨15, .phase⟩, ⟨16, .phase⟩, ⟨17, .phase⟩, ⟨18, .phase⟩, ⟨19, .phase⟩, ⟨20, .phase⟩, ⟨21, .textOnly .lateStores⟩, ⟨22, .phase⟩, ⟨23, .phase⟩], guard := none }) rfl (fun KK hKK => ?_) AllReadyH.nil
          go_simp
          refine hKK.out _ _ hH (fun hH => ?_)
          clear hKK KK
          try simp only [Act.put, List.setIfInBounds_toArray, List.set_cons_zero, List.set_cons_succ]
          refine wpAnyH_ready (rs := [25]) (by kernel_rfl) (by simp) ?_
          refine AllReadyH.cons (o := { dst := some 26, op := Op.assign (Operand.tmp 156), type := 25, pos := "law.go:72", after := #[⟨21, .data⟩, ⟨24, .chain⟩, ⟨0, .phase⟩, ⟨1, .phase⟩, ⟨2, .phase⟩, ⟨3, .phase⟩, ⟨4, .phase⟩, ⟨5, .phase⟩, ⟨6, .phase⟩, ⟨7, .phase⟩, ⟨8, .phase⟩, ⟨9, .phase⟩, ⟨10, .phase⟩, ⟨11, .phase⟩, ⟨12, .phase⟩, ⟨13, .phase⟩, ⟨14, .phase⟩, ⟨15, .phase⟩, ⟨16, .phase⟩, ⟨17, .phase⟩, ⟨18, .phase⟩, ⟨19, .phase⟩, ⟨20, .phase⟩, ⟨21, .phase⟩, ⟨22, .phase⟩, ⟨23, .phase⟩, ⟨24, .phase⟩], guard := none }) rfl (fun KK hKK => ?_) AllReadyH.nil
          go_simp
          refine hKK.out _ _ hH (fun hH => ?_)
          clear hKK KK
          try simp only [Act.put, List.setIfInBounds_toArray, List.set_cons_zero, List.set_cons_succ]
          refine wpAnyH_done (by kernel_rfl) ?_ _
          refine NoPanic.normal ?_
          have BZ := Lib.hid hH
          clear hH hz zl
          go_upto_region 16 with fail
          refine wp_region_noPanic ?_
          have D0 := below_drew' (Below.refl y6.heap.size y6)
          have RI7 := Lib.hid (RI6.out.kp (Kp.below (f := fun _ => False) D0) fun _ _ => id)
          refine wp_region_held_drew (S := fun X => Below w.heap.size w X ∧ bytesIn X ia BL) (by kernel_rfl) (And.intro (BZ.out.trans (D0.mono BZ.out.size)) (by obtain ⟨a9, c9, e9, o9⟩ := RI7.out.ok0; cases e9; exact o9.1.2.2)) (fun hH => ?_)
          have W7 := Lib.hid (W6.out.below D0)
          have R7 := Lib.hid (R6.out.below D0)
          have Q7 := Lib.hid (And.intro (Q6.out.1.below D0 Q6.out.1.lt) Q6.out.2)
          have hz := zeroId
          have zl : zero32.length = 32 := rfl
          clear D0 W6 R6 RI6 Q6 TZ6 BZ
          generalize y6.drew = y7 at *
          refine tk (i := 0) (oi := { dst := some 158, op := Op.move (Operand.tmp 13), type := 36, pos := "law.go:73", after := #[], guard := none }) (v := .pointer (some ⟨rp, 0, none⟩)) rfl (fun wx hS => ?_) hH ?_
          · go_simp
          refine tk (i := 1) (oi := { dst := some 159, op := Op.move (Operand.tmp 1), type := 22, pos := "law.go:73", after := #[], guard := none }) (v := .slice (some ⟨b, o, none⟩) R.length c) rfl (fun wx hS => ?_) hH ?_
          · go_simp
          refine tk (i := 2) (oi := { dst := some 160, op := Op.move (Operand.tmp 14), type := 3, pos := "law.go:73", after := #[], guard := none }) (v := .int .i64 (j : Int)) rfl (fun wx hS => ?_) hH ?_
          · go_simp
          refine tk (i := 3) (oi := { dst := some 161, op := Op.indexAddr 22 (Operand.tmp 159) (Operand.tmp 160), type := 0, pos := "law.go:73", after := #[⟨1, .data⟩, ⟨2, .data⟩], guard := none }) (v := .pointer (some ⟨b, o + j * 2, none⟩)) rfl (fun wx hS => ?_) hH ?_
          · go_simp
          refine tk (i := 4) (oi := { dst := some 162, op := Op.fieldAddr 40 (Operand.tmp 161) 0, type := 0, pos := "law.go:73", after := #[⟨3, .data⟩], guard := none }) (v := .pointer (some ⟨b, o + j * 2, none⟩)) rfl (fun wx hS => ?_) hH ?_
          · go_simp
          refine tk (i := 5) (oi := { dst := some 163, op := Op.load 3 (Operand.tmp 162), type := 3, pos := "law.go:73", after := #[⟨4, .data⟩], guard := none }) (v := .int .i64 kind) rfl (fun wx hS => ?_) hH ?_
          · have e1 := CX0.out wx hS.1; go_simp
          refine tk (i := 6) (oi := { dst := some 164, op := Op.move (Operand.tmp 23), type := 30, pos := "law.go:73", after := #[], guard := none }) (v := .slice ia BL.length ic) rfl (fun wx hS => ?_) hH ?_
          · go_simp
          refine tk (i := 7) (oi := { dst := some 165, op := Op.convert 30 9 (Operand.tmp 164), type := 9, pos := "law.go:73", after := #[⟨6, .data⟩], guard := none }) (v := .string (str BL)) rfl (fun wx hS => ?_) hH ?_
          · have e1 := conv_string wx ia BL ic hS.2; go_simp
          revert Q7 RI7 W7 R7 hH
          refine join1 (Q := ?QB_) (H := fun (q : Nat) (wx : World) => (Below w.heap.size w wx ∧ bytesIn wx ia BL) ∧ (∃ used2 lv2, RX.told = 16 * used2 ∧ RefAt wx base rp (ringN n) [n] used2 RX.B RX.L lv2) ∧ WrAt wx base wb tb fa fc [n] RX.told (penCells (ringN n) tb) RX.B RX.L u1 u2 gn ∧ rowM wx wr.heap.size (.slice ia BL.length ic) BL ∧ (blockIs wx qb (byteCells RX.id) 24 ∧ base ≤ qb) ∧ (blockIs wx q (zeros 32) 24 ∧ base ≤ q)) (fun REST => ?mainB_) ?restB_
          case mainB_ =>
            intro RI7 hH W7 R7 Q7
            refine wpAnyH_ready (rs := [8, 13]) (by kernel_rfl) (by simp) ?_
            refine AllReadyH.cons (o := { dst := some 166, op := Op.call { callee := Callee.value (Operand.func 17), args := #[Operand.tmp 158, Operand.tmp 163, Operand.tmp 165], argTypes := #[36, 3, 9] }, type := 26, pos := "law.go:73", after := #[⟨0, .data⟩, ⟨5, .data⟩, ⟨7, .data⟩], guard := none }) rfl (fun KK hKK => ?_) (AllReadyH.cons (o := { dst := some 27, op := Op.alloc 24, type := 0, pos := "law.go:73", after := #[], guard := none }) rfl (fun KK hKK => ?_) AllReadyH.nil)
            · skip
              have AD := RADD.out y7 R7.out
              go_simp
              with_reducible refine AD.mono ?_
              rintro e xc1 ⟨used2, lv2, rfl, ht2, hr2, hk2, -⟩
              have HT2 := Lib.hid ht2
              have nq : ∀ g cs, blockIs y7 g cs 24 → ¬ rF rp lv g := fun g cs hg q => q.elim (fun e => blk_ne hg R7.out.1 (by decide) e) fun e => row_type R7.out.2.1 hg (by decide) e
              replace Q7 := Lib.hid (And.intro (hk2.is Q7.out.1 (nq _ _ Q7.out.1)) Q7.out.2)
              replace W7 := Lib.hid (W7.out.kpr R7.out (ringN_length n) (fun x hx => (PB.out.2.2.2 x hx).1) hk2 hr2)
              replace RI7 := Lib.hid (RI7.out.kp hk2 fun g hg q => q.elim (fun e => RI7.out.typ R7.out.1 (by decide) (e ▸ hg)) fun e => RI7.out.row R7.out.2.1 g e hg)
              have bl : Below w.heap.size w xc1 := Below.trans hH.1 (hk2.low (fun k q => q.elim (fun e => e ▸ LO.out.2.2.1) fun e => Nat.le_trans LO.out.2.2.2 (R7.out.2.1.lt k e).1) hH.1.size)
              replace R7 := Lib.hid hr2
              have hN := And.intro bl (show bytesIn xc1 ia BL by obtain ⟨a9, c9, e9, o9⟩ := RI7.out.ok0; cases e9; exact o9.1.2.2)
              clear hH bl hr2 hk2 ht2 AD nq
              rw [← HTUP.out]
              refine hKK.out _ _ hN (fun hH => ?_)
              clear hKK KK hN
              try simp only [Act.put, List.setIfInBounds_toArray, List.set_cons_zero, List.set_cons_succ]
              refine tk (i := 9) (oi := { dst := some 157, op := Op.move (Operand.tmp 166), type := 26, pos := "law.go:73", after := #[⟨8, .data⟩], guard := none }) (v := TUP) rfl (fun wx hS => ?_) hH ?_
              · go_simp
              refine tk (i := 10) (oi := { dst := some 167, op := Op.extract (Operand.tmp 157) 0, type := 24, pos := "law.go:73", after := #[⟨9, .data⟩], guard := none }) (v := .agg (byteCells RX.id).toArray) rfl (fun wx hS => ?_) hH ?_
              · have e1 := HTUP.out; go_simp
              refine tk (i := 11) (oi := { dst := some 168, op := Op.extract (Operand.tmp 157) 1, type := 4, pos := "law.go:73", after := #[⟨9, .data⟩, ⟨14, .gcOnly .lateStores⟩], guard := none }) (v := .bool RX.yes) rfl (fun wx hS => ?_) hH ?_
              · have e1 := HTUP.out; go_simp
              refine tk (i := 12) (oi := { dst := some 169, op := Op.extract (Operand.tmp 157) 2, type := 25, pos := "law.go:73", after := #[⟨9, .data⟩, ⟨15, .gcOnly .lateStores⟩], guard := none }) (v := .int .i64 RX.er) rfl (fun wx hS => ?_) hH ?_
              · have e1 := HTUP.out; go_simp
              refine wpAnyH_ready (rs := [13]) (by kernel_rfl) (by simp) ?_
              refine AllReadyH.cons (o := { dst := some 27, op := Op.alloc 24, type := 0, pos := "law.go:73", after := #[], guard := none }) rfl (fun KK hKK => ?_) AllReadyH.nil
              have kb := alloc_below xc1 (.cells (zeros 32).toArray 24 (0, 0))
              have QC := Lib.hid (And.intro (blockIs.new xc1 (zeros 32) 24) (show base ≤ xc1.heap.size from W7.out.b))
              replace W7 := Lib.hid (W7.out.below kb)
              replace R7 := Lib.hid (R7.out.below kb)
              replace RI7 := Lib.hid (RI7.out.kp (Kp.below (f := fun _ => False) kb) fun _ _ => id)
              replace Q7 := Lib.hid (And.intro (Q7.out.1.below kb Q7.out.1.lt) Q7.out.2)
              have hN := And.intro (hH.1.trans (kb.mono hH.1.size)) (hH.2.below kb)
              clear hH kb
              go_simp
              refine hKK.out _ _ hN (fun hH => ?_)
              clear hKK KK hN
              try simp only [Act.put, List.setIfInBounds_toArray, List.set_cons_zero, List.set_cons_succ]
              generalize xc1.alloc (.cells (zeros 32).toArray 24 (0, 0)) = xa2 at *
              generalize xc1.heap.size = qc at *
              refine wpAnyH_listed (L2 := #[true, true, true, true, true, true, true, true, true, true, true, true, true, true, false, false, false]) (by kernel_rfl) ?_
              exact REST qc xa2 ⟨hH, ⟨used2, lv2, HT2.out, R7.out⟩, W7.out, RI7.out, Q7.out, QC.out⟩
            · skip
              have kb := alloc_below y7 (.cells (zeros 32).toArray 24 (0, 0))
              have QC := Lib.hid (And.intro (blockIs.new y7 (zeros 32) 24) (show base ≤ y7.heap.size from W7.out.b))
              replace W7 := Lib.hid (W7.out.below kb)
              replace R7 := Lib.hid (R7.out.below kb)
              replace RI7 := Lib.hid (RI7.out.kp (Kp.below (f := fun _ => False) kb) fun _ _ => id)
              replace Q7 := Lib.hid (And.intro (Q7.out.1.below kb Q7.out.1.lt) Q7.out.2)
              have hN := And.intro (hH.1.trans (kb.mono hH.1.size)) (hH.2.below kb)
              clear hH kb
              go_simp
              refine hKK.out _ _ hN (fun hH => ?_)
              clear hKK KK hN
              try simp only [Act.put, List.setIfInBounds_toArray, List.set_cons_zero, List.set_cons_succ]
              generalize y7.alloc (.cells (zeros 32).toArray 24 (0, 0)) = xa1 at *
              generalize y7.heap.size = qc at *
              refine wpAnyH_ready (rs := [8]) (by kernel_rfl) (by simp) ?_
              refine AllReadyH.cons (o := { dst := some 166, op := Op.call { callee := Callee.value (Operand.func 17), args := #[Operand.tmp 158, Operand.tmp 163, Operand.tmp 165], argTypes := #[36, 3, 9] }, type := 26, pos := "law.go:73", after := #[⟨0, .data⟩, ⟨5, .data⟩, ⟨7, .data⟩], guard := none }) rfl (fun KK hKK => ?_) AllReadyH.nil
              have AD := RADD.out xa1 R7.out
              go_simp
              with_reducible refine AD.mono ?_
              rintro e xc2 ⟨used2, lv2, rfl, ht2, hr2, hk2, -⟩
              have HT2 := Lib.hid ht2
              have nq : ∀ g cs, blockIs xa1 g cs 24 → ¬ rF rp lv g := fun g cs hg q => q.elim (fun e => blk_ne hg R7.out.1 (by decide) e) fun e => row_type R7.out.2.1 hg (by decide) e
              replace QC := Lib.hid (And.intro (hk2.is QC.out.1 (nq _ _ QC.out.1)) QC.out.2)
              replace Q7 := Lib.hid (And.intro (hk2.is Q7.out.1 (nq _ _ Q7.out.1)) Q7.out.2)
              replace W7 := Lib.hid (W7.out.kpr R7.out (ringN_length n) (fun x hx => (PB.out.2.2.2 x hx).1) hk2 hr2)
              replace RI7 := Lib.hid (RI7.out.kp hk2 fun g hg q => q.elim (fun e => RI7.out.typ R7.out.1 (by decide) (e ▸ hg)) fun e => RI7.out.row R7.out.2.1 g e hg)
              have bl : Below w.heap.size w xc2 := Below.trans hH.1 (hk2.low (fun k q => q.elim (fun e => e ▸ LO.out.2.2.1) fun e => Nat.le_trans LO.out.2.2.2 (R7.out.2.1.lt k e).1) hH.1.size)
              replace R7 := Lib.hid hr2
              have hN := And.intro bl (show bytesIn xc2 ia BL by obtain ⟨a9, c9, e9, o9⟩ := RI7.out.ok0; cases e9; exact o9.1.2.2)
              clear hH bl hr2 hk2 ht2 AD nq
              rw [← HTUP.out]
              refine hKK.out _ _ hN (fun hH => ?_)
              clear hKK KK hN
              try simp only [Act.put, List.setIfInBounds_toArray, List.set_cons_zero, List.set_cons_succ]
              refine tk (i := 9) (oi := { dst := some 157, op := Op.move (Operand.tmp 166), type := 26, pos := "law.go:73", after := #[⟨8, .data⟩], guard := none }) (v := TUP) rfl (fun wx hS => ?_) hH ?_
              · go_simp
              refine tk (i := 10) (oi := { dst := some 167, op := Op.extract (Operand.tmp 157) 0, type := 24, pos := "law.go:73", after := #[⟨9, .data⟩], guard := none }) (v := .agg (byteCells RX.id).toArray) rfl (fun wx hS => ?_) hH ?_
              · have e1 := HTUP.out; go_simp
              refine tk (i := 11) (oi := { dst := some 168, op := Op.extract (Operand.tmp 157) 1, type := 4, pos := "law.go:73", after := #[⟨9, .data⟩, ⟨14, .gcOnly .lateStores⟩], guard := none }) (v := .bool RX.yes) rfl (fun wx hS => ?_) hH ?_
              · have e1 := HTUP.out; go_simp
              refine tk (i := 12) (oi := { dst := some 169, op := Op.extract (Operand.tmp 157) 2, type := 25, pos := "law.go:73", after := #[⟨9, .data⟩, ⟨15, .gcOnly .lateStores⟩], guard := none }) (v := .int .i64 RX.er) rfl (fun wx hS => ?_) hH ?_
              · have e1 := HTUP.out; go_simp
              refine wpAnyH_listed (L2 := #[true, true, true, true, true, true, true, true, true, true, true, true, true, true, false, false, false]) (by kernel_rfl) ?_
              exact REST qc xc2 ⟨hH, ⟨used2, lv2, HT2.out, R7.out⟩, W7.out, RI7.out, Q7.out, QC.out⟩
          case restB_ =>
            rintro qc y8 ⟨hH, ⟨used2, lv2, HT1, R1⟩, W1, RI1, Q1, QC1⟩
            have HT2 := Lib.hid HT1
            have R8 := Lib.hid R1
            have W8 := Lib.hid W1
            have RI8 := Lib.hid RI1
            have Q8 := Lib.hid Q1
            have QC8 := Lib.hid QC1
            clear HT1 R1 W1 RI1 Q1 QC1 RADD
            refine wpAnyH_ready (rs := [14]) (by kernel_rfl) (by simp) ?_
            refine AllReadyH.cons (o := { dst := none, op := Op.store 24 (Operand.tmp 27) (Operand.tmp 167), type := 0, pos := "law.go:73", after := #[⟨13, .data⟩, ⟨10, .data⟩, ⟨8, .chain⟩, ⟨0, .phase⟩, ⟨1, .phase⟩, ⟨2, .phase⟩, ⟨3, .phase⟩, ⟨4, .phase⟩, ⟨5, .phase⟩, ⟨6, .phase⟩, ⟨7, .phase⟩, ⟨8, .phase⟩, ⟨9, .phase⟩, ⟨10, .phase⟩, ⟨11, .textOnly .lateStores⟩, ⟨12, .textOnly .lateStores⟩, ⟨13, .phase⟩], guard := none }) rfl (fun KK hKK => ?_) AllReadyH.nil
            refine step_store_block (by rfl) 24 _ _ rfl qc 0 (byteCells RX.id) rfl rfl (zeros 32) 24 QC8.out.1 (by rw [infoId, byteCells_length, RGOOD.out.1]) (by simp [zeros, byteCells_length, RGOOD.out.1]) (byteCells_one _) ?_
            intro y9 P1 P2 P3
            have P1 := P1.out
            rw [splice_all _ _ (by simp [zeros, byteCells_length, RGOOD.out.1])] at P1
            have nf : ¬ wF wb tb u1 u2 gn qc := W8.out.blkF QC8.out.1 (by decide) (by decide) (by decide) (by decide)
            have kp := Kp.but (f := fun i => i = qc) P2.out (Or.inl rfl)
            have W9 := Lib.hid (W8.out.but P2.out QC8.out.2 nf)
            have R9 : Hid (RefAt y9 base rp (ringN n) [n] used2 RX.B RX.L lv2) := Lib.hid ⟨kp.is R8.out.1 fun e => blk_ne R8.out.1 QC8.out.1 (by decide) e, row_kp R8.out.2.1 kp fun g hg e => row_type R8.out.2.1 QC8.out.1 (by decide) (e ▸ hg), R8.out.2.2.1, Nat.le_trans R8.out.2.2.2 kp.size⟩
            have RI9 := Lib.hid (RI8.out.kp kp fun g hg e => RI8.out.typ QC8.out.1 (by decide) (e ▸ hg))
            have QC9 := Lib.hid (And.intro P1 QC8.out.2)
            have Q9 : Hid (blockIs y9 qb (byteCells RX.id) 24 ∧ base ≤ qb) := Lib.hid (by
              by_cases e : qb = qc
              · subst e; exact ⟨P1, Q8.out.2⟩
              · exact ⟨kp.is Q8.out.1 e, Q8.out.2⟩)
            have hN := And.intro (Below.trans hH.1 (kp.low (fun k q => by rw [q]; exact Nat.le_trans LO.out.2.2.2 QC8.out.2) hH.1.size)) (show bytesIn y9 ia BL by obtain ⟨a9, c9, e9, o9⟩ := RI9.out.ok0; cases e9; exact o9.1.2.2)
            clear hH P1 P2 P3 kp nf W8 R8 RI8 QC8 Q8
            refine hKK.out _ _ hN (fun hH => ?_)
            clear hKK KK hN
            try simp only [Act.put, List.setIfInBounds_toArray, List.set_cons_zero, List.set_cons_succ]
            refine wpAnyH_ready (rs := [15]) (by kernel_rfl) (by simp) ?_
            refine AllReadyH.cons (o := { dst := some 28, op := Op.assign (Operand.tmp 168), type := 4, pos := "law.go:73", after := #[⟨11, .data⟩, ⟨14, .chain⟩, ⟨0, .phase⟩, ⟨1, .phase⟩, ⟨2, .phase⟩, ⟨3, .phase⟩, ⟨4, .phase⟩, ⟨5, .phase⟩, ⟨6, .phase⟩, ⟨7, .phase⟩, ⟨8, .phase⟩, ⟨9, .phase⟩, ⟨10, .phase⟩, ⟨11, .phase⟩, ⟨12, .textOnly .lateStores⟩, ⟨13, .phase⟩, ⟨14, .phase⟩], guard := none }) rfl (fun KK hKK => ?_) AllReadyH.nil
            go_simp
            refine hKK.out _ _ hH (fun hH => ?_)
            clear hKK KK
            try simp only [Act.put, List.setIfInBounds_toArray, List.set_cons_zero, List.set_cons_succ]
            refine wpAnyH_ready (rs := [16]) (by kernel_rfl) (by simp) ?_
            refine AllReadyH.cons (o := { dst := some 29, op := Op.assign (Operand.tmp 169), type := 25, pos := "law.go:73", after := #[⟨12, .data⟩, ⟨15, .chain⟩, ⟨0, .phase⟩, ⟨1, .phase⟩, ⟨2, .phase⟩, ⟨3, .phase⟩, ⟨4, .phase⟩, ⟨5, .phase⟩, ⟨6, .phase⟩, ⟨7, .phase⟩, ⟨8, .phase⟩, ⟨9, .phase⟩, ⟨10, .phase⟩, ⟨11, .phase⟩, ⟨12, .phase⟩, ⟨13, .phase⟩, ⟨14, .phase⟩, ⟨15, .phase⟩], guard := none }) rfl (fun KK hKK => ?_) AllReadyH.nil
            go_simp
            refine hKK.out _ _ hH (fun hH => ?_)
            clear hKK KK
            try simp only [Act.put, List.setIfInBounds_toArray, List.set_cons_zero, List.set_cons_succ]
            refine wpAnyH_done (by kernel_rfl) ?_ _
            refine NoPanic.normal ?_
            have BZ := Lib.hid hH.1
            clear hH hz zl
            obtain ⟨al2, cl2, hlv2, -⟩ := own_ensW R9.out.2.1 (fun x hx => (RGOOD.out.2.2.2.1 x hx).1)
            have HLV := Lib.hid hlv2
            clear hlv2
            go_upto_region 17 with fail
            refine wp_region_noPanic ?_
            refine wp_region_held_drew (S := fun w' => Below y9.heap.size y9 w') (by kernel_rfl) (below_drew' (Below.refl _ _)) (fun hH => ?_)
            have W10 := Lib.hid (W9.out.below (below_drew' (Below.refl y9.heap.size y9)))
            generalize y9.drew = z9 at *
            refine tky (i := 0) (oi := { dst := some 170, op := Op.load 24 (Operand.tmp 24), type := 24, pos := "law.go:74", after := #[], guard := none }) (v := .agg (byteCells RX.id).toArray) rfl (yieldsIf_load_mid (by rfl) 24 _ rfl (qb) 0 rfl (byteCells RX.id) _ (fun wx hS => Ci.range_of (Q9.out.1.below hS Q9.out.1.lt)) Tryd.underlying24 rfl (by rw [infoId, byteCells_length, RGOOD.out.1])) hH ?_
            refine tky (i := 1) (oi := { dst := some 171, op := Op.load 24 (Operand.tmp 27), type := 24, pos := "law.go:74", after := #[], guard := none }) (v := .agg (byteCells RX.id).toArray) rfl (yieldsIf_load_mid (by rfl) 24 _ rfl (qc) 0 rfl (byteCells RX.id) _ (fun wx hS => Ci.range_of (QC9.out.1.below hS QC9.out.1.lt)) Tryd.underlying24 rfl (by rw [infoId, byteCells_length, RGOOD.out.1])) hH ?_
            refine tk (i := 2) (oi := { dst := some 172, op := Op.binOp BinOp.neq 24 (Operand.tmp 170) (Operand.tmp 171) 24, type := 4, pos := "law.go:74", after := #[⟨0, .data⟩, ⟨1, .data⟩], guard := none }) (v := .bool false) rfl (fun wx hS => ?_) hH ?_
            · exact neq_idO _ _ _ _ RX.id (by rfl) rfl rfl RGOOD.out.1 wx
            refine tk (i := 3) (oi := { dst := some 173, op := Op.move (Operand.tmp 172), type := 4, pos := "law.go:74", after := #[⟨2, .data⟩], guard := none }) (v := .bool false) rfl (fun wx hS => ?_) hH ?_
            · go_simp
            refine tk (i := 4) (oi := { dst := some 174, op := Op.move (Operand.tmp 25), type := 4, pos := "law.go:74", after := #[⟨3, .guard⟩], guard := some (3, false) }) (v := .bool RX.yes) rfl (fun wx hS => ?_) hH ?_
            · go_simp
            refine tk (i := 5) (oi := { dst := some 175, op := Op.move (Operand.tmp 28), type := 4, pos := "law.go:74", after := #[⟨3, .guard⟩], guard := some (3, false) }) (v := .bool RX.yes) rfl (fun wx hS => ?_) hH ?_
            · go_simp
            refine tk (i := 6) (oi := { dst := some 176, op := Op.binOp BinOp.neq 4 (Operand.tmp 174) (Operand.tmp 175) 4, type := 4, pos := "law.go:74", after := #[⟨4, .data⟩, ⟨5, .data⟩, ⟨3, .guard⟩], guard := some (3, false) }) (v := .bool false) rfl (fun wx hS => ?_) hH ?_
            · cases RX.yes <;> go_simp
            refine tk (i := 7) (oi := { dst := some 177, op := Op.pick (Operand.tmp 173) (Operand.const (Value.bool true)) (Operand.tmp 176), type := 4, pos := "law.go:74", after := #[⟨3, .data⟩, ⟨6, .data⟩], guard := none }) (v := .bool false) rfl (fun wx hS => ?_) hH ?_
            · go_simp
            refine tk (i := 8) (oi := { dst := some 178, op := Op.move (Operand.tmp 177), type := 4, pos := "law.go:74", after := #[⟨7, .data⟩, ⟨3, .chain⟩], guard := none }) (v := .bool false) rfl (fun wx hS => ?_) hH ?_
            · go_simp
            refine tk (i := 9) (oi := { dst := some 179, op := Op.move (Operand.tmp 26), type := 25, pos := "law.go:74", after := #[⟨8, .guard⟩], guard := some (8, false) }) (v := .int .i64 RX.er) rfl (fun wx hS => ?_) hH ?_
            · go_simp
            refine tk (i := 10) (oi := { dst := some 180, op := Op.move (Operand.tmp 29), type := 25, pos := "law.go:74", after := #[⟨8, .guard⟩], guard := some (8, false) }) (v := .int .i64 RX.er) rfl (fun wx hS => ?_) hH ?_
            · go_simp
            refine tk (i := 11) (oi := { dst := some 181, op := Op.binOp BinOp.neq 25 (Operand.tmp 179) (Operand.tmp 180) 25, type := 4, pos := "law.go:74", after := #[⟨9, .data⟩, ⟨10, .data⟩, ⟨8, .guard⟩], guard := some (8, false) }) (v := .bool false) rfl (fun wx hS => ?_) hH ?_
            · go_simp
            refine tk (i := 12) (oi := { dst := some 182, op := Op.pick (Operand.tmp 178) (Operand.const (Value.bool true)) (Operand.tmp 181), type := 4, pos := "law.go:74", after := #[⟨8, .data⟩, ⟨11, .data⟩], guard := none }) (v := .bool false) rfl (fun wx hS => ?_) hH ?_
            · go_simp
            refine tk (i := 13) (oi := { dst := some 183, op := Op.move (Operand.tmp 182), type := 4, pos := "law.go:74", after := #[⟨12, .data⟩, ⟨8, .chain⟩], guard := none }) (v := .bool false) rfl (fun wx hS => ?_) hH ?_
            · go_simp
            refine tk (i := 14) (oi := { dst := some 184, op := Op.move (Operand.tmp 12), type := 27, pos := "law.go:74", after := #[⟨13, .guard⟩], guard := some (13, false) }) (v := .pointer (some ⟨wb, 0, none⟩)) rfl (fun wx hS => ?_) hH ?_
            · go_simp
            refine tk (i := 16) (oi := { dst := some 186, op := Op.move (Operand.tmp 13), type := 36, pos := "law.go:74", after := #[⟨13, .guard⟩], guard := some (13, false) }) (v := .pointer (some ⟨rp, 0, none⟩)) rfl (fun wx hS => ?_) hH ?_
            · go_simp
            refine tk (i := 17) (oi := { dst := some 187, op := Op.nilCheck (Operand.tmp 186), type := 0, pos := "law.go:74", after := #[⟨16, .data⟩, ⟨13, .guard⟩], guard := some (13, false) }) (v := .pointer (some ⟨rp, 0, none⟩)) rfl (fun wx hS => ?_) hH ?_
            · go_simp
            refine tk (i := 18) (oi := { dst := some 188, op := Op.fieldAddr 52 (Operand.tmp 187) 4, type := 0, pos := "law.go:74", after := #[⟨17, .data⟩, ⟨13, .guard⟩], guard := some (13, false) }) (v := .pointer (some ⟨rp, 99, none⟩)) rfl (fun wx hS => ?_) hH ?_
            · go_simp
            refine tk (i := 19) (oi := { dst := some 189, op := Op.load 41 (Operand.tmp 188), type := 41, pos := "law.go:74", after := #[⟨18, .data⟩, ⟨13, .guard⟩], guard := some (13, false) }) (v := .slice al2 RX.L.length cl2) rfl (fun wx hS => ?_) hH ?_
            · have e1 := HLV.out ▸ ref_at99 (ringN_length n) (R9.out.1.below hS R9.out.1.lt); go_simp
            refine tk (i := 20) (oi := { dst := some 190, op := Op.call { callee := Callee.builtin Builtin.len, args := #[Operand.tmp 189], argTypes := #[41] }, type := 3, pos := "law.go:74", after := #[⟨19, .data⟩, ⟨13, .guard⟩], guard := some (13, false) }) (v := .int .i64 (RX.L.length : Int)) rfl (fun wx hS => ?_) hH ?_
            · go_simp
            refine wpAnyH_ready (rs := [15]) (by kernel_rfl) (by simp) ?_
            refine AllReadyH.cons (o := { dst := some 185, op := Op.call { callee := Callee.value (Operand.func 11), args := #[Operand.tmp 184], argTypes := #[27] }, type := 3, pos := "law.go:74", after := #[⟨14, .data⟩, ⟨13, .chain⟩, ⟨13, .guard⟩], guard := some (13, false) }) rfl (fun KK hKK => ?_) AllReadyH.nil
            have CN := count_any wb (penCells (ringN n) tb) u1 u2 (.map gn) base RX.L.length _ z9 PLN.out W10.out.i W10.out.e
            go_simp
            with_reducible refine CN.mono ?_
            rintro e zz ⟨rfl, rfl⟩
            clear CN
            refine hKK.out _ _ hH (fun hH => ?_)
            clear hKK KK
            try simp only [Act.put, List.setIfInBounds_toArray, List.set_cons_zero, List.set_cons_succ]
            refine tk (i := 21) (oi := { dst := some 191, op := Op.binOp BinOp.neq 3 (Operand.tmp 185) (Operand.tmp 190) 3, type := 4, pos := "law.go:74", after := #[⟨15, .data⟩, ⟨20, .data⟩, ⟨13, .guard⟩], guard := some (13, false) }) (v := .bool false) rfl (fun wx hS => ?_) hH ?_
            · go_simp
            refine tk (i := 22) (oi := { dst := some 192, op := Op.pick (Operand.tmp 183) (Operand.const (Value.bool true)) (Operand.tmp 191), type := 4, pos := "law.go:74", after := #[⟨13, .data⟩, ⟨21, .data⟩], guard := none }) (v := .bool false) rfl (fun wx hS => ?_) hH ?_
            · go_simp
            refine tk (i := 23) (oi := { dst := some 193, op := Op.move (Operand.tmp 192), type := 4, pos := "law.go:74", after := #[⟨22, .data⟩, ⟨15, .chain⟩], guard := none }) (v := .bool false) rfl (fun wx hS => ?_) hH ?_
            · go_simp
            refine tk (i := 24) (oi := { dst := some 194, op := Op.move (Operand.tmp 12), type := 27, pos := "law.go:74", after := #[⟨23, .guard⟩], guard := some (23, false) }) (v := .pointer (some ⟨wb, 0, none⟩)) rfl (fun wx hS => ?_) hH ?_
            · go_simp
            refine tk (i := 26) (oi := { dst := some 196, op := Op.move (Operand.tmp 13), type := 36, pos := "law.go:74", after := #[⟨23, .guard⟩], guard := some (23, false) }) (v := .pointer (some ⟨rp, 0, none⟩)) rfl (fun wx hS => ?_) hH ?_
            · go_simp
            refine tk (i := 27) (oi := { dst := some 197, op := Op.nilCheck (Operand.tmp 196), type := 0, pos := "law.go:74", after := #[⟨26, .data⟩, ⟨23, .guard⟩], guard := some (23, false) }) (v := .pointer (some ⟨rp, 0, none⟩)) rfl (fun wx hS => ?_) hH ?_
            · go_simp
            refine tk (i := 28) (oi := { dst := some 198, op := Op.fieldAddr 52 (Operand.tmp 197) 3, type := 0, pos := "law.go:74", after := #[⟨27, .data⟩, ⟨23, .guard⟩], guard := some (23, false) }) (v := .pointer (some ⟨rp, 98, none⟩)) rfl (fun wx hS => ?_) hH ?_
            · go_simp
            refine tk (i := 29) (oi := { dst := some 199, op := Op.load 9 (Operand.tmp 198), type := 9, pos := "law.go:74", after := #[⟨28, .data⟩, ⟨23, .guard⟩], guard := some (23, false) }) (v := .string (str RX.B)) rfl (fun wx hS => ?_) hH ?_
            · have e1 := ref_at98 (ringN_length n) (R9.out.1.below hS R9.out.1.lt); go_simp
            refine tk (i := 30) (oi := { dst := some 200, op := Op.call { callee := Callee.builtin Builtin.len, args := #[Operand.tmp 199], argTypes := #[9] }, type := 3, pos := "law.go:74", after := #[⟨29, .data⟩, ⟨23, .guard⟩], guard := some (23, false) }) (v := .int .i64 (RX.B.length : Int)) rfl (fun wx hS => ?_) hH ?_
            · have e1 := str_size' RX.B; go_simp
            refine wpAnyH_ready (rs := [25]) (by kernel_rfl) (by simp) ?_
            refine AllReadyH.cons (o := { dst := some 195, op := Op.call { callee := Callee.value (Operand.func 12), args := #[Operand.tmp 194], argTypes := #[27] }, type := 3, pos := "law.go:74", after := #[⟨24, .data⟩, ⟨23, .chain⟩, ⟨23, .guard⟩], guard := some (23, false) }) rfl (fun KK hKK => ?_) AllReadyH.nil
            have CN := size_any wb (penCells (ringN n) tb) u1 u2 (.map gn) base RX.B.length _ z9 PLN.out W10.out.i W10.out.a
            go_simp
            with_reducible refine CN.mono ?_
            rintro e zz ⟨rfl, rfl⟩
            clear CN
            refine hKK.out _ _ hH (fun hH => ?_)
            clear hKK KK
            try simp only [Act.put, List.setIfInBounds_toArray, List.set_cons_zero, List.set_cons_succ]
            refine tk (i := 31) (oi := { dst := some 201, op := Op.binOp BinOp.neq 3 (Operand.tmp 195) (Operand.tmp 200) 3, type := 4, pos := "law.go:74", after := #[⟨25, .data⟩, ⟨30, .data⟩, ⟨23, .guard⟩], guard := some (23, false) }) (v := .bool false) rfl (fun wx hS => ?_) hH ?_
            · go_simp
            refine tk (i := 32) (oi := { dst := some 202, op := Op.pick (Operand.tmp 193) (Operand.const (Value.bool true)) (Operand.tmp 201), type := 4, pos := "law.go:74", after := #[⟨23, .data⟩, ⟨31, .data⟩], guard := none }) (v := .bool false) rfl (fun wx hS => ?_) hH ?_
            · go_simp
            refine wpAnyH_done (by kernel_rfl) ?_ _
            refine NoPanic.normal ?_
            have R10 := Lib.hid (R9.out.below hH)
            have RI10 := Lib.hid (RI9.out.kp (Kp.below (f := fun _ => False) hH) fun _ _ => id)
            have BL10 := Lib.hid (BZ.out.trans (hH.mono BZ.out.size))
            clear hH W9 R9 RI9 Q9 QC9 BZ
            go_wp2_with fail
            obtain ⟨ws, hws⟩ : ∃ q, q = wr.heap.size := ⟨_, rfl⟩
            rw [← hws] at RI10 ILO BWR
            clear hws
            go_loopw [30] (fun iv wr => ∃ (k : Nat) (bs : List UInt8), k ≤ BL.length ∧ iv = .int .i64 (k : Int) ∧ bs.length = BL.length ∧ Hid (rowM wr ws (.slice ia BL.length ic) bs) ∧ Hid (WrAt wr base wb tb fa fc [n] RX.told (penCells (ringN n) tb) RX.B RX.L u1 u2 gn) ∧ Hid (RefAt wr base rp (ringN n) [n] used2 RX.B RX.L lv2) ∧ Hid (Below w.heap.size w wr)) (fun iv _ => BL.length - (intOf iv).toNat)
            case atStart => exact ⟨0, BL, Nat.zero_le _, rfl, rfl, RI10, W10, R10, BL10⟩
            case round =>
              clear W10 R10 RI10 BL10
              obtain ⟨k, bs, hk, rfl, hbs, RIr, Wr, Rr, Br⟩ := hrel
              have k0 : 0 ≤ (k : Int) := by omega
              have hBL := HB1.out
              by_cases hlt : k < BL.length
              · have k1 : (k : Int) < (BL.length : Int) := by omega
                obtain ⟨g, hia⟩ : ∃ g, ia = some ⟨g, 0, none⟩ := by
                  rcases RIr.out.2 with ⟨e, h0⟩ | ⟨g, cap, cur, fz, e, -⟩
                  · omega
                  · injection e with e1 e2 e3; exact ⟨g, e1⟩
                subst hia
                have g1 := (ILO.out g rfl).1
                have g2 := (ILO.out g rfl).2
                have nf : ¬ wF wb tb u1 u2 gn g := fun q => (N5.out g q).elim (INF.out g rfl) fun e => by omega
                have kb : k < bs.length := by omega
                go_wp2_with (refine wpList_store_M rfl _ _ rfl ws g k BL.length ic 90 bs (by first | rfl | (rw [Nat.zero_add]; rfl) | go_simp) rfl RIr.out kb ?_)
                intro wy p1 p2 p3
                have kp := Kp.but (f := fun i => i = g) p2.out (Or.inl rfl)
                have RIy := Lib.hid p1.out
                have Wy := Lib.hid (Wr.out.but p2.out (Nat.le_trans BWR.out g1) nf)
                have Ry : Hid (RefAt wy base rp (ringN n) [n] used2 RX.B RX.L lv2) := Lib.hid ⟨kp.is Rr.out.1 fun e => RIr.out.typ Rr.out.1 (by decide) (congrArg some e.symm), row_kp Rr.out.2.1 kp fun g3 hg e => RIr.out.row Rr.out.2.1 g3 hg (congrArg some e.symm), Rr.out.2.2.1, Nat.le_trans Rr.out.2.2.2 kp.size⟩
                have By := Lib.hid (Below.trans Br.out (kp.low (fun i q => by rw [q]; exact Nat.le_trans LO.out.2.2.2 (Nat.le_trans BWR.out g1)) Br.out.size))
                clear p1 p2 p3 kp RIr Wr Rr Br nf
                go_wp2_with fail
                go_roundw
                case rel => exact ⟨k + 1, bs.set k 90, by omega, by go_num, by rw [List.length_set]; exact hbs, RIy, Wy, Ry, By⟩
                case measure => simp [intOf]; omega
              · have k1 : ¬ (k : Int) < (BL.length : Int) := by omega
                have HSN : Hid (PwS w wr base wb tb rp fa fc n (j + 1) used2 RX.B RX.L u1 u2 gn lv2) := Lib.hid ⟨HT2.out ▸ Wr.out, Rr.out, by have := RGOOD.out.2.2.2.2; have := HT2.out; have := PB.out.1; omega, by have := RGOOD.out.2.1; have := PB.out.2.1; omega, by have := RGOOD.out.2.2.1; have := PB.out.2.2.1; omega, RGOOD.out.2.2.2.1, Br.out⟩
                clear RIr Wr Rr Br
                go_wp2_with fail
                go_roundw
                case rel => exact ⟨j + 1, used2, RX.B, RX.L, u1, u2, gn, lv2, h1, h2, by go_num, HSN⟩
                case measure => simp [intOf]; omega
    · by_cases h1 : j < R.length
      · have q1 : (j : Int) < (R.length : Int) := by omega
        have q2 : ¬ (j : Int) < 12 := by omega
        go_wp2_with fail
        go_ret
        exact ⟨rfl, HS.out.bl⟩
      · have q1 : ¬ (j : Int) < (R.length : Int) := by omega
        go_wp2_with fail
        go_ret
        exact ⟨rfl, HS.out.bl⟩
end Go.Proofs.YtfhlcondnaahiaaDoor
