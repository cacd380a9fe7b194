/- hypogeumlaw12.made. -/
import Derived.Test.YtfhlcondnaahiaaDoorPv
namespace Go.Proofs.YtfhlcondnaahiaaDoor
open Go.RowKit Sha

theorem grown_nil {w w' : World} {v : Value} (hv : Value.slice none 0 0 = v) (h : w.grownBy w' v.ownBlock) : Below w.heap.size w w' := by
  subst hv
  exact ⟨h.os, h.tape, h.output, h.size, fun k hk => h.block k hk fun e => by cases e⟩
theorem kz_wrap (z : Int) : IntKind.i64.wrap ((IntKind.u64.wrap z).tmod 2) = (kz z : Int) := by
  have h := (kz_eq z).1
  have e := IntWalk.i64_left ((IntKind.u64.wrap z).tmod 2)
  exact e.trans h
theorem kz_sum (z : Int) : IntKind.i64.wrap (1 + (kz z : Int)) = V (kd8 z) := by
  have := (kz_eq z).2
  rw [(kd8_eq z).1, IntWalk.i64_in _ (by omega)]
theorem WrAt.lmpF {X : World} {base wb tb : Nat} {fa : Option Addr} {fc : Nat} {F : List UInt8} {told : Nat} {PC : List Value} {B : List UInt8} {L : List En} {v1 v2 : Value} {gm : Option Nat} (h : WrAt X base wb tb fa fc F told PC B L v1 v2 gm) {r : Nat} {cs : List Value} (hr : blockIs X r cs 40) : ¬ wF wb tb v1 v2 gm r := by
  rintro (q | q | q | q | q)
  · exact blk_ne hr h.i (by decide) q
  · exact blk_ne hr h.t.is (by decide) q
  · exact row_type h.a hr (by decide) q
  · exact row_type h.e hr (by decide) q
  · rcases h.s with ⟨e, -⟩ | ⟨g, e, hb, hs⟩
    · rw [e] at q; cases q
    · rw [e] at q; cases q; exact hs.ne_cells hr rfl
theorem grown_low {w X Y : World} {base : Nat} (hbb : w.heap.size ≤ base) {v : Value} {n : Nat} {xs : List Value} (hb : Below w.heap.size w X) (h : X.ownsRow base 40 2 v n xs) (hg : X.grownBy Y v.ownBlock) : Below w.heap.size w Y :=
  hb.trans ⟨hg.os, hg.tape, hg.output, hg.size, fun k hk => hg.block k (Nat.lt_of_lt_of_le hk hb.size) fun e => by
    have e : v.ownBlock = some k := by first | exact e | exact e.symm
    have := (h.lt k e).1
    omega⟩
theorem WrAt.grownL {X Y : World} {base wb tb : Nat} {fa : Option Addr} {fc : Nat} {F : List UInt8} {told : Nat} {PC : List Value} {B : List UInt8} {L : List En} {v1 v2 : Value} {gm : Option Nat} (h : WrAt X base wb tb fa fc F told PC B L v1 v2 gm) {v : Value} {n : Nat} {xs : List Value} (hr : X.ownsRow base 40 2 v n xs) (hg : X.grownBy Y v.ownBlock) : WrAt Y base wb tb fa fc F told PC B L v1 v2 gm := by
  have kk : Kp (fun i => v.ownBlock = some i) X Y := Kp.grown hg fun _ q => Or.inl q
  refine ⟨kk.is h.i fun q => row_type hr h.i (by decide) q, ⟨kk.is h.t.is fun q => row_type hr h.t.is (by decide) q, ?_, h.t.apart, h.t.len, h.t.cap, h.t.most⟩, row_kp h.a kk fun i hi q => row_row hr h.a (by decide) i hi q, row_kp h.e kk fun i hi q => row_row hr h.e (by decide) i hi q, ?_, h.f, h.w, h.tl, h.g, Nat.le_trans h.b kk.size⟩
  · rcases h.t.row with e | ⟨b, o, e, hc⟩
    · exact Or.inl e
    · refine Or.inr ⟨b, o, e, fun j hj => kk.cell (hc j hj) fun q => ?_⟩
      have f1 : b < base := (h.f _ e).1
      have := (hr.lt b q).1
      omega
  · rcases h.s with h1 | ⟨g, h1, h2, h3⟩
    · exact Or.inl h1
    · exact Or.inr ⟨g, h1, h2, set_kp h3 kk fun q => row_map hr h3 q⟩
theorem closeB_len (n : UInt8) (s : Ms) (k : Nat) (h : s.Good k) (hk : k ≤ 20) : (closeB (kN n 1) (kN n 2) [n] s.told s.B s.L).length ≤ 100000 := by
  unfold closeB
  have h1 := wseal_length (kN n 1) (kN n 2) 104 [104, 101, 97, 100] (tbytes [n] s.told 16) (headB s.L) (tbytes_16 _ _)
  have h2 : (headB s.L).length ≤ 7 + 37 * s.L.length := headP_len s.L (fun x hx => (h.fine x hx).1) (by have := h.len; omega) s.L.length
  have h3 := h.len
  have h4 := h.b
  rw [List.length_append, List.length_append, h1]
  show _ + (_ + 4) ≤ _
  omega
theorem WrAt.fresh {X : World} {base wb tb : Nat} {fa : Option Addr} {fc : Nat} {F : List UInt8} {told : Nat} {PC : List Value} {B : List UInt8} {L : List En} {v1 v2 : Value} {gm : Option Nat} (h : WrAt X base wb tb fa fc F told PC B L v1 v2 gm) (k : Nat) (hk : X.heap.size ≤ k) : ¬ wF wb tb v1 v2 gm k := by
  have hb := h.b
  have hw := h.w
  have ht := h.tl
  rintro (q | q | q | q | q)
  · omega
  · omega
  · have := (h.a.lt k q).2; omega
  · have := (h.e.lt k q).2; omega
  · rcases h.s with ⟨e, -⟩ | ⟨g, e, hb, hs⟩
    · rw [e] at q; cases q
    · rw [e] at q; cases q; have := hs.lt; omega
def LoW (w : World) (lb : Nat) (Dl : List Lo) (D : List (Int × List UInt8)) : Prop := ∀ i (h : i < Dl.length) (h' : i < D.length), Pt.ok0 w ⟨Dl[i].a, Dl[i].c, D[i].2⟩ ∨ (Dl[i].a = some ⟨lb, 0, none⟩ ∧ Dl[i].c = 5 ∧ D[i].2 = firstL)
theorem LoW.more {w : World} {lb : Nat} {Dl : List Lo} {D : List (Int × List UInt8)} (h : LoW w lb Dl D) (he : Dl.length = D.length) (d : Lo) (x : Int × List UInt8) (hx : Pt.ok0 w ⟨d.a, d.c, x.2⟩) : LoW w lb (Dl ++ [d]) (D ++ [x]) := fun i h1 h2 => by
  by_cases hlt : i < Dl.length
  · simp only [List.getElem_append_left hlt, List.getElem_append_left (show i < D.length by omega)]
    exact h i hlt (by omega)
  · have e : i = Dl.length := by simp at h1; omega
    subst e
    refine Or.inl ?_
    simp [he]
    exact hx
def litC : Obj := .cells #[.int .u8 102, .int .u8 105, .int .u8 114, .int .u8 115, .int .u8 116] 5 (5, 6)
theorem litc_in {w : World} {lb : Nat} (h : w.heap[lb]? = some litC) : bytesIn w (some ⟨lb, 0, none⟩) firstL := salt_in _ _ firstL (5, 6) h
theorem LoW.at {w w' : World} {lb : Nat} {Dl : List Lo} {D : List (Int × List UInt8)} (h : LoW w lb Dl D) (hb : Below w.heap.size w w') (hl : w'.heap[lb]? = some litC) : ∀ i (h : i < Dl.length) (h' : i < D.length), Pt.ok0 w' ⟨Dl[i].a, Dl[i].c, D[i].2⟩ := fun i h1 h2 => by
  rcases h i h1 h2 with q | ⟨e1, e2, e3⟩
  · exact q.below hb
  · rw [e1, e2, e3]
    exact ⟨⟨Nat.le_refl _, (show (5 : Nat) ≤ 9223372036854775807 by decide), litc_in hl⟩, fun h => by cases h⟩
def MadeIs (n : UInt8) (R : List Lmp) (w : World) (e : Ending) (w' : World) : Prop :=
  ∃ bv lv hv Dl S P, S = madeS n R (min R.length 10) ∧ P = closeB (kN n 1) (kN n 2) [n] S.told S.B S.L ∧ e = .returned (.tuple #[bv, lv, hv, .bool true]) ∧ Ci.ownB w' w.heap.size bv P ∧ w'.ownsRow w.heap.size 66 35 lv S.L.length (enCells S.L) ∧
    w'.ownsRow w.heap.size 40 2 hv Dl.length (loCells Dl) ∧ Dl.map (fun d => (d.kind, d.n)) = S.D.map (fun d => (d.1, d.2.length)) ∧ (∀ i (h : i < Dl.length) (h' : i < S.D.length), Pt.ok0 w' ⟨Dl[i].a, Dl[i].c, S.D[i].2⟩) ∧ Below w.heap.size w w'
set_option maxRecDepth 100000 in
set_option maxHeartbeats 8000000 in
theorem made_any (n : UInt8) (a : Option Addr) (c : Nat) (R : List Lmp) (w : World) (hR : lumpsIn w a R) (ht : tables w) :
    Calls Tryd.prog 18 #[.int .u8 (V n), .slice a R.length c] w (MadeIs n R w) := by
  have HR := Lib.hid hR
  have T0 := Lib.hid ht
  have WA := writers_any n w ht
  have fl := first_lit
  have hz := zeroId
  clear hR ht
  go_enter Tryd.func18, Tryd.ntmps18
  go_wp2_with (with_reducible refine WA.mono ?_; rintro e w1 ⟨wb, tb, fa, fc, rp, rfl, hW, l1, l2, l3, l4, -, kb⟩)
  obtain ⟨base, hbase⟩ : ∃ base, base = w1.heap.size := ⟨_, rfl⟩
  rw [← hbase] at hW
  have WB := Lib.hid l1
  have TB := Lib.hid l2
  have BB : Hid (w.heap.size ≤ base) := Lib.hid (hbase ▸ kb.size)
  have T1 := T0.out.below kb T0.out.2.2.1 T0.out.2.2.2
  have A1 := alloc_below w1 (.cells #[.int .u8 102, .int .u8 105, .int .u8 114, .int .u8 115, .int .u8 116] 5 (5, 6))
  have A2 := alloc_below (w1.alloc (.cells #[.int .u8 102, .int .u8 105, .int .u8 114, .int .u8 115, .int .u8 116] 5 (5, 6))) (.cells #[.slice (some ⟨w1.heap.size, 0, none⟩) 5 5] 30 (0, 0))
  have HT : w1.heap.size ≠ tb := Nat.ne_of_gt (Nat.lt_of_lt_of_le hW.tl hW.b)
  have HT2 : w1.heap.size + 1 ≠ tb := by have := Nat.lt_of_lt_of_le hW.tl hW.b; omega
  have AM := add_ms n base wb tb fa fc ms0 0 ms0_good (by omega) _ _ _ 2 firstL (Or.inr rfl) (by decide) (w1.heap.size + 1) ((w1.alloc (.cells #[.int .u8 102, .int .u8 105, .int .u8 114, .int .u8 115, .int .u8 116] 5 (5, 6))).alloc (.cells #[.slice (some ⟨w1.heap.size, 0, none⟩) 5 5] 30 (0, 0)))
    ((hW.below A1).below A2) ((T1.below A1 T1.2.2.1 T1.2.2.2).below A2 (T1.below A1 T1.2.2.1 T1.2.2.2).2.2.1 (T1.below A1 T1.2.2.1 T1.2.2.2).2.2.2)
    (fun Y k => parts_one_but (g := w1.heap.size + 1) (q := w1.heap.size) (n := 5) (c := 5) (l := firstL) (by have := blockIs.last (w1.alloc (.cells #[.int .u8 102, .int .u8 105, .int .u8 114, .int .u8 115, .int .u8 116] 5 (5, 6))) [.slice (some ⟨w1.heap.size, 0, none⟩) 5 5] 30 (w1.heap.size + 1) (by simp); exact this.cell 0) rfl ⟨Nat.le_refl _, by decide⟩ ((firstB w1).below A2) HT2 HT Y k)
  rw [show V 2 = 2 from rfl] at AM
  have KB1 := Lib.hid (kb.trans ((A1.trans (A2.mono A1.size)).mono kb.size))
  have HF1 : Hid (∀ i, wF wb tb (.slice none 0 0) (.slice none 0 0) none i → w.heap.size ≤ i) := Lib.hid (fun i hi => by
    rcases hi with q | q | q | q | q
    · omega
    · omega
    · cases q
    · cases q
    · cases q)
  clear WA l3 l4 T1 A1 A2 HT HT2 hW hbase
  go_wp2_with (with_reducible refine AM.mono ?_; rintro e w2 ⟨ID, yes, u1, u2, gn, -, -, rfl, hW2, hK2, hN2⟩; refine Hid.out ?_)
  refine Lib.hid ?_
  generalize hv0 : Value.slice none 0 0 = v0
  replace hv0 := Lib.hid hv0
  have KB2 : Hid (Below w.heap.size w w2) := Lib.hid (Kp.lowF HF1.out KB1.out hK2)
  have HF2 : Hid (∀ i, wF wb tb u1 u2 gn i → w.heap.size ≤ i) := Lib.hid (fun i hi => (hN2 i hi).elim (HF1.out i) fun q => Nat.le_trans KB1.out.size q)
  have W2 := Lib.hid hW2
  clear AM KB1 HF1 hW2 hK2 hN2 kb l1 l2
  have OV0 : ∀ X : World, X.ownsRow base 40 2 v0 ([] : List Lo).length (loCells []) := fun X => hv0.out ▸ World.ownsRow_nil _ _ _ _
  have HSZ3 : base ≤ ((w2.alloc (.cells #[.int .u8 102, .int .u8 105, .int .u8 114, .int .u8 115, .int .u8 116] 5 (5, 6))).alloc (.cells #[.int .i64 2, .slice (some ⟨w2.heap.size, 0, none⟩) 5 5] 40 (0, 0))).heap.size := by
    have e1 := W2.out.b
    have e2 := (alloc_below w2 (.cells #[.int .u8 102, .int .u8 105, .int .u8 114, .int .u8 115, .int .u8 116] 5 (5, 6))).size
    have e3 := (alloc_below (w2.alloc (.cells #[.int .u8 102, .int .u8 105, .int .u8 114, .int .u8 115, .int .u8 116] 5 (5, 6))) (.cells #[.int .i64 2, .slice (some ⟨w2.heap.size, 0, none⟩) 5 5] 40 (0, 0))).size
    omega
  have BL3 : blockIs ((w2.alloc (.cells #[.int .u8 102, .int .u8 105, .int .u8 114, .int .u8 115, .int .u8 116] 5 (5, 6))).alloc (.cells #[.int .i64 2, .slice (some ⟨w2.heap.size, 0, none⟩) 5 5] 40 (0, 0))) (w2.heap.size + 1) (Lo.cells ⟨2, some ⟨w2.heap.size, 0, none⟩, 5, 5⟩) 40 := blockIs.last (w2.alloc (.cells #[.int .u8 102, .int .u8 105, .int .u8 114, .int .u8 115, .int .u8 116] 5 (5, 6))) [.int .i64 2, .slice (some ⟨w2.heap.size, 0, none⟩) 5 5] 40 (w2.heap.size + 1) (by simp)
  go_wp2_with (refine append_lo rfl _ _ rfl base v0 [] ⟨2, some ⟨w2.heap.size, 0, none⟩, 5, 5⟩ rfl (OV0 _) (w2.heap.size + 1) 1 rfl BL3 (by simp) HSZ3 ?_)
  intro hv w3 R1 R2
  have AA := (alloc_below w2 (.cells #[.int .u8 102, .int .u8 105, .int .u8 114, .int .u8 115, .int .u8 116] 5 (5, 6))).trans ((alloc_below (w2.alloc (.cells #[.int .u8 102, .int .u8 105, .int .u8 114, .int .u8 115, .int .u8 116] 5 (5, 6))) (.cells #[.int .i64 2, .slice (some ⟨w2.heap.size, 0, none⟩) 5 5] 40 (0, 0))).mono (by first | (simp; done) | (simp; omega)))
  have BG := grown_nil hv0.out R2.out
  have A23 := AA.trans (BG.mono AA.size)
  have W3 := Lib.hid (W2.out.below A23)
  have KB3 := Lib.hid (KB2.out.trans (A23.mono KB2.out.size))
  have R3 := Lib.hid R1.out
  have HL3 : Hid (w3.heap[w2.heap.size]? = some litC) := Lib.hid (by
    have e1 := heap_alloc_new w2 (.cells #[.int .u8 102, .int .u8 105, .int .u8 114, .int .u8 115, .int .u8 116] 5 (5, 6))
    have k1 := (alloc_below (w2.alloc (.cells #[.int .u8 102, .int .u8 105, .int .u8 114, .int .u8 115, .int .u8 116] 5 (5, 6))) (.cells #[.int .i64 2, .slice (some ⟨w2.heap.size, 0, none⟩) 5 5] 40 (0, 0)))
    have l1 : w2.heap.size < (w2.alloc (.cells #[.int .u8 102, .int .u8 105, .int .u8 114, .int .u8 115, .int .u8 116] 5 (5, 6))).heap.size := by first | (simp; done) | (simp; omega)
    rw [(k1.trans (BG.mono k1.size)).block _ l1]
    exact e1)
  have NF3 : Hid (¬ wF wb tb u1 u2 gn w2.heap.size) := Lib.hid (W2.out.fresh _ (Nat.le_refl _))
  clear R1 R2 AA BG A23 W2 KB2 OV0 HSZ3 BL3 hv0
  obtain ⟨lb, hlb⟩ : ∃ lb, lb = w2.heap.size := ⟨_, rfl⟩
  rw [← hlb] at HL3 NF3
  have HLB := Lib.hid hlb
  clear hlb
  go_wp2_with fail
  go_loopw [11, 10] (fun i hv wr => ∃ (j : Nat) (Dl : List Lo) (v1 v2 : Value) (gm : Option Nat), j ≤ R.length ∧ j ≤ 10 ∧ i = .int .i64 j ∧ Hid (WrAt wr base wb tb fa fc [n] (madeS n R j).told (penCells (ringN n) tb) (madeS n R j).B (madeS n R j).L v1 v2 gm) ∧ Hid (∀ i, wF wb tb v1 v2 gm i → w.heap.size ≤ i) ∧
    Hid (wr.ownsRow base 40 2 hv Dl.length (loCells Dl)) ∧ Hid (Dl.map (fun d => (d.kind, d.n)) = (madeS n R j).D.map (fun d => (d.1, d.2.length))) ∧ Hid (LoW w lb Dl (madeS n R j).D) ∧ Hid (wr.heap[lb]? = some litC) ∧ Hid (¬ wF wb tb v1 v2 gm lb) ∧ Hid (Below w.heap.size w wr)) (fun i _ _ => R.length - (intOf i).toNat)
  case atStart =>
    refine ⟨0, [⟨2, some ⟨w2.heap.size, 0, none⟩, 5, 5⟩], u1, u2, gn, Nat.zero_le _, Nat.zero_le _, rfl, W3, HF2, R3, Lib.hid ?_, Lib.hid ?_, HL3, NF3, KB3⟩
    · have := msStep_D n ms0 2 firstL
      rw [if_pos (first_new n)] at this
      show _ = List.map _ (msStep n ms0 2 firstL).D
      rw [this]
      rfl
    · intro i h1 h2
      have e0 : i = 0 := by simp at h1; omega
      subst e0
      refine Or.inr ⟨congrArg (fun q => some (⟨q, 0, none⟩ : Addr)) HLB.out.symm, rfl, ?_⟩
      have e : (madeS n R 0).D = [(V 2, firstL)] := by
        have := msStep_D n ms0 2 firstL
        rw [if_pos (first_new n)] at this
        exact this
      simp only [e]
      rfl
  case round =>
    clear W3 HF2 R3 KB3 HL3 NF3 HLB
    obtain ⟨j, Dl, v1, v2, gm, hj, hj2, rfl, HW, HF, HD, HDD, HLW, HLL, HNF, HB⟩ := hrel
    have p0 : 0 ≤ (j : Int) := by omega
    by_cases hlt : j < R.length ∧ j < 10
    · obtain ⟨h1, h2⟩ := hlt
      have q0 : (j : Int) < (R.length : Int) := by omega
      have q1 : (j : Int) < 10 := by omega
      obtain ⟨b, o, rfl, c0, c1, hp⟩ := (HR.out.below HB.out) j h1
      obtain ⟨-, -, -, -, -, hp0⟩ := HR.out j h1
      have ST := Lib.hid (madeS_step n R j h1)
      have GD := Lib.hid (madeS_good n R j hj)
      generalize R[j] = r at *
      obtain ⟨kind, ra, rc, rl⟩ := r
      dsimp only at c0 c1 hp hp0 ST
      obtain ⟨m, hm⟩ : ∃ m, m = min rl.length 150 := ⟨_, rfl⟩
      have HMN : Hid (min (rl.length : Int) 150 = (m : Int)) := Lib.hid (by omega)
      obtain ⟨sa, sc, hsl, hso⟩ := cut_to ra rc rl 150 m hm hp.1.1
      have hb1 : (rl.take 150).length ≤ 150 := by rw [List.length_take]; omega
      have SL := Lib.hid hsl
      have HB1 := Lib.hid hb1
      have OB := Lib.hid (hso w hp0)
      have CX0 := Lib.hid (fun X (hX : Below wr.heap.size wr X) => (hX.cell (block_lt_of_cell c0)).trans c0)
      have CX1 := Lib.hid (fun X (hX : Below wr.heap.size wr X) => (hX.cell (block_lt_of_cell c1)).trans c1)
      have KW : Hid (IntKind.i64.wrap ((IntKind.u64.wrap kind).tmod 2) = (kz kind : Int)) := Lib.hid (kz_wrap kind)
      have KS : Hid (IntKind.i64.wrap (1 + (kz kind : Int)) = V (kd8 kind)) := Lib.hid (kz_sum kind)
      have KD := Lib.hid (kd8_eq kind).2
      clear hsl hso hm hp hp0 c0 c1 hb1
      generalize rl.take 150 = BL at *
      generalize kd8 kind = k8 at *
      have T1 := Lib.hid (T0.out.below HB.out T0.out.2.2.1 T0.out.2.2.2)
      go_upto_region 8 with fail
      refine wp_region_noPanic ?_
      refine wp_region_held_drew (S := fun X => Below wr.heap.size wr X) (by kernel_rfl) (below_drew' (Below.refl _ _)) (fun hH => ?_)
      generalize wr.drew = z0 at *
      refine wpAnyH_take (i := 0) (oi := { dst := some 46, op := Op.move (Operand.tmp 1), type := 22, pos := "law.go:91", after := #[], guard := none }) (v := .slice (some ⟨b, o, none⟩) R.length c) rfl (by kernel_rfl) (by kernel_rfl) (by kernel_rfl) (fun _ _ _ h => h) (Or.inl ⟨by rfl, fun wx hS => ?_⟩) hH ?_
      · go_simp
      simp only [Act.put, List.setIfInBounds_toArray, List.set_cons_zero, List.set_cons_succ]
      refine wpAnyH_take (i := 9) (oi := { dst := some 55, op := Op.move (Operand.tmp 1), type := 22, pos := "law.go:91", after := #[], guard := none }) (v := .slice (some ⟨b, o, none⟩) R.length c) rfl (by kernel_rfl) (by kernel_rfl) (by kernel_rfl) (fun _ _ _ h => h) (Or.inl ⟨by rfl, fun wx hS => ?_⟩) hH ?_
      · go_simp
      simp only [Act.put, List.setIfInBounds_toArray, List.set_cons_zero, List.set_cons_succ]
      refine wpAnyH_take (i := 14) (oi := { dst := some 60, op := Op.move (Operand.tmp 1), type := 22, pos := "law.go:91", after := #[], guard := none }) (v := .slice (some ⟨b, o, none⟩) R.length c) rfl (by kernel_rfl) (by kernel_rfl) (by kernel_rfl) (fun _ _ _ h => h) (Or.inl ⟨by rfl, fun wx hS => ?_⟩) hH ?_
      · go_simp
      simp only [Act.put, List.setIfInBounds_toArray, List.set_cons_zero, List.set_cons_succ]
      refine wpAnyH_take (i := 1) (oi := { dst := some 47, op := Op.move (Operand.tmp 11), type := 3, pos := "law.go:91", after := #[], guard := none }) (v := .int .i64 (j : Int)) rfl (by kernel_rfl) (by kernel_rfl) (by kernel_rfl) (fun _ _ _ h => h) (Or.inl ⟨by rfl, fun wx hS => ?_⟩) hH ?_
      · go_simp
      simp only [Act.put, List.setIfInBounds_toArray, List.set_cons_zero, List.set_cons_succ]
      refine wpAnyH_take (i := 10) (oi := { dst := some 56, op := Op.move (Operand.tmp 11), type := 3, pos := "law.go:91", after := #[], guard := none }) (v := .int .i64 (j : Int)) rfl (by kernel_rfl) (by kernel_rfl) (by kernel_rfl) (fun _ _ _ h => h) (Or.inl ⟨by rfl, fun wx hS => ?_⟩) hH ?_
      · go_simp
      simp only [Act.put, List.setIfInBounds_toArray, List.set_cons_zero, List.set_cons_succ]
      refine wpAnyH_take (i := 15) (oi := { dst := some 61, op := Op.move (Operand.tmp 11), type := 3, pos := "law.go:91", after := #[], guard := none }) (v := .int .i64 (j : Int)) rfl (by kernel_rfl) (by kernel_rfl) (by kernel_rfl) (fun _ _ _ h => h) (Or.inl ⟨by rfl, fun wx hS => ?_⟩) hH ?_
      · go_simp
      simp only [Act.put, List.setIfInBounds_toArray, List.set_cons_zero, List.set_cons_succ]
      refine wpAnyH_take (i := 2) (oi := { dst := some 48, op := Op.indexAddr 22 (Operand.tmp 46) (Operand.tmp 47), type := 0, pos := "law.go:91", after := #[⟨0, .data⟩, ⟨1, .data⟩], guard := none }) (v := .pointer (some ⟨b, o + j * 2, none⟩)) rfl (by kernel_rfl) (by kernel_rfl) (by kernel_rfl) (fun _ _ _ h => h) (Or.inl ⟨by rfl, fun wx hS => ?_⟩) hH ?_
      · go_simp
      simp only [Act.put, List.setIfInBounds_toArray, List.set_cons_zero, List.set_cons_succ]
      refine wpAnyH_take (i := 11) (oi := { dst := some 57, op := Op.indexAddr 22 (Operand.tmp 55) (Operand.tmp 56), type := 0, pos := "law.go:91", after := #[⟨9, .data⟩, ⟨10, .data⟩], guard := none }) (v := .pointer (some ⟨b, o + j * 2, none⟩)) rfl (by kernel_rfl) (by kernel_rfl) (by kernel_rfl) (fun _ _ _ h => h) (Or.inl ⟨by rfl, fun wx hS => ?_⟩) hH ?_
      · go_simp
      simp only [Act.put, List.setIfInBounds_toArray, List.set_cons_zero, List.set_cons_succ]
      refine wpAnyH_take (i := 16) (oi := { dst := some 62, op := Op.indexAddr 22 (Operand.tmp 60) (Operand.tmp 61), type := 0, pos := "law.go:91", after := #[⟨14, .data⟩, ⟨15, .data⟩], guard := none }) (v := .pointer (some ⟨b, o + j * 2, none⟩)) rfl (by kernel_rfl) (by kernel_rfl) (by kernel_rfl) (fun _ _ _ h => h) (Or.inl ⟨by rfl, fun wx hS => ?_⟩) hH ?_
      · go_simp
      simp only [Act.put, List.setIfInBounds_toArray, List.set_cons_zero, List.set_cons_succ]
      refine wpAnyH_take (i := 3) (oi := { dst := some 49, op := Op.fieldAddr 40 (Operand.tmp 48) 0, type := 0, pos := "law.go:91", after := #[⟨2, .data⟩], guard := none }) (v := .pointer (some ⟨b, o + j * 2, none⟩)) rfl (by kernel_rfl) (by kernel_rfl) (by kernel_rfl) (fun _ _ _ h => h) (Or.inl ⟨by rfl, fun wx hS => ?_⟩) hH ?_
      · go_simp
      simp only [Act.put, List.setIfInBounds_toArray, List.set_cons_zero, List.set_cons_succ]
      refine wpAnyH_take (i := 4) (oi := { dst := some 50, op := Op.load 3 (Operand.tmp 49), type := 3, pos := "law.go:91", after := #[⟨3, .data⟩], guard := none }) (v := .int .i64 kind) rfl (by kernel_rfl) (by kernel_rfl) (by kernel_rfl) (fun _ _ _ h => h) (Or.inl ⟨by rfl, fun wx hS => ?_⟩) hH ?_
      · have e1 := CX0.out wx hS; go_simp
      simp only [Act.put, List.setIfInBounds_toArray, List.set_cons_zero, List.set_cons_succ]
      refine wpAnyH_take (i := 5) (oi := { dst := some 51, op := Op.convert 3 68 (Operand.tmp 50), type := 68, pos := "law.go:91", after := #[⟨4, .data⟩], guard := none }) (v := .int .u64 (IntKind.u64.wrap kind)) rfl (by kernel_rfl) (by kernel_rfl) (by kernel_rfl) (fun _ _ _ h => h) (Or.inl ⟨by rfl, fun wx hS => ?_⟩) hH ?_
      · go_simp
      simp only [Act.put, List.setIfInBounds_toArray, List.set_cons_zero, List.set_cons_succ]
      refine wpAnyH_take (i := 6) (oi := { dst := some 52, op := Op.binOp BinOp.rem 68 (Operand.tmp 51) (Operand.const (Value.int IntKind.u64 2)) 68, type := 68, pos := "law.go:91", after := #[⟨5, .data⟩], guard := none }) (v := .int .u64 ((IntKind.u64.wrap kind).tmod 2)) rfl (by kernel_rfl) (by kernel_rfl) (by kernel_rfl) (fun _ _ _ h => h) (Or.inl ⟨by rfl, fun wx hS => ?_⟩) hH ?_
      · go_simp
      simp only [Act.put, List.setIfInBounds_toArray, List.set_cons_zero, List.set_cons_succ]
      refine wpAnyH_take (i := 7) (oi := { dst := some 53, op := Op.convert 68 3 (Operand.tmp 52), type := 3, pos := "law.go:91", after := #[⟨6, .data⟩], guard := none }) (v := .int .i64 (kz kind : Int)) rfl (by kernel_rfl) (by kernel_rfl) (by kernel_rfl) (fun _ _ _ h => h) (Or.inl ⟨by rfl, fun wx hS => ?_⟩) hH ?_
      · have e1 := KW.out; go_simp
      simp only [Act.put, List.setIfInBounds_toArray, List.set_cons_zero, List.set_cons_succ]
      refine wpAnyH_take (i := 8) (oi := { dst := some 54, op := Op.binOp BinOp.add 3 (Operand.const (Value.int IntKind.i64 1)) (Operand.tmp 53) 3, type := 3, pos := "law.go:91", after := #[⟨7, .data⟩], guard := none }) (v := .int .i64 (V k8)) rfl (by kernel_rfl) (by kernel_rfl) (by kernel_rfl) (fun _ _ _ h => h) (Or.inl ⟨by rfl, fun wx hS => ?_⟩) hH ?_
      · have e3 := KS.out; go_simp
      simp only [Act.put, List.setIfInBounds_toArray, List.set_cons_zero, List.set_cons_succ]
      refine wpAnyH_take (i := 12) (oi := { dst := some 58, op := Op.fieldAddr 40 (Operand.tmp 57) 1, type := 0, pos := "law.go:91", after := #[⟨11, .data⟩], guard := none }) (v := .pointer (some ⟨b, o + j * 2 + 1, none⟩)) rfl (by kernel_rfl) (by kernel_rfl) (by kernel_rfl) (fun _ _ _ h => h) (Or.inl ⟨by rfl, fun wx hS => ?_⟩) hH ?_
      · go_simp
      simp only [Act.put, List.setIfInBounds_toArray, List.set_cons_zero, List.set_cons_succ]
      refine wpAnyH_take (i := 13) (oi := { dst := some 59, op := Op.load 30 (Operand.tmp 58), type := 30, pos := "law.go:91", after := #[⟨12, .data⟩], guard := none }) (v := .slice ra rl.length rc) rfl (by kernel_rfl) (by kernel_rfl) (by kernel_rfl) (fun _ _ _ h => h) (Or.inl ⟨by rfl, fun wx hS => ?_⟩) hH ?_
      · have e1 := CX1.out wx hS; go_simp
      simp only [Act.put, List.setIfInBounds_toArray, List.set_cons_zero, List.set_cons_succ]
      refine wpAnyH_take (i := 17) (oi := { dst := some 63, op := Op.fieldAddr 40 (Operand.tmp 62) 1, type := 0, pos := "law.go:91", after := #[⟨16, .data⟩], guard := none }) (v := .pointer (some ⟨b, o + j * 2 + 1, none⟩)) rfl (by kernel_rfl) (by kernel_rfl) (by kernel_rfl) (fun _ _ _ h => h) (Or.inl ⟨by rfl, fun wx hS => ?_⟩) hH ?_
      · go_simp
      simp only [Act.put, List.setIfInBounds_toArray, List.set_cons_zero, List.set_cons_succ]
      refine wpAnyH_take (i := 18) (oi := { dst := some 64, op := Op.load 30 (Operand.tmp 63), type := 30, pos := "law.go:91", after := #[⟨17, .data⟩], guard := none }) (v := .slice ra rl.length rc) rfl (by kernel_rfl) (by kernel_rfl) (by kernel_rfl) (fun _ _ _ h => h) (Or.inl ⟨by rfl, fun wx hS => ?_⟩) hH ?_
      · have e1 := CX1.out wx hS; go_simp
      simp only [Act.put, List.setIfInBounds_toArray, List.set_cons_zero, List.set_cons_succ]
      refine wpAnyH_take (i := 19) (oi := { dst := some 65, op := Op.call { callee := Callee.builtin Builtin.len, args := #[Operand.tmp 64], argTypes := #[30] }, type := 3, pos := "law.go:91", after := #[⟨18, .data⟩], guard := none }) (v := .int .i64 (rl.length : Int)) rfl (by kernel_rfl) (by kernel_rfl) (by kernel_rfl) (fun _ _ _ h => h) (Or.inl ⟨by rfl, fun wx hS => ?_⟩) hH ?_
      · go_simp
      simp only [Act.put, List.setIfInBounds_toArray, List.set_cons_zero, List.set_cons_succ]
      refine wpAnyH_take (i := 20) (oi := { dst := some 66, op := Op.call { callee := Callee.builtin Builtin.min, args := #[Operand.tmp 65, Operand.const (Value.int IntKind.i64 150)], argTypes := #[3, 3] }, type := 3, pos := "law.go:91", after := #[⟨19, .data⟩], guard := none }) (v := .int .i64 (m : Int)) rfl (by kernel_rfl) (by kernel_rfl) (by kernel_rfl) (fun _ _ _ h => h) (Or.inl ⟨by rfl, fun wx hS => ?_⟩) hH ?_
      · have e1 := HMN.out; go_simp
      simp only [Act.put, List.setIfInBounds_toArray, List.set_cons_zero, List.set_cons_succ]
      refine wpAnyH_take (i := 21) (oi := { dst := some 67, op := Op.slice 30 (Operand.tmp 59) none (some (Operand.tmp 66)) none, type := 30, pos := "law.go:91", after := #[⟨13, .data⟩, ⟨20, .data⟩], guard := none }) (v := .slice sa BL.length sc) rfl (by kernel_rfl) (by kernel_rfl) (by kernel_rfl) (fun _ _ _ h => h) (Or.inl ⟨by rfl, fun wx hS => ?_⟩) hH ?_
      · have e1 := SL.out wx; go_simp
      simp only [Act.put, List.setIfInBounds_toArray, List.set_cons_zero, List.set_cons_succ]
      refine wpAnyH_take (i := 22) (oi := { dst := some 68, op := Op.build 40 #[(0, Operand.tmp 54), (1, Operand.tmp 67)], type := 40, pos := "law.go:91", after := #[⟨8, .data⟩, ⟨21, .data⟩], guard := none }) (v := .agg #[.int .i64 (V k8), .slice sa BL.length sc]) rfl (by kernel_rfl) (by kernel_rfl) (by kernel_rfl) (fun _ _ _ h => h) (Or.inl ⟨by rfl, fun wx hS => ?_⟩) hH ?_
      · exact run_buildO _ 40 _ rfl _ _ (buildLo (V k8) sa BL.length sc wx) rfl
      simp only [Act.put, List.setIfInBounds_toArray, List.set_cons_zero, List.set_cons_succ]
      refine wpAnyH_ready (rs := [23]) (by kernel_rfl) (by simp) ?_
      refine AllReadyH.cons (o := { dst := some 12, op := Op.alloc 40, type := 0, pos := "law.go:91", after := #[], guard := none }) rfl (fun KK hKK => ?_) AllReadyH.nil
      have kb := alloc_below z0 (.cells #[.int .i64 0, .slice none 0 0] 40 (0, 0))
      have q_ub : blockIs (z0.alloc (.cells #[.int .i64 0, .slice none 0 0] 40 (0, 0))) z0.heap.size [.int .i64 0, .slice none 0 0] 40 := blockIs.new z0 [.int .i64 0, .slice none 0 0] 40
      have hub := hH.size
      have hN := hH.trans (kb.mono hH.size)
      clear hH kb
      go_simp
      refine hKK.out _ _ hN (fun hH => ?_)
      clear hKK KK hN
      try simp only [Act.put, List.setIfInBounds_toArray, List.set_cons_zero, List.set_cons_succ]
      generalize z0.alloc (.cells #[.int .i64 0, .slice none 0 0] 40) = z1 at *
      generalize z0.heap.size = ub at *
      refine wpAnyH_ready (rs := [24]) (by kernel_rfl) (by simp) ?_
      refine AllReadyH.cons (o := { dst := none, op := Op.store 40 (Operand.tmp 12) (Operand.tmp 68), type := 0, pos := "law.go:91", after := #[⟨23, .data⟩, ⟨22, .data⟩, ⟨0, .phase⟩, ⟨1, .phase⟩, ⟨2, .phase⟩, ⟨3, .phase⟩, ⟨4, .phase⟩, ⟨5, .phase⟩, ⟨6, .phase⟩, ⟨7, .phase⟩, ⟨8, .phase⟩, ⟨9, .phase⟩, ⟨10, .phase⟩, ⟨11, .phase⟩, ⟨12, .phase⟩, ⟨13, .phase⟩, ⟨14, .phase⟩, ⟨15, .phase⟩, ⟨16, .phase⟩, ⟨17, .phase⟩, ⟨18, .phase⟩, ⟨19, .phase⟩, ⟨20, .phase⟩, ⟨21, .phase⟩, ⟨22, .phase⟩, ⟨23, .phase⟩], guard := none }) rfl (fun KK hKK => ?_) AllReadyH.nil
      refine step_store_block (by rfl) 40 _ _ rfl ub 0 [.int .i64 (V k8), .slice sa BL.length sc] rfl rfl [.int .i64 0, .slice none 0 0] 40 q_ub info_lo (by simp) (by intro v hv; simp only [List.mem_cons, List.not_mem_nil, or_false] at hv; rcases hv with rfl | rfl <;> rfl) ?_
      intro z2 P1 P2 P3
      have P1 : blockIs z2 ub [Value.int .i64 (V k8), Value.slice sa BL.length sc] 40 := P1.out
      have hN := hH.trans (P2.out.below hub hH.size)
      have UB := Lib.hid P1
      clear hH P1 P2 P3 q_ub
      refine hKK.out _ _ hN (fun hH => ?_)
      clear hKK KK hN
      try simp only [Act.put, List.setIfInBounds_toArray, List.set_cons_zero, List.set_cons_succ]
      refine wpAnyH_done (by kernel_rfl) ?_ _
      refine NoPanic.normal ?_
      have W3 := Lib.hid (HW.out.below hH)
      have T3 := Lib.hid (T1.out.below hH T1.out.2.2.1 T1.out.2.2.2)
      have B3 := Lib.hid (HB.out.trans (hH.mono HB.out.size))
      have D3 := Lib.hid (row_kp HD.out (Kp.below (f := fun _ => False) hH) fun _ _ => id)
      have LL3 := Lib.hid ((hH.block lb (Array.getElem?_eq_some_iff.1 HLL.out).1).trans HLL.out)
      clear hH HW T1 HB HD CX0 CX1 hub HLL
      have u0 : z2.cell? ⟨ub, 0, none⟩ = some (.int .i64 (V k8)) := by rw [UB.out.cell]; rfl
      have u1 : z2.cell? ⟨ub, 1, none⟩ = some (.slice sa BL.length sc) := by rw [UB.out.cell]; rfl
      have A3 := alloc_below z2 (.cells #[.slice sa BL.length sc] 30 (0, 0))
      have HT : z2.heap.size ≠ tb := Nat.ne_of_gt (Nat.lt_of_lt_of_le W3.out.tl W3.out.b)
      have AM := add_ms n base wb tb fa fc (madeS n R j) (j + 1) GD.out (by omega) v1 v2 gm k8 BL KD.out HB1.out z2.heap.size (z2.alloc (.cells #[.slice sa BL.length sc] 30 (0, 0))) (W3.out.below A3) (T3.out.below A3 T3.out.2.2.1 T3.out.2.2.2)
        (fun Y k => parts_one (k.cell (blockIs.new z2 [.slice sa BL.length sc] 30 |>.cell 0) HT) (OB.out.below ((B3.out.trans (A3.mono B3.out.size)).trans (k.below TB.out (Nat.le_trans B3.out.size A3.size)))))
      go_wp2_with (first
        | (with_reducible refine AM.mono ?_; rintro e z3 ⟨ID2, yes, x1, x2, gn2, hid, hyes, rfl, hW4, hK4, hN4⟩)
        | (refine wpList_store_block rfl 24 _ _ rfl _ 0 (byteCells ID2) rfl rfl (zeros 32) 24 (blockIs.new _ (zeros 32) 24) (by rw [infoId, byteCells_length, hid]) (by simp [zeros, byteCells_length, hid]) (byteCells_one _) ?_))
      intro z4 P1 P2 P3
      have AZ := alloc_below z3 (.cells (zeros 32).toArray 24 (0, 0))
      have AZ2 := AZ.trans (P2.out.below (Nat.le_refl _) AZ.size)
      have KP := Lib.hid (hK4.trans (Kp.below (f := fun _ => False) AZ2) fun _ q => q.elim)
      have B4 : Hid (Below w.heap.size w z4) := Lib.hid (Kp.lowF HF.out (B3.out.trans (A3.mono B3.out.size)) KP.out)
      have F4 : Hid (∀ i, wF wb tb x1 x2 gn2 i → w.heap.size ≤ i) := Lib.hid (fun i hi => (hN4 i hi).elim (HF.out i) fun q => Nat.le_trans (Nat.le_trans B3.out.size A3.size) q)
      have W4 := Lib.hid (hW4.below AZ2)
      have D4 := Lib.hid (row_kp (row_kp D3.out (Kp.below (f := fun _ => False) A3) fun _ _ => id) KP.out fun k hk q => (W3.out.below A3).rowF (row_kp D3.out (Kp.below (f := fun _ => False) A3) fun _ _ => id) k hk q)
      have U4 := Lib.hid (KP.out.is (UB.out.below A3 UB.out.lt) fun q => (W3.out.below A3).lmpF (UB.out.below A3 UB.out.lt) q)
      have LA : Hid ((z2.alloc (.cells #[.slice sa BL.length sc] 30 (0, 0))).heap[lb]? = some litC) := Lib.hid ((A3.block lb (Array.getElem?_eq_some_iff.1 LL3.out).1).trans LL3.out)
      have LL4 := Lib.hid ((KP.out.block lb (Array.getElem?_eq_some_iff.1 LA.out).1 HNF.out).trans LA.out)
      have NF4 : Hid (¬ wF wb tb x1 x2 gn2 lb) := Lib.hid (fun q => (hN4 lb q).elim HNF.out fun h => by have := (Array.getElem?_eq_some_iff.1 LA.out).1; omega)
      have YS := hyes
      have MD := Lib.hid (msStep_D n (madeS n R j) k8 BL)
      rw [← YS.out] at MD
      rw [← ST.out] at W4 MD
      clear hK4 hN4 hW4 P1 P2 P3 AZ AZ2 KP AM u0 u1 HT W3 T3 B3 D3 UB hyes A3 SL HB1 KD HF LL3 LA HNF
      have hll := hj2
      cases yes with
      | true =>
        have HDN : Hid ((Dl ++ [(⟨V k8, sa, BL.length, sc⟩ : Lo)]).map (fun d => (d.kind, d.n)) = (madeS n R (j + 1)).D.map (fun d => (d.1, d.2.length))) := Lib.hid (by rw [MD.out, if_pos rfl, List.map_append, List.map_append, HDD.out]; rfl)
        have HLW2 : Hid (LoW w lb (Dl ++ [(⟨V k8, sa, BL.length, sc⟩ : Lo)]) (madeS n R (j + 1)).D) := Lib.hid (by rw [MD.out, if_pos rfl]; exact HLW.out.more (by have h1 := congrArg List.length HDD.out; simpa using h1) _ _ OB.out)
        have LD : Hid (Dl.length ≤ 100) := Lib.hid (by have h1 := congrArg List.length HDD.out; rw [List.length_map, List.length_map] at h1; have h2 := GD.out.dl; have h3 := GD.out.len; omega)
        have u0 : z4.cell? ⟨ub, 0, none⟩ = some (.int .i64 (V k8)) := by rw [U4.out.cell]; rfl
        have u1 : z4.cell? ⟨ub, 1, none⟩ = some (.slice sa BL.length sc) := by rw [U4.out.cell]; rfl
        go_wp2_with (first
          | (refine Ci.wpList_load_mid_if (by rfl) 40 _ rfl ub 0 rfl [.int .i64 (V k8), .slice sa BL.length sc] _ (Ci.range_of U4.out) Tryd.underlying40 rfl (by rw [info_lo]; rfl) ?_)
          | (refine append_lo rfl _ _ rfl base _ Dl ⟨V k8, sa, BL.length, sc⟩ rfl (row_kp D4.out (Kp.below (f := fun _ => False) (alloc_below z4 (.cells #[.int .i64 (V k8), .slice sa BL.length sc] 40 (0, 0)))) fun _ _ => id) z4.heap.size 1 rfl (blockIs.new z4 [.int .i64 (V k8), .slice sa BL.length sc] 40) (Nat.le_trans LD.out (by decide)) (Nat.le_trans W4.out.b (alloc_below z4 _).size) ?_))
        intro hv5 z5 Q1 Q2
        have AL := alloc_below z4 (.cells #[.int .i64 (V k8), .slice sa BL.length sc] 40 (0, 0))
        have B5 := Lib.hid (grown_low BB.out (B4.out.trans (AL.mono B4.out.size)) (row_kp D4.out (Kp.below (f := fun _ => False) AL) fun _ _ => id) Q2.out)
        have W5 := Lib.hid ((W4.out.below AL).grownL (row_kp D4.out (Kp.below (f := fun _ => False) AL) fun _ _ => id) Q2.out)
        have Q3 : Hid (z5.ownsRow base 40 2 hv5 (Dl ++ [(⟨V k8, sa, BL.length, sc⟩ : Lo)]).length (loCells (Dl ++ [⟨V k8, sa, BL.length, sc⟩]))) := Lib.hid (by rw [List.length_append]; exact Q1.out)
        have LL5 : Hid (z5.heap[lb]? = some litC) := Lib.hid (by
          have e1 := (AL.block lb (Array.getElem?_eq_some_iff.1 LL4.out).1).trans LL4.out
          refine (Q2.out.block lb (Array.getElem?_eq_some_iff.1 e1).1 fun q => row_type (row_kp D4.out (Kp.below (f := fun _ => False) AL) fun _ _ => id) e1 (by decide) (by first | exact q | exact q.symm)).trans e1)
        clear AL Q1 Q2 D4 B4 W4 LL4
        go_wp2_with fail
        go_roundw
        case rel => exact ⟨j + 1, Dl ++ [⟨V k8, sa, BL.length, sc⟩], x1, x2, gn2, h1, h2, by go_num, W5, F4, Q3, HDN, HLW2, LL5, NF4, B5⟩
        case measure => simp [intOf]; omega
      | false =>
        have HLW2 : Hid (LoW w lb Dl (madeS n R (j + 1)).D) := Lib.hid (by rw [MD.out, if_neg (by decide)]; exact HLW.out)
        have HDN : Hid (Dl.map (fun d => (d.kind, d.n)) = (madeS n R (j + 1)).D.map (fun d => (d.1, d.2.length))) := Lib.hid (by rw [MD.out, if_neg (by decide)]; exact HDD.out)
        go_wp2_with fail
        go_roundw
        case rel => exact ⟨j + 1, Dl, x1, x2, gn2, h1, h2, by go_num, W4, F4, D4, HDN, HLW2, LL4, NF4, B4⟩
        case measure => simp [intOf]; omega
    · have hjm : j = min R.length 10 := by omega
      have GD := Lib.hid (madeS_good n R j hj)
      have NE := madeS_ne n R j hj
      have T1 := Lib.hid (T0.out.below HB.out T0.out.2.2.1 T0.out.2.2.2)
      have CM := Lib.hid (close_ms n base wb tb fa fc (madeS n R j) (j + 1) GD.out (by omega) NE v1 v2 gm wr HW.out T1.out)
      have PLN : Hid ((closeB (kN n 1) (kN n 2) [n] (madeS n R j).told (madeS n R j).B (madeS n R j).L).length ≤ 100000) := Lib.hid (closeB_len n _ (j + 1) GD.out (by omega))
      have EL : Hid ((madeS n R j).L.length = Dl.length) := Lib.hid (by have h1 := congrArg List.length HDD.out; rw [List.length_map, List.length_map] at h1; have h2 := GD.out.dl; omega)
      have HJ := Lib.hid hjm
      have WW := Lib.hid HW.out.b
      have FW : Hid (∀ i, (i = wb ∨ i = tb) → w.heap.size ≤ i) := Lib.hid (fun i hi => hi.elim (fun e => e ▸ WB.out) fun e => e ▸ TB.out)
      have ND : Hid (∀ k, u10.ownBlock = some k → ¬ (k = wb ∨ k = tb)) := Lib.hid (fun k hk q => HW.out.rowF HD.out k hk (q.elim Or.inl fun e => Or.inr (Or.inl e)))
      have N1 : Hid (1 ≠ wb ∧ 1 ≠ tb ∧ 0 ≠ wb ∧ 0 ≠ tb) := Lib.hid ⟨HW.out.g.1, HW.out.g.2.2.1, HW.out.g.2.1, HW.out.g.2.2.2.1⟩
      have NLB : Hid (¬ (lb = wb ∨ lb = tb)) := Lib.hid (fun q => HNF.out (q.elim Or.inl fun e => Or.inr (Or.inl e)))
      have GOAL := Lib.hid hj2
      clear NE hjm HF HR fl hz
      by_cases h1 : j < R.length
      · have q0 : (j : Int) < (R.length : Int) := by omega
        have q1 : ¬ (j : Int) < 10 := by omega
        refine Hid.out ?_
        refine Lib.hid ?_
        obtain ⟨A5, c5, hv5⟩ := row_slice HD.out
        subst hv5
        go_wp2_with (with_reducible refine CM.out.mono ?_; rintro e w4 ⟨bv, rfl, hbv, hl, hk⟩; refine Hid.out ?_)
        refine Lib.hid ?_
        generalize hPP : closeB (kN n 1) (kN n 2) [n] (madeS n R j).told (madeS n R j).B (madeS n R j).L = PP at *
        have HPP := Lib.hid hPP
        clear hPP CM
        have B4 := Lib.hid (Below.trans HB.out (hk.low FW.out HB.out.size))
        have T4 : Hid (tables w4) := Lib.hid ⟨fun q hq => hk.cell (T1.out.1 q hq) fun e => e.elim N1.out.1 N1.out.2.1, fun q x hq => hk.cell (T1.out.2.1 q x hq) fun e => e.elim N1.out.2.2.1 N1.out.2.2.2, Nat.lt_of_lt_of_le T1.out.2.2.1 hk.size, Nat.lt_of_lt_of_le T1.out.2.2.2 hk.size⟩
        have D4 := Lib.hid (row_kp HD.out hk ND.out)
        have OB4 : Hid (Ci.ownB w4 w.heap.size bv PP) := Lib.hid (ownB_mono hbv HB.out.size)
        have OL4 := Lib.hid hl
        have LB4 := Lib.hid ((hk.block lb (Array.getElem?_eq_some_iff.1 HLL.out).1 NLB.out).trans HLL.out)
        obtain ⟨ab, db, hbe, ob⟩ := Pt.ok0_of hbv
        obtain ⟨A6, c6, hle⟩ := row_slice hl
        rw [EL.out] at hle
        have NA := name_any ab db PP w4 ob.1 (Nat.le_trans PLN.out (by decide)) T4.out
        have OBK := Lib.hid ob
        subst hbe hle
        clear hbv hl hk ob HB HD T1 FW ND N1 HW
        go_wp2_with (with_reducible refine NA.mono ?_; rintro e w5 ⟨rfl, kb⟩; refine Hid.out ?_)
        refine Lib.hid ?_
        have CS := conv_string w5 ab PP db (OBK.out.below kb).1.2.2
        have RN := refName_any PP w5 PLN.out
        have B5 := Lib.hid (B4.out.trans (kb.mono B4.out.size))
        have LB5 := Lib.hid ((kb.block lb (Array.getElem?_eq_some_iff.1 LB4.out).1).trans LB4.out)
        have D5 := Lib.hid (row_kp D4.out (Kp.below (f := fun _ => False) kb) fun _ _ => id)
        have OB5 := Lib.hid (row_kp OB4.out (Kp.below (f := fun _ => False) kb) fun _ _ => id)
        have OL5 := Lib.hid (row_kp OL4.out (Kp.below (f := fun _ => False) kb) fun _ _ => id)
        clear kb NA OBK D4 OB4 OL4 B4
        generalize hNM : packName PP = NM at *
        clear hNM
        go_wp2_with (with_reducible refine RN.mono ?_; rintro e w6 ⟨rfl, kb⟩)
        refine bodyPost_ret (v := .tuple #[.slice ab PP.length db, .slice A6 Dl.length c6, .slice A5 Dl.length c5, .bool true]) (results_tmp4 (t := 4) (u := 5) (v := 6) (x := 7) rfl _ _ _) rfl ?_
        refine ⟨_, _, _, Dl, _, _, rfl, rfl, rfl, ?_, ?_, ?_, ?_, ?_, B5.out.trans (kb.mono B5.out.size)⟩
        · rw [← HJ.out, HPP.out]; exact row_kp OB5.out (Kp.below (f := fun _ => False) kb) fun _ _ => id
        · rw [← HJ.out]; exact Joins.ownsRow_le (row_kp OL5.out (Kp.below (f := fun _ => False) kb) fun _ _ => id) BB.out
        · exact Joins.ownsRow_le (row_kp D5.out (Kp.below (f := fun _ => False) kb) fun _ _ => id) BB.out
        · rw [← HJ.out]; exact HDD.out
        · rw [← HJ.out]; exact HLW.out.at (B5.out.trans (kb.mono B5.out.size)) ((kb.block lb (Array.getElem?_eq_some_iff.1 LB5.out).1).trans LB5.out)
      · have q0 : ¬ (j : Int) < (R.length : Int) := by omega
        refine Hid.out ?_
        refine Lib.hid ?_
        obtain ⟨A5, c5, hv5⟩ := row_slice HD.out
        subst hv5
        go_wp2_with (with_reducible refine CM.out.mono ?_; rintro e w4 ⟨bv, rfl, hbv, hl, hk⟩; refine Hid.out ?_)
        refine Lib.hid ?_
        generalize hPP : closeB (kN n 1) (kN n 2) [n] (madeS n R j).told (madeS n R j).B (madeS n R j).L = PP at *
        have HPP := Lib.hid hPP
        clear hPP CM
        have B4 := Lib.hid (Below.trans HB.out (hk.low FW.out HB.out.size))
        have T4 : Hid (tables w4) := Lib.hid ⟨fun q hq => hk.cell (T1.out.1 q hq) fun e => e.elim N1.out.1 N1.out.2.1, fun q x hq => hk.cell (T1.out.2.1 q x hq) fun e => e.elim N1.out.2.2.1 N1.out.2.2.2, Nat.lt_of_lt_of_le T1.out.2.2.1 hk.size, Nat.lt_of_lt_of_le T1.out.2.2.2 hk.size⟩
        have D4 := Lib.hid (row_kp HD.out hk ND.out)
        have OB4 : Hid (Ci.ownB w4 w.heap.size bv PP) := Lib.hid (ownB_mono hbv HB.out.size)
        have OL4 := Lib.hid hl
        have LB4 := Lib.hid ((hk.block lb (Array.getElem?_eq_some_iff.1 HLL.out).1 NLB.out).trans HLL.out)
        obtain ⟨ab, db, hbe, ob⟩ := Pt.ok0_of hbv
        obtain ⟨A6, c6, hle⟩ := row_slice hl
        rw [EL.out] at hle
        have NA := name_any ab db PP w4 ob.1 (Nat.le_trans PLN.out (by decide)) T4.out
        have OBK := Lib.hid ob
        subst hbe hle
        clear hbv hl hk ob HB HD T1 FW ND N1 HW
        go_wp2_with (with_reducible refine NA.mono ?_; rintro e w5 ⟨rfl, kb⟩; refine Hid.out ?_)
        refine Lib.hid ?_
        have CS := conv_string w5 ab PP db (OBK.out.below kb).1.2.2
        have RN := refName_any PP w5 PLN.out
        have B5 := Lib.hid (B4.out.trans (kb.mono B4.out.size))
        have LB5 := Lib.hid ((kb.block lb (Array.getElem?_eq_some_iff.1 LB4.out).1).trans LB4.out)
        have D5 := Lib.hid (row_kp D4.out (Kp.below (f := fun _ => False) kb) fun _ _ => id)
        have OB5 := Lib.hid (row_kp OB4.out (Kp.below (f := fun _ => False) kb) fun _ _ => id)
        have OL5 := Lib.hid (row_kp OL4.out (Kp.below (f := fun _ => False) kb) fun _ _ => id)
        clear kb NA OBK D4 OB4 OL4 B4
        generalize hNM : packName PP = NM at *
        clear hNM
        go_wp2_with (with_reducible refine RN.mono ?_; rintro e w6 ⟨rfl, kb⟩)
        refine bodyPost_ret (v := .tuple #[.slice ab PP.length db, .slice A6 Dl.length c6, .slice A5 Dl.length c5, .bool true]) (results_tmp4 (t := 4) (u := 5) (v := 6) (x := 7) rfl _ _ _) rfl ?_
        refine ⟨_, _, _, Dl, _, _, rfl, rfl, rfl, ?_, ?_, ?_, ?_, ?_, B5.out.trans (kb.mono B5.out.size)⟩
        · rw [← HJ.out, HPP.out]; exact row_kp OB5.out (Kp.below (f := fun _ => False) kb) fun _ _ => id
        · rw [← HJ.out]; exact Joins.ownsRow_le (row_kp OL5.out (Kp.below (f := fun _ => False) kb) fun _ _ => id) BB.out
        · exact Joins.ownsRow_le (row_kp D5.out (Kp.below (f := fun _ => False) kb) fun _ _ => id) BB.out
        · rw [← HJ.out]; exact HDD.out
        · rw [← HJ.out]; exact HLW.out.at (B5.out.trans (kb.mono B5.out.size)) ((kb.block lb (Array.getElem?_eq_some_iff.1 LB5.out).1).trans LB5.out)
end Go.Proofs.YtfhlcondnaahiaaDoor
