/- (pack.Writer).Add. -/
import Derived.Test.YtfhlcondnaahiaaDoorTk
import Derived.Test.YtfhlcondnaahiaaDoorPw
namespace Go.Proofs.YtfhlcondnaahiaaDoor
open Go.RowKit Sha

theorem infoRing96 : (Tryd.prog.info? 58).map (·.size) = some 96 := by kernel_rfl
theorem info_unit : (Tryd.prog.info? 81).map (·.size) = some 0 := by kernel_rfl
theorem buildEn (x : En) (hx : x.ok) (w : World) : (Instr.build 66 #[(0, .agg (byteCells x.id).toArray), (1, .int .i64 x.kind), (2, .int .i64 (x.off : Int)), (3, .int .i64 (x.len : Int))]).run Tryd.prog w = .ok (.agg x.cells.toArray) w := by
  have h1 : (byteCells x.id).length = 32 := by rw [byteCells_length]; exact hx
  refine Ci.run_build_struct w _ (Tryd.prog.fieldsOf 66) #[(0, 32), (32, 1), (33, 1), (34, 1)] (.agg (zeros 32 ++ [Value.int .i64 0, Value.int .i64 0, Value.int .i64 0]).toArray) _ _ (by kernel_rfl) (by kernel_rfl) (by kernel_rfl) ?_
  show Instr.fill _ (zeros 32 ++ [Value.int .i64 0, Value.int .i64 0, Value.int .i64 0]).toArray [(0, .agg (byteCells x.id).toArray), (1, .int .i64 x.kind), (2, .int .i64 (x.off : Int)), (3, .int .i64 (x.len : Int))] = _
  have hz : (zeros 32).length = 32 := by simp [zeros]
  have e1 : splice (zeros 32 ++ [Value.int .i64 0, Value.int .i64 0, Value.int .i64 0]) 0 (byteCells x.id) = byteCells x.id ++ [Value.int .i64 0, Value.int .i64 0, Value.int .i64 0] := by
    simp [splice, h1, hz]
  have e2 : splice (byteCells x.id ++ [Value.int .i64 0, Value.int .i64 0, Value.int .i64 0]) 32 [Value.int .i64 x.kind] = byteCells x.id ++ [Value.int .i64 x.kind, Value.int .i64 0, Value.int .i64 0] := by
    rw [splice_set _ _ _ (by rw [List.length_append, h1]; decide), List.set_append_right _ _ (by omega)]; simp [h1]
  have e3 : splice (byteCells x.id ++ [Value.int .i64 x.kind, Value.int .i64 0, Value.int .i64 0]) 33 [Value.int .i64 (x.off : Int)] = byteCells x.id ++ [Value.int .i64 x.kind, Value.int .i64 (x.off : Int), Value.int .i64 0] := by
    rw [splice_set _ _ _ (by rw [List.length_append, h1]; simp), List.set_append_right _ _ (by omega)]; simp [h1]
  have e4 : splice (byteCells x.id ++ [Value.int .i64 x.kind, Value.int .i64 (x.off : Int), Value.int .i64 0]) 34 [Value.int .i64 (x.len : Int)] = x.cells := by
    rw [splice_set _ _ _ (by rw [List.length_append, h1]; simp), List.set_append_right _ _ (by omega)]; simp [h1, En.cells]
  rw [Ci.fill_cells _ _ 0 _ (byteCells x.id) rfl _ 0 (by rw [h1]; rfl) (by rw [h1, List.length_append, hz]; omega), e1,
    Ci.fill_cells _ _ 1 _ [Value.int .i64 x.kind] rfl _ 32 rfl (by rw [List.length_append, h1]; simp), e2,
    Ci.fill_cells _ _ 2 _ [Value.int .i64 (x.off : Int)] rfl _ 33 rfl (by rw [List.length_append, h1]; simp), e3,
    Ci.fill_cells _ _ 3 _ [Value.int .i64 (x.len : Int)] rfl _ 34 rfl (by rw [List.length_append, h1]; simp), e4]
  rfl
theorem zeros32_one : ∀ v ∈ zeros 32, v.oneCell' = true := by rw [zeros_zero32]; exact byteCells_one _
theorem WrAt.but {X Y : World} {base wb tb : Nat} {fa : Option Addr} {fc : Nat} {F : List UInt8} {told : Nat} {PC : List Value} {B : List UInt8} {L : List En} {v1 v2 : Value} {gm : Option Nat} {r : Nat} (h : WrAt X base wb tb fa fc F told PC B L v1 v2 gm) (k : But r X Y) (hr : base ≤ r) (hn : ¬ wF wb tb v1 v2 gm r) : WrAt Y base wb tb fa fc F told PC B L v1 v2 gm := by
  have kk : Kp (fun i => i = r) X Y := Kp.but k (Or.inl rfl)
  refine ⟨kk.is h.i fun q => hn (Or.inl q.symm), ⟨kk.is h.t.is fun q => hn (Or.inr (Or.inl q.symm)), ?_, h.t.apart, h.t.len, h.t.cap, h.t.most⟩, row_kp h.a kk fun i hi q => hn (Or.inr (Or.inr (Or.inl (q ▸ hi)))), row_kp h.e kk fun i hi q => hn (Or.inr (Or.inr (Or.inr (Or.inl (q ▸ hi))))), ?_, h.f, h.w, h.tl, h.g, Nat.le_trans h.b kk.size⟩
  · rcases h.t.row with e | ⟨b, o, e, hc⟩
    · exact Or.inl e
    · refine Or.inr ⟨b, o, e, fun j hj => kk.cell (hc j hj) ?_⟩
      have f1 : b < base := (h.f _ e).1
      intro q
      have q : b = r := q
      omega
  · rcases h.s with h1 | ⟨g, h1, h2, h3⟩
    · exact Or.inl h1
    · exact Or.inr ⟨g, h1, h2, set_kp h3 kk fun q => hn (Or.inr (Or.inr (Or.inr (Or.inr (q ▸ h1)))))⟩
theorem WrAt.notF {X : World} {base wb tb : Nat} {fa : Option Addr} {fc : Nat} {F : List UInt8} {told : Nat} {PC : List Value} {B : List UInt8} {L : List En} {v1 v2 : Value} {gm : Option Nat} {r : Nat} (h : WrAt X base wb tb fa fc F told PC B L v1 v2 gm) (hr : X.heap.size ≤ r) : ¬ wF wb tb v1 v2 gm r := by
  rintro (q | q | q | q | q)
  · have := h.w; have := h.b; omega
  · have := h.tl; have := h.b; omega
  · have := (h.a.lt _ q).2; omega
  · have := (h.e.lt _ q).2; omega
  · rcases h.s with ⟨e, -⟩ | ⟨g, e, hb, hs⟩
    · rw [e] at q; cases q
    · rw [e] at q; cases q; have := hs.lt; omega
theorem pen_range {X : World} {wb : Nat} {PC K R : List Value} {t : TypeId} (hI : blockIs X wb (PC ++ R) t) (h0 : ∀ (j : Nat) (u : Value), K[j]? = some u → PC[j]? = some u) : X.rangeAt wb 0 K := fun j u hj => by
  have h1 := h0 j u hj
  have h2 := hI.cell (0 + j)
  rw [Nat.zero_add] at h2 ⊢
  rw [h2, List.getElem?_append_left (List.getElem?_eq_some_iff.1 h1).1]
  exact h1
theorem pen_all {X : World} {wb : Nat} {PC R : List Value} {t : TypeId} (hI : blockIs X wb (PC ++ R) t) : X.rangeAt wb 0 PC := pen_range hI fun _ _ h => h
theorem look_any {X : World} {base wb tb : Nat} {fa : Option Addr} {fc : Nat} {F : List UInt8} {told : Nat} {PC : List Value} {B : List UInt8} {L : List En} {v1 v2 : Value} {gm : Option Nat} (h : WrAt X base wb tb fa fc F told PC B L v1 v2 gm) (n : List UInt8) (hn : n.length = 32) :
    (Instr.lookup 78 (.map gm) (.agg (byteCells n).toArray) true).run Tryd.prog X = .ok (.tuple #[.agg #[], .bool (decide (n ∈ L.map En.id))]) X := by
  rcases h.s with ⟨rfl, rfl⟩ | ⟨g, rfl, -, hs⟩
  · exact run_look_nil X n hn
  · exact run_look hs n hn
theorem blk_ne {X : World} {a b : Nat} {cs ds : List Value} {t u : TypeId} (h1 : blockIs X a cs t) (h2 : blockIs X b ds u) (hne : t ≠ u) : a ≠ b := by
  intro e
  rw [e] at h1
  unfold blockIs at h1 h2
  rw [h1] at h2
  injection h2 with h2
  injection h2 with _ h3 _
  exact hne h3
theorem tk_w {wb tb : Nat} {v1 v2 : Value} {gm : Option Nat} {k : Nat} (h : tkF wb v1 v2 gm k) : wF wb tb v1 v2 gm k := by
  rcases h with q | q | q | q
  · exact Or.inl q
  · exact Or.inr (Or.inr (Or.inl q))
  · exact Or.inr (Or.inr (Or.inr (Or.inl q)))
  · exact Or.inr (Or.inr (Or.inr (Or.inr q)))
theorem WrAt.idF {X : World} {base wb tb : Nat} {fa : Option Addr} {fc : Nat} {F : List UInt8} {told : Nat} {PC : List Value} {B : List UInt8} {L : List En} {v1 v2 : Value} {gm : Option Nat} (h : WrAt X base wb tb fa fc F told PC B L v1 v2 gm) {r : Nat} {cs : List Value} (hr : blockIs X r cs 24) : ¬ wF wb tb v1 v2 gm r := by
  rintro (q | q | q | q | q)
  · exact blk_ne hr h.i (by decide) q
  · exact blk_ne hr h.t.is (by decide) q
  · exact row_type h.a hr (by decide) q
  · exact row_type h.e hr (by decide) q
  · rcases h.s with ⟨e, -⟩ | ⟨g, e, hb, hs⟩
    · rw [e] at q; cases q
    · rw [e] at q; cases q; exact hs.ne_cells hr rfl
theorem newF {w X : World} {wb tb : Nat} {v1 v2 u1 u2 : Value} {gm : Option Nat} {g : Nat} (hs : w.heap.size ≤ X.heap.size) (h1 : ∀ k, u1.ownBlock = some k → v1.ownBlock = some k ∨ X.heap.size ≤ k) (h2 : ∀ k, u2.ownBlock = some k → v2.ownBlock = some k ∨ X.heap.size ≤ k) (h3 : gm = some g ∨ X.heap.size ≤ g) (k : Nat) (h : wF wb tb u1 u2 (some g) k) : wF wb tb v1 v2 gm k ∨ w.heap.size ≤ k := by
  rcases h with q | q | q | q | q
  · exact Or.inl (Or.inl q)
  · exact Or.inl (Or.inr (Or.inl q))
  · exact (h1 k q).elim (fun e => Or.inl (Or.inr (Or.inr (Or.inl e)))) fun e => Or.inr (by omega)
  · exact (h2 k q).elim (fun e => Or.inl (Or.inr (Or.inr (Or.inr (Or.inl e))))) fun e => Or.inr (by omega)
  · cases q
    exact h3.elim (fun e => Or.inl (Or.inr (Or.inr (Or.inr (Or.inr e))))) fun e => Or.inr (by omega)
/-- What stands behind Add. -/
def AddPost (base wb tb : Nat) (fa : Option Addr) (fc : Nat) (F : List UInt8) (PC : List Value) (v1 v2 : Value) (gm : Option Nat) (w : World) (R : AddOut) (e : Ending) (w' : World) : Prop :=
  e = .returned (.tuple #[.agg (byteCells R.id).toArray, .bool R.yes, .int .i64 R.er]) ∧ ∃ u1 u2 gn, WrAt w' base wb tb fa fc F R.told PC R.B R.L u1 u2 gn ∧ Kp (wF wb tb v1 v2 gm) w w' ∧ ∀ k, wF wb tb u1 u2 gn k → wF wb tb v1 v2 gm k ∨ w.heap.size ≤ k

set_option maxRecDepth 100000 in
set_option maxHeartbeats 8000000 in
theorem add_any (base wb tb : Nat) (fa : Option Addr) (fc : Nat) (F : List UInt8) (told : Nat) (H M C : List UInt8) (B : List UInt8) (L : List En) (v1 v2 : Value) (gm : Option Nat) (k8 : UInt8) (pa : Option Addr) (pc : Nat) (ls : List (List UInt8)) (w : World)
    (hH : H.length = 32) (hM : M.length = 32) (hC : C.length = 32) (hk : V k8 = 1 ∨ V k8 = 2) (hW : WrAt w base wb tb fa fc F told (penCells (H ++ (M ++ C)) tb) B L v1 v2 gm) (ht : tables w)
    (hl : ls.length ≤ 100000) (hlc : ls.length ≤ pc) (hpa : pa = none → pc = 0) (hm : ls.flatten.length ≤ 800000) (hP : ∀ X, But tb w X → partsW X pa ls) (hto : told ≤ 100000000) (hL : L.length ≤ 1000) (hB : B.length ≤ 900000) :
    Calls Tryd.prog 8 #[.pointer (some ⟨wb, 0, none⟩), .int .i64 (V k8), .slice pa ls.length pc] w (AddPost base wb tb fa fc F (penCells (H ++ (M ++ C)) tb) v1 v2 gm w (addR H M C F told B L k8 ls.flatten)) := by
  have hz := zeroId
  have K8 := Lib.hid hk
  have w8 := V_wrap k8
  have RL : Hid ((H ++ (M ++ C)).length = 96) := Lib.hid (by simp [hH, hM, hC])
  have hPCl := penCells_length (H ++ (M ++ C)) tb RL.out
  have RC0 : Hid (∀ (j : Nat) (u : Value), (byteCells (H ++ (M ++ C)))[j]? = some u → (penCells (H ++ (M ++ C)) tb)[j]? = some u) := Lib.hid (fun j u hj => by
    unfold penCells
    rw [List.getElem?_append_left (List.getElem?_eq_some_iff.1 hj).1]
    exact hj)
  have hidl : (hmac C (k8 :: ls.flatten)).length = 32 := hmac_length _ _
  have ISK := Lib.hid (fun X => isKind_yes (V k8) hk X)
  have SIZ := Lib.hid (fun X (k : But tb w X) => sizeOf_any pa pc ls X (by omega) (hP X k).plain)
  have IDA : Hid (∀ X, But tb w X → tables X → Calls Tryd.prog 22 #[.agg (byteCells (H ++ (M ++ C))).toArray, .int .u8 (V k8), .slice pa ls.length pc] X fun e w' => e = .returned (.agg (byteCells (hmac C (k8 :: ls.flatten))).toArray) ∧ Below X.heap.size X w') := Lib.hid (fun X k t => by
    have := id_any (H ++ M) C k8 pa pc ls X (by simp [hH, hM]) hC hl hlc hpa hm (hP X k).plain t
    rwa [List.append_assoc] at this)
  have PWA := Lib.hid (fun X (k : But tb w X) (t : tables X) (h : tapeAt X tb fa fc F told) => pwrite_any H M C tb fa fc F told k8 (hexL (hmac C (k8 :: ls.flatten))) pa pc ls X hH hM hC hl hm (fun Y k2 => hP Y (k.trans k2)) t ⟨hW.g.2.2.1, hW.g.2.2.2.1⟩ h hto)
  have TXA := Lib.hid (fun X => stext_any (hmac C (k8 :: ls.flatten)) X hidl)
  have SEA : Hid (sealR H M k8 (hexL (hmac C (k8 :: ls.flatten))) (tbytes F told 16) ls.flatten = (wseal H M k8 (hexL (hmac C (k8 :: ls.flatten))) (tbytes F told 16) ls.flatten, 0)) := Lib.hid (by
    unfold sealR
    rw [if_neg]
    rw [hexL_length, hidl]; omega)
  have SEL : Hid ((wseal H M k8 (hexL (hmac C (k8 :: ls.flatten))) (tbytes F told 16) ls.flatten).length = ls.flatten.length + 48) := Lib.hid (wseal_length _ _ _ _ _ _ (tbytes_16 _ _))
  obtain ⟨R, hR⟩ : ∃ R, R = addR H M C F told B L k8 ls.flatten := ⟨_, rfl⟩
  rw [← hR]
  unfold addR at hR
  rw [SEA.out] at PWA
  generalize wseal H M k8 (hexL (hmac C (k8 :: ls.flatten))) (tbytes F told 16) ls.flatten = SB at *
  generalize hmac C (k8 :: ls.flatten) = ID at *
  generalize H ++ (M ++ C) = RG at *
  generalize penCells RG tb = PC at *
  generalize hn : ls.flatten.length = N at *
  have HR := Lib.hid hR
  clear hR
  have PL := Lib.hid hPCl
  have IDL := Lib.hid hidl
  have NM := Lib.hid hm
  have LM := Lib.hid hL
  have BM := Lib.hid hB
  have A0 := Lib.hid (alloc_below w (.cells (zeros 32).toArray 24 (0, 0)))
  have T1 := Lib.hid (hW.tabs ht (Kp.below A0.out))
  have W1 := Lib.hid (hW.below A0.out)
  have R1 := Lib.hid (blockIs.new w (zeros 32) 24)
  have HW := Lib.hid hW
  clear hPCl hidl hm hL hB hW ht hP hk hH hM hC SEA hn hlc hpa hl hto
  go_enter Tryd.func8, Tryd.ntmps8
  go_upto_region 1 with fail
  generalize w.alloc (.cells (zeros 32).toArray 24 (0, 0)) = w1 at *
  have RB : Hid (w.heap.size ≠ tb) := Lib.hid (Nat.ne_of_gt (Nat.lt_of_lt_of_le HW.out.tl HW.out.b))
  have HRN := Lib.hid (HW.out.notF (Nat.le_refl _))
  have HBR := Lib.hid HW.out.b
  generalize hrb : w.heap.size = rb at *
  have HRB := Lib.hid hrb
  clear hrb
  have A0W : Hid (Below w.heap.size w w1) := Lib.hid (by rw [HRB.out]; exact A0.out)
  clear A0
  have ISK1 := ISK.out w1
  have SZ1 := Lib.hid (SIZ.out w1 (But.of_below A0W.out))
  clear ISK SIZ
  by_cases hbig : 131072 < N
  · have hRR := HR.out
    rw [if_pos hbig] at hRR
    have HRR := Lib.hid hRR
    have hsr : sizeR N = .tuple #[.int .i64 0, .bool false] := if_neg (by omega)
    rw [hsr] at SZ1
    clear hsr hbig hRR HR
    go_wp2_with (first
      | (with_reducible refine ISK1.mono ?_; rintro e w2 ⟨rfl, rfl⟩)
      | (with_reducible refine SZ1.out.mono ?_; rintro e w2 ⟨rfl, rfl⟩)
      | (refine wpList_store_block rfl 24 _ _ rfl rb 0 (zeros 32) rfl rfl (zeros 32) 24 R1.out (by rw [infoId]; rfl) (by simp [zeros]) zeros32_one ?_))
    intro w3 P1 P2 P3
    have P1 := P1.out
    rw [splice_all _ _ rfl, zeros_zero32] at P1
    go_wp2_with fail
    refine bodyPost_ret (v := .tuple #[.agg (byteCells zero32).toArray, .bool false, .int .i64 4]) (results_cell_two (p := 6) (t := 7) (u := 8) rfl _ _ rb _ rfl (run_loadVar_row _ _ 24 _ _ (0, 0) _ P1 Tryd.underlying24 rfl (by rw [infoId]; simp [byteCells_length, zero32]))) rfl ?_
    have KQ := (Kp.below (f := wF wb tb v1 v2 gm) A0W.out).trans (Kp.but (f := fun i => i = rb) P2.out (Or.inl rfl)) fun i hi => Or.inr (by rw [HRB.out, hi]; exact Nat.le_refl _)
    exact ⟨by rw [HRR.out], v1, v2, gm, HRR.out ▸ (W1.out).but P2.out HBR.out HRN.out, KQ, fun k q => Or.inl q⟩
  · have hRR := HR.out
    rw [if_neg hbig] at hRR
    have HRR := Lib.hid hRR
    have hsr : sizeR N = .tuple #[.int .i64 (N : Int), .bool true] := if_pos (by omega)
    rw [hsr] at SZ1
    have NB := Lib.hid hbig
    clear hsr hbig hRR HR
    have RK := pen_range W1.out.i RC0.out
    have ID1 := IDA.out w1 (But.of_below A0W.out) T1.out
    clear IDA
    go_wp2_with (first
      | (with_reducible refine ISK1.mono ?_; rintro e w2 ⟨rfl, rfl⟩)
      | (with_reducible refine SZ1.out.mono ?_; rintro e w2 ⟨rfl, rfl⟩)
      | (refine Ci.wpList_load_mid_if (by rfl) 58 _ rfl wb 0 rfl (byteCells RG) _ RK Tryd.underlying58 rfl (by rw [infoRing96, byteCells_length, RL.out]) ?_)
      | (with_reducible refine ID1.mono ?_; rintro e w2 ⟨rfl, kb⟩)
      | (refine wpList_store_block rfl 24 _ _ rfl _ 0 (byteCells ID) rfl rfl (zeros 32) 24 (blockIs.new _ (zeros 32) 24) (by rw [infoId, byteCells_length, IDL.out]) (by simp [zeros, byteCells_length, IDL.out]) (byteCells_one _) ?_))
    intro w3 P1 P2 P3
    have P1 := P1.out
    rw [splice_all _ _ (by simp [zeros, byteCells_length, IDL.out])] at P1
    have K13 := Lib.hid (kb.trans (((alloc_below w2 (.cells (zeros 32).toArray 24 (0, 0))).trans (P2.out.below (Nat.le_refl _) (by simp))).mono kb.size))
    have HIB : Hid (w1.heap.size ≤ w2.heap.size) := Lib.hid kb.size
    have I3 := Lib.hid P1
    clear P1 P2 P3 kb RK
    generalize w2.heap.size = ib at *
    have A3 := Lib.hid (A0W.out.trans (K13.out.mono A0W.out.size))
    have W3 := Lib.hid (W1.out.below K13.out)
    have T3 := Lib.hid (T1.out.below K13.out T1.out.2.2.1 T1.out.2.2.2)
    have R3 := Lib.hid (R1.out.below K13.out R1.out.lt)
    clear W1 T1 R1 A0W K13 ISK1 SZ1 ID1
    have hz0 := zero_unit
    by_cases hin : ID ∈ L.map En.id
    · have HIN : Hid (decide (ID ∈ L.map En.id) = true) := Lib.hid (decide_eq_true hin)
      have hRR := HRR.out
      rw [if_pos hin] at hRR
      have HRR := Lib.hid hRR
      clear hRR hin TXA PWA
      go_wp2_with fail
      refine wp_region_noPanic ?_
      refine wp_region_held_drew (S := fun X => Below w3.heap.size w3 X) (by kernel_rfl) (below_drew' (Below.refl _ _)) (fun hH => ?_)
      generalize w3.drew = y0 at *
      refine tk (i := 0) (oi := { dst := some 42, op := Op.move (Operand.tmp 0), type := 27, pos := "writer.go:35", after := #[], guard := none }) (v := .pointer (some ⟨wb, 0, none⟩)) rfl (fun wx hS => ?_) hH ?_
      · go_simp
      refine tk (i := 1) (oi := { dst := some 43, op := Op.nilCheck (Operand.tmp 42), type := 0, pos := "writer.go:35", after := #[⟨0, .data⟩], guard := none }) (v := .pointer (some ⟨wb, 0, none⟩)) rfl (fun wx hS => ?_) hH ?_
      · go_simp
      refine tk (i := 2) (oi := { dst := some 44, op := Op.fieldAddr 80 (Operand.tmp 43) 3, type := 0, pos := "writer.go:35", after := #[⟨1, .data⟩], guard := none }) (v := .pointer (some ⟨wb, 99, none⟩)) rfl (fun wx hS => ?_) hH ?_
      · go_simp
      refine tk (i := 3) (oi := { dst := some 45, op := Op.load 78 (Operand.tmp 44), type := 78, pos := "writer.go:35", after := #[⟨2, .data⟩], guard := none }) (v := .map gm) rfl (fun wx hS => ?_) hH ?_
      · have e1 := get99 PL.out (W3.out.below hS).i; go_simp
      refine tky (i := 4) (oi := { dst := some 46, op := Op.load 24 (Operand.tmp 11), type := 24, pos := "writer.go:35", after := #[], guard := none }) (v := .agg (byteCells ID).toArray) rfl (yieldsIf_load_mid (by rfl) 24 _ rfl ib 0 rfl (byteCells ID) _ (fun wx hS j u hj => ((I3.out.below hS I3.out.lt).cell (0 + j)).trans (by rw [Nat.zero_add]; exact hj)) Tryd.underlying24 rfl (by rw [infoId, byteCells_length, IDL.out])) hH ?_
      refine tk (i := 5) (oi := { dst := some 47, op := Op.lookup 78 (Operand.tmp 45) (Operand.tmp 46) true, type := 82, pos := "writer.go:35", after := #[⟨3, .data⟩, ⟨4, .data⟩], guard := none }) (v := .tuple #[.agg #[], .bool true]) rfl (fun wx hS => ?_) hH ?_
      · have e1 := look_any (W3.out.below hS) ID IDL.out; rw [HIN.out] at e1; go_simp
      refine tk (i := 6) (oi := { dst := some 41, op := Op.move (Operand.tmp 47), type := 82, pos := "writer.go:35", after := #[⟨5, .data⟩], guard := none }) (v := .tuple #[.agg #[], .bool true]) rfl (fun wx hS => ?_) hH ?_
      · go_simp
      refine tk (i := 7) (oi := { dst := some 48, op := Op.extract (Operand.tmp 41) 0, type := 81, pos := "writer.go:35", after := #[⟨6, .data⟩], guard := none }) (v := .agg #[]) rfl (fun wx hS => ?_) hH ?_
      · go_simp
      refine tk (i := 8) (oi := { dst := some 49, op := Op.extract (Operand.tmp 41) 1, type := 4, pos := "writer.go:35", after := #[⟨6, .data⟩, ⟨10, .gcOnly .lateStores⟩], guard := none }) (v := .bool true) rfl (fun wx hS => ?_) hH ?_
      · go_simp
      refine wpAnyH_ready (rs := [9]) (by kernel_rfl) (by simp) ?_
      refine AllReadyH.cons (o := { dst := some 12, op := Op.alloc 81, type := 0, pos := "writer.go:35", after := #[], guard := none }) rfl (fun KK hKK => ?_) AllReadyH.nil
      have kb := alloc_below y0 (.cells #[] 81 (0, 0))
      have q_ub : blockIs (y0.alloc (.cells #[] 81 (0, 0))) y0.heap.size [] 81 := blockIs.new y0 [] 81
      have hub := hH.size
      have hN := hH.trans (kb.mono hH.size)
      clear hH kb
      go_simp
      refine hKK.out _ _ hN (fun hH => ?_)
      clear hKK KK hN
      try simp only [Act.put, List.setIfInBounds_toArray, List.set_cons_zero, List.set_cons_succ]
      generalize y0.alloc (.cells #[] 81) = y1 at *
      generalize y0.heap.size = ub at *
      refine wpAnyH_ready (rs := [10]) (by kernel_rfl) (by simp) ?_
      refine AllReadyH.cons (o := { dst := none, op := Op.store 81 (Operand.tmp 12) (Operand.tmp 48), type := 0, pos := "writer.go:35", after := #[⟨9, .data⟩, ⟨7, .data⟩, ⟨0, .phase⟩, ⟨1, .phase⟩, ⟨2, .phase⟩, ⟨3, .phase⟩, ⟨4, .phase⟩, ⟨5, .phase⟩, ⟨6, .phase⟩, ⟨7, .phase⟩, ⟨8, .textOnly .lateStores⟩, ⟨9, .phase⟩], guard := none }) rfl (fun KK hKK => ?_) AllReadyH.nil
      refine step_store_block (by rfl) 81 _ _ rfl ub 0 [] rfl rfl [] 81 q_ub info_unit (by simp) (by simp) ?_
      intro y2 P1 P2 P3
      have hN := hH.trans (P2.out.below hub hH.size)
      clear hH P1 P2 P3 q_ub
      refine hKK.out _ _ hN (fun hH => ?_)
      clear hKK KK hN
      try simp only [Act.put, List.setIfInBounds_toArray, List.set_cons_zero, List.set_cons_succ]
      refine wpAnyH_ready (rs := [11]) (by kernel_rfl) (by simp) ?_
      refine AllReadyH.cons (o := { dst := some 13, op := Op.assign (Operand.tmp 49), type := 4, pos := "writer.go:35", after := #[⟨8, .data⟩, ⟨10, .chain⟩, ⟨0, .phase⟩, ⟨1, .phase⟩, ⟨2, .phase⟩, ⟨3, .phase⟩, ⟨4, .phase⟩, ⟨5, .phase⟩, ⟨6, .phase⟩, ⟨7, .phase⟩, ⟨8, .phase⟩, ⟨9, .phase⟩, ⟨10, .phase⟩], guard := none }) rfl (fun KK hKK => ?_) AllReadyH.nil
      go_simp
      refine hKK.out _ _ hH (fun hH => ?_)
      clear hKK KK
      try simp only [Act.put, List.setIfInBounds_toArray, List.set_cons_zero, List.set_cons_succ]
      refine wpAnyH_done (by kernel_rfl) ?_ _
      refine NoPanic.normal ?_
      have A4 := Lib.hid (A3.out.trans (hH.mono A3.out.size))
      have W4 := Lib.hid (W3.out.below hH)
      have T4 := Lib.hid (T3.out.below hH T3.out.2.2.1 T3.out.2.2.2)
      have R4 := Lib.hid (R3.out.below hH R3.out.lt)
      have I4 := Lib.hid (I3.out.below hH I3.out.lt)
      clear hH W3 T3 R3 A3 I3 hub HIN
      go_wp2_with (first
        | (refine Ci.wpList_load_mid_if (by rfl) 24 _ rfl ib 0 rfl (byteCells ID) _ (Ci.range_of I4.out) Tryd.underlying24 rfl (by rw [infoId, byteCells_length, IDL.out]) ?_)
        | (refine wpList_store_block rfl 24 _ _ rfl rb 0 (byteCells ID) rfl rfl (zeros 32) 24 R4.out (by rw [infoId, byteCells_length, IDL.out]) (by simp [zeros, byteCells_length, IDL.out]) (byteCells_one _) ?_))
      intro w5 P1 P2 P3
      have P1 := P1.out
      rw [splice_all _ _ (by simp [zeros, byteCells_length, IDL.out])] at P1
      go_wp2_with fail
      refine bodyPost_ret (v := .tuple #[.agg (byteCells ID).toArray, .bool false, .int .i64 0]) (results_cell_two (p := 6) (t := 7) (u := 8) rfl _ _ rb _ rfl (run_loadVar_row _ _ 24 _ _ (0, 0) _ P1 Tryd.underlying24 rfl (by rw [infoId]; simp [byteCells_length, IDL.out]))) rfl ?_
      have KQ := (Kp.below (f := wF wb tb v1 v2 gm) A4.out).trans (Kp.but (f := fun i => i = rb) P2.out (Or.inl rfl)) fun i hi => Or.inr (by rw [HRB.out, hi]; exact Nat.le_refl _)
      exact ⟨by rw [HRR.out], v1, v2, gm, HRR.out ▸ (W4.out).but P2.out HBR.out HRN.out, KQ, fun k q => Or.inl q⟩
    · have HIN : Hid (decide (ID ∈ L.map En.id) = false) := Lib.hid (decide_eq_false hin)
      have hRR := HRR.out
      rw [if_neg hin] at hRR
      have HRR := Lib.hid hRR
      have NIN := Lib.hid hin
      clear hRR hin
      go_wp2_with fail
      refine wp_region_noPanic ?_
      refine wp_region_held_drew (S := fun X => Below w3.heap.size w3 X) (by kernel_rfl) (below_drew' (Below.refl _ _)) (fun hH => ?_)
      generalize w3.drew = y0 at *
      refine tk (i := 0) (oi := { dst := some 42, op := Op.move (Operand.tmp 0), type := 27, pos := "writer.go:35", after := #[], guard := none }) (v := .pointer (some ⟨wb, 0, none⟩)) rfl (fun wx hS => ?_) hH ?_
      · go_simp
      refine tk (i := 1) (oi := { dst := some 43, op := Op.nilCheck (Operand.tmp 42), type := 0, pos := "writer.go:35", after := #[⟨0, .data⟩], guard := none }) (v := .pointer (some ⟨wb, 0, none⟩)) rfl (fun wx hS => ?_) hH ?_
      · go_simp
      refine tk (i := 2) (oi := { dst := some 44, op := Op.fieldAddr 80 (Operand.tmp 43) 3, type := 0, pos := "writer.go:35", after := #[⟨1, .data⟩], guard := none }) (v := .pointer (some ⟨wb, 99, none⟩)) rfl (fun wx hS => ?_) hH ?_
      · go_simp
      refine tk (i := 3) (oi := { dst := some 45, op := Op.load 78 (Operand.tmp 44), type := 78, pos := "writer.go:35", after := #[⟨2, .data⟩], guard := none }) (v := .map gm) rfl (fun wx hS => ?_) hH ?_
      · have e1 := get99 PL.out (W3.out.below hS).i; go_simp
      refine tky (i := 4) (oi := { dst := some 46, op := Op.load 24 (Operand.tmp 11), type := 24, pos := "writer.go:35", after := #[], guard := none }) (v := .agg (byteCells ID).toArray) rfl (yieldsIf_load_mid (by rfl) 24 _ rfl ib 0 rfl (byteCells ID) _ (fun wx hS j u hj => ((I3.out.below hS I3.out.lt).cell (0 + j)).trans (by rw [Nat.zero_add]; exact hj)) Tryd.underlying24 rfl (by rw [infoId, byteCells_length, IDL.out])) hH ?_
      refine tk (i := 5) (oi := { dst := some 47, op := Op.lookup 78 (Operand.tmp 45) (Operand.tmp 46) true, type := 82, pos := "writer.go:35", after := #[⟨3, .data⟩, ⟨4, .data⟩], guard := none }) (v := .tuple #[.agg #[], .bool false]) rfl (fun wx hS => ?_) hH ?_
      · have e1 := look_any (W3.out.below hS) ID IDL.out; rw [HIN.out] at e1; go_simp
      refine tk (i := 6) (oi := { dst := some 41, op := Op.move (Operand.tmp 47), type := 82, pos := "writer.go:35", after := #[⟨5, .data⟩], guard := none }) (v := .tuple #[.agg #[], .bool false]) rfl (fun wx hS => ?_) hH ?_
      · go_simp
      refine tk (i := 7) (oi := { dst := some 48, op := Op.extract (Operand.tmp 41) 0, type := 81, pos := "writer.go:35", after := #[⟨6, .data⟩], guard := none }) (v := .agg #[]) rfl (fun wx hS => ?_) hH ?_
      · go_simp
      refine tk (i := 8) (oi := { dst := some 49, op := Op.extract (Operand.tmp 41) 1, type := 4, pos := "writer.go:35", after := #[⟨6, .data⟩, ⟨10, .gcOnly .lateStores⟩], guard := none }) (v := .bool false) rfl (fun wx hS => ?_) hH ?_
      · go_simp
      refine wpAnyH_ready (rs := [9]) (by kernel_rfl) (by simp) ?_
      refine AllReadyH.cons (o := { dst := some 12, op := Op.alloc 81, type := 0, pos := "writer.go:35", after := #[], guard := none }) rfl (fun KK hKK => ?_) AllReadyH.nil
      have kb := alloc_below y0 (.cells #[] 81 (0, 0))
      have q_ub : blockIs (y0.alloc (.cells #[] 81 (0, 0))) y0.heap.size [] 81 := blockIs.new y0 [] 81
      have hub := hH.size
      have hN := hH.trans (kb.mono hH.size)
      clear hH kb
      go_simp
      refine hKK.out _ _ hN (fun hH => ?_)
      clear hKK KK hN
      try simp only [Act.put, List.setIfInBounds_toArray, List.set_cons_zero, List.set_cons_succ]
      generalize y0.alloc (.cells #[] 81) = y1 at *
      generalize y0.heap.size = ub at *
      refine wpAnyH_ready (rs := [10]) (by kernel_rfl) (by simp) ?_
      refine AllReadyH.cons (o := { dst := none, op := Op.store 81 (Operand.tmp 12) (Operand.tmp 48), type := 0, pos := "writer.go:35", after := #[⟨9, .data⟩, ⟨7, .data⟩, ⟨0, .phase⟩, ⟨1, .phase⟩, ⟨2, .phase⟩, ⟨3, .phase⟩, ⟨4, .phase⟩, ⟨5, .phase⟩, ⟨6, .phase⟩, ⟨7, .phase⟩, ⟨8, .textOnly .lateStores⟩, ⟨9, .phase⟩], guard := none }) rfl (fun KK hKK => ?_) AllReadyH.nil
      refine step_store_block (by rfl) 81 _ _ rfl ub 0 [] rfl rfl [] 81 q_ub info_unit (by simp) (by simp) ?_
      intro y2 P1 P2 P3
      have hN := hH.trans (P2.out.below hub hH.size)
      clear hH P1 P2 P3 q_ub
      refine hKK.out _ _ hN (fun hH => ?_)
      clear hKK KK hN
      try simp only [Act.put, List.setIfInBounds_toArray, List.set_cons_zero, List.set_cons_succ]
      refine wpAnyH_ready (rs := [11]) (by kernel_rfl) (by simp) ?_
      refine AllReadyH.cons (o := { dst := some 13, op := Op.assign (Operand.tmp 49), type := 4, pos := "writer.go:35", after := #[⟨8, .data⟩, ⟨10, .chain⟩, ⟨0, .phase⟩, ⟨1, .phase⟩, ⟨2, .phase⟩, ⟨3, .phase⟩, ⟨4, .phase⟩, ⟨5, .phase⟩, ⟨6, .phase⟩, ⟨7, .phase⟩, ⟨8, .phase⟩, ⟨9, .phase⟩, ⟨10, .phase⟩], guard := none }) rfl (fun KK hKK => ?_) AllReadyH.nil
      go_simp
      refine hKK.out _ _ hH (fun hH => ?_)
      clear hKK KK
      try simp only [Act.put, List.setIfInBounds_toArray, List.set_cons_zero, List.set_cons_succ]
      refine wpAnyH_done (by kernel_rfl) ?_ _
      refine NoPanic.normal ?_
      have A4 := Lib.hid (A3.out.trans (hH.mono A3.out.size))
      have W4 := Lib.hid (W3.out.below hH)
      have T4 := Lib.hid (T3.out.below hH T3.out.2.2.1 T3.out.2.2.2)
      have R4 := Lib.hid (R3.out.below hH R3.out.lt)
      have I4 := Lib.hid (I3.out.below hH I3.out.lt)
      clear hH W3 T3 R3 A3 I3 hub HIN
      have CN := count_any wb PC v1 v2 (.map gm) base L.length _ y2 PL.out W4.out.i W4.out.e
      have ZN := size_any wb PC v1 v2 (.map gm) base B.length _ y2 PL.out W4.out.i W4.out.a
      have g1 : IntKind.i64.wrap ((B.length : Int) + (N : Int)) = (B.length : Int) + (N : Int) := by have := BM.out; have := NM.out; rw [IntWalk.i64_in _ (by omega)]
      have g2 : IntKind.i64.wrap ((B.length : Int) + (N : Int) + 48) = (B.length : Int) + (N : Int) + 48 := by have := BM.out; have := NM.out; rw [IntWalk.i64_in _ (by omega)]
      by_cases hc : L.length = 1000
      · have c1 : (L.length : Int) = 1000 := by omega
        have hRR := HRR.out
        rw [if_pos (Or.inl hc)] at hRR
        have HRR := Lib.hid hRR
        clear hRR hc TXA PWA
        go_wp2_with (first
          | (with_reducible refine CN.mono ?_; rintro e y3 ⟨rfl, rfl⟩)
          | (with_reducible refine ZN.mono ?_; rintro e y3 ⟨rfl, rfl⟩)
          | (refine wpList_store_block rfl 24 _ _ rfl rb 0 (zeros 32) rfl rfl (zeros 32) 24 R4.out (by rw [infoId]; rfl) (by simp [zeros]) zeros32_one ?_))
        intro w5 P1 P2 P3
        have P1 := P1.out
        rw [splice_all _ _ rfl, zeros_zero32] at P1
        go_wp2_with fail
        refine bodyPost_ret (v := .tuple #[.agg (byteCells zero32).toArray, .bool false, .int .i64 8]) (results_cell_two (p := 6) (t := 7) (u := 8) rfl _ _ rb _ rfl (run_loadVar_row _ _ 24 _ _ (0, 0) _ P1 Tryd.underlying24 rfl (by rw [infoId]; simp [byteCells_length, zero32]))) rfl ?_
        have KQ := (Kp.below (f := wF wb tb v1 v2 gm) A4.out).trans (Kp.but (f := fun i => i = rb) P2.out (Or.inl rfl)) fun i hi => Or.inr (by rw [HRB.out, hi]; exact Nat.le_refl _)
        exact ⟨by rw [HRR.out], v1, v2, gm, HRR.out ▸ (W4.out).but P2.out HBR.out HRN.out, KQ, fun k q => Or.inl q⟩
      have c1 : ¬ (L.length : Int) = 1000 := by omega
      by_cases hs : 900000 < B.length + N + 48
      · have c2 : (900000 : Int) < (B.length : Int) + (N : Int) + 48 := by omega
        have hRR := HRR.out
        rw [if_pos (Or.inr hs)] at hRR
        have HRR := Lib.hid hRR
        clear hRR hc hs TXA PWA
        go_wp2_with (first
          | (with_reducible refine CN.mono ?_; rintro e y3 ⟨rfl, rfl⟩)
          | (with_reducible refine ZN.mono ?_; rintro e y3 ⟨rfl, rfl⟩)
          | (refine wpList_store_block rfl 24 _ _ rfl rb 0 (zeros 32) rfl rfl (zeros 32) 24 R4.out (by rw [infoId]; rfl) (by simp [zeros]) zeros32_one ?_))
        intro w5 P1 P2 P3
        have P1 := P1.out
        rw [splice_all _ _ rfl, zeros_zero32] at P1
        go_wp2_with fail
        refine bodyPost_ret (v := .tuple #[.agg (byteCells zero32).toArray, .bool false, .int .i64 8]) (results_cell_two (p := 6) (t := 7) (u := 8) rfl _ _ rb _ rfl (run_loadVar_row _ _ 24 _ _ (0, 0) _ P1 Tryd.underlying24 rfl (by rw [infoId]; simp [byteCells_length, zero32]))) rfl ?_
        have KQ := (Kp.below (f := wF wb tb v1 v2 gm) A4.out).trans (Kp.but (f := fun i => i = rb) P2.out (Or.inl rfl)) fun i hi => Or.inr (by rw [HRB.out, hi]; exact Nat.le_refl _)
        exact ⟨by rw [HRR.out], v1, v2, gm, HRR.out ▸ (W4.out).but P2.out HBR.out HRN.out, KQ, fun k q => Or.inl q⟩
      have c1b : ((L.length : Int) == 1000) = false := by simpa using c1
      obtain ⟨zz, hzz⟩ : ∃ zz : Int, zz = (B.length : Int) + (N : Int) + 48 := ⟨_, rfl⟩
      rw [← hzz] at g2
      have g2 : IntKind.i64.wrap ((B.length : Int) + (N : Int) + 48) = zz := by rw [hzz] at g2 ⊢; exact g2
      have c2 : ¬ (900000 : Int) < zz := by omega
      clear hzz
      have hRR := HRR.out
      rw [if_neg (fun q => q.elim hc hs)] at hRR
      have HRR := Lib.hid hRR
      have BN : Hid (B.length + N + 48 ≤ 900000) := Lib.hid (by omega)
      clear hRR hc hs
      rcases SB with _ | ⟨s0, S0⟩
      · have := SEL.out; simp at this
      go_upto_region 12 with (first
        | (with_reducible refine CN.mono ?_; rintro e y3 ⟨rfl, rfl⟩)
        | (with_reducible refine ZN.mono ?_; rintro e y3 ⟨rfl, rfl⟩))
      clear c1 c1b c2 g1 g2 CN ZN
      refine wp_region_noPanic ?_
      refine wp_region_held_drew (S := fun X => blockIs X wb (PC ++ [v1, v2, .map gm]) 80 ∧ blockIs X ib (byteCells ID) 24) (by kernel_rfl) ⟨W4.out.i.drewN 1, I4.out.drewN 1⟩ (fun hH => ?_)
      have W5 := Lib.hid (W4.out.below (below_drew' (Below.refl _ _)))
      have A5 := Lib.hid (below_drew' A4.out)
      have T5 : Hid (tables y2.drew) := Lib.hid (T4.out.below (below_drew' (Below.refl _ _)) T4.out.2.2.1 T4.out.2.2.2)
      have R5 : Hid (blockIs y2.drew rb (zeros 32) 24) := Lib.hid (R4.out.drewN 1)
      clear W4 A4 T4 R4 I4
      generalize hz0e : y2.drew = z0 at *
      have TX1 := TXA.out z0
      clear hz0e TXA
      refine tk (i := 0) (oi := { dst := some 65, op := Op.move (Operand.tmp 0), type := 27, pos := "writer.go:42", after := #[], guard := none }) (v := .pointer (some ⟨wb, 0, none⟩)) rfl (fun wx hS => ?_) hH ?_
      · go_simp
      refine tk (i := 1) (oi := { dst := some 66, op := Op.nilCheck (Operand.tmp 65), type := 0, pos := "writer.go:42", after := #[⟨0, .data⟩], guard := none }) (v := .pointer (some ⟨wb, 0, none⟩)) rfl (fun wx hS => ?_) hH ?_
      · go_simp
      refine tk (i := 2) (oi := { dst := some 67, op := Op.fieldAddr 80 (Operand.tmp 66) 0, type := 0, pos := "writer.go:42", after := #[⟨1, .data⟩], guard := none }) (v := .pointer (some ⟨wb, 0, none⟩)) rfl (fun wx hS => ?_) hH ?_
      · go_simp
      refine tky (i := 3) (oi := { dst := some 68, op := Op.load 77 (Operand.tmp 67), type := 77, pos := "writer.go:42", after := #[⟨2, .data⟩], guard := none }) (v := .agg PC.toArray) rfl (yieldsIf_load_mid (by rfl) 77 _ rfl wb 0 rfl PC _ (fun wx hS => pen_all hS.1) Tryd.underlying77 rfl (by rw [infoPen, PL.out])) hH ?_
      refine tk (i := 4) (oi := { dst := some 69, op := Op.move (Operand.tmp 1), type := 3, pos := "writer.go:42", after := #[], guard := none }) (v := .int .i64 (V k8)) rfl (fun wx hS => ?_) hH ?_
      · go_simp
      refine tk (i := 5) (oi := { dst := some 70, op := Op.convert 3 5 (Operand.tmp 69), type := 5, pos := "writer.go:42", after := #[⟨4, .data⟩], guard := none }) (v := .int .u8 (V k8)) rfl (fun wx hS => ?_) hH ?_
      · go_simp
      refine tky (i := 6) (oi := { dst := some 71, op := Op.load 24 (Operand.tmp 11), type := 24, pos := "writer.go:42", after := #[], guard := none }) (v := .agg (byteCells ID).toArray) rfl (yieldsIf_load_mid (by rfl) 24 _ rfl ib 0 rfl (byteCells ID) _ (fun wx hS => Ci.range_of hS.2) Tryd.underlying24 rfl (by rw [infoId, byteCells_length, IDL.out])) hH ?_
      refine tk (i := 8) (oi := { dst := some 73, op := Op.move (Operand.tmp 2), type := 71, pos := "writer.go:42", after := #[], guard := none }) (v := .slice pa ls.length pc) rfl (fun wx hS => ?_) hH ?_
      · go_simp
      refine wpAnyH_ready (rs := [7]) (by kernel_rfl) (by simp) ?_
      refine AllReadyH.cons (o := { dst := some 72, op := Op.call { callee := Callee.value (Operand.func 27), args := #[Operand.tmp 71], argTypes := #[23] }, type := 9, pos := "writer.go:42", after := #[⟨6, .data⟩], guard := none }) rfl (fun KK hKK => ?_) AllReadyH.nil
      go_simp
      with_reducible refine TX1.mono ?_
      rintro e z1 ⟨rfl, kb⟩
      have hN := And.intro (hH.1.below kb hH.1.lt) (hH.2.below kb hH.2.lt)
      have W6 := Lib.hid (W5.out.below kb)
      have A6 := Lib.hid (A5.out.trans (kb.mono A5.out.size))
      have T6 := Lib.hid (T5.out.below kb T5.out.2.2.1 T5.out.2.2.2)
      have R6 := Lib.hid (R5.out.below kb R5.out.lt)
      clear hH kb W5 A5 T5 R5 TX1
      have PW := PWA.out z1 (But.of_below A6.out) T6.out W6.out.t
      clear PWA
      refine hKK.out _ _ hN (fun hH => ?_)
      clear hKK KK hN
      try simp only [Act.put, List.setIfInBounds_toArray, List.set_cons_zero, List.set_cons_succ]
      refine wpAnyH_ready (rs := [9]) (by kernel_rfl) (by simp) ?_
      refine AllReadyH.cons (o := { dst := some 74, op := Op.call { callee := Callee.value (Operand.func 26), args := #[Operand.tmp 68, Operand.tmp 70, Operand.tmp 72, Operand.tmp 73], argTypes := #[77, 5, 9, 71] }, type := 63, pos := "writer.go:42", after := #[⟨3, .data⟩, ⟨5, .data⟩, ⟨7, .data⟩, ⟨8, .data⟩, ⟨7, .chain⟩], guard := none }) rfl (fun KK hKK => ?_) AllReadyH.nil
      go_simp
      with_reducible refine PW.mono ?_
      rintro e z2 ⟨v, rfl, hv, htp, kb⟩
      have hN := And.intro (kb.is hH.1 W6.out.ne) (kb.is hH.2 (blk_ne hH.2 W6.out.t.is (by decide)))
      have W7 := Lib.hid (W6.out.tell kb htp)
      have K7 := Lib.hid ((Kp.below (f := wF wb tb v1 v2 gm) A6.out).trans (Kp.but (f := fun i => i = tb) kb (Or.inl rfl)) fun i hi => Or.inl (Or.inr (Or.inl hi)))
      have R7 := Lib.hid (kb.is R6.out (blk_ne R6.out W6.out.t.is (by decide)))
      have NV : Hid (∀ k, v.ownBlock = some k → v1.ownBlock ≠ some k) := Lib.hid (fun k h1 h2 => by have := (hv.lt _ h1).1; have := (W6.out.a.lt _ h2).2; omega)
      have OV := Lib.hid (show z2.ownsRow z1.heap.size 5 1 v (s0 :: S0).length (byteCells (s0 :: S0)) from hv)
      clear hH kb htp W6 A6 T6 R6 PW hv
      refine hKK.out _ _ hN (fun hH => ?_)
      clear hKK KK hN
      try simp only [Act.put, List.setIfInBounds_toArray, List.set_cons_zero, List.set_cons_succ]
      refine tk (i := 10) (oi := { dst := some 64, op := Op.move (Operand.tmp 74), type := 63, pos := "writer.go:42", after := #[⟨9, .data⟩], guard := none }) (v := .tuple #[v, .int .i64 0]) rfl (fun wx hS => ?_) hH ?_
      · go_simp
      refine tk (i := 11) (oi := { dst := some 75, op := Op.extract (Operand.tmp 64) 0, type := 30, pos := "writer.go:42", after := #[⟨10, .data⟩], guard := none }) (v := v) rfl (fun wx hS => ?_) hH ?_
      · go_simp
      refine tk (i := 12) (oi := { dst := some 76, op := Op.extract (Operand.tmp 64) 1, type := 25, pos := "writer.go:42", after := #[⟨10, .data⟩, ⟨13, .gcOnly .lateStores⟩], guard := none }) (v := .int .i64 0) rfl (fun wx hS => ?_) hH ?_
      · go_simp
      refine wpAnyH_ready (rs := [13]) (by kernel_rfl) (by simp) ?_
      refine AllReadyH.cons (o := { dst := some 14, op := Op.assign (Operand.tmp 75), type := 30, pos := "writer.go:42", after := #[⟨11, .data⟩, ⟨9, .chain⟩, ⟨0, .phase⟩, ⟨1, .phase⟩, ⟨2, .phase⟩, ⟨3, .phase⟩, ⟨4, .phase⟩, ⟨5, .phase⟩, ⟨6, .phase⟩, ⟨7, .phase⟩, ⟨8, .phase⟩, ⟨9, .phase⟩, ⟨10, .phase⟩, ⟨11, .phase⟩, ⟨12, .textOnly .lateStores⟩], guard := none }) rfl (fun KK hKK => ?_) AllReadyH.nil
      go_simp
      refine hKK.out _ _ hH (fun hH => ?_)
      clear hKK KK
      try simp only [Act.put, List.setIfInBounds_toArray, List.set_cons_zero, List.set_cons_succ]
      refine wpAnyH_ready (rs := [14]) (by kernel_rfl) (by simp) ?_
      refine AllReadyH.cons (o := { dst := some 15, op := Op.assign (Operand.tmp 76), type := 25, pos := "writer.go:42", after := #[⟨12, .data⟩, ⟨13, .chain⟩, ⟨0, .phase⟩, ⟨1, .phase⟩, ⟨2, .phase⟩, ⟨3, .phase⟩, ⟨4, .phase⟩, ⟨5, .phase⟩, ⟨6, .phase⟩, ⟨7, .phase⟩, ⟨8, .phase⟩, ⟨9, .phase⟩, ⟨10, .phase⟩, ⟨11, .phase⟩, ⟨12, .phase⟩, ⟨13, .phase⟩], guard := none }) rfl (fun KK hKK => ?_) AllReadyH.nil
      go_simp
      refine hKK.out _ _ hH (fun hH => ?_)
      clear hKK KK
      try simp only [Act.put, List.setIfInBounds_toArray, List.set_cons_zero, List.set_cons_succ]
      refine wpAnyH_done (by kernel_rfl) ?_ _
      refine NoPanic.normal ?_
      have I7 := Lib.hid hH.2
      clear hH
      go_wp2_with fail
      obtain ⟨vq, vc, rfl, -, -, -⟩ := own_form OV.out
      generalize hn0 : (s0 :: S0).length = n0 at *
      have HN0 := Lib.hid hn0
      clear hn0
      refine wp_region_noPanic ?_
      refine wp_region_held_drew (S := fun X => blockIs X ib (byteCells ID) 24) (by kernel_rfl) (I7.out.drewN 1) (fun hH => ?_)
      have W8 := Lib.hid (W7.out.below (below_drew' (Below.refl _ _)))
      have K8b := Lib.hid (K7.out.trans (Kp.below (f := fun _ => False) (below_drew' (Below.refl _ _))) fun _ q => q.elim)
      have R8 : Hid (blockIs z2.drew rb (zeros 32) 24) := Lib.hid (R7.out.drewN 1)
      have OV8 : Hid (z2.drew.ownsRow z1.heap.size 5 1 (.slice (some ⟨vq, 0, none⟩) n0 vc) n0 (byteCells (s0 :: S0))) := Lib.hid (row_kp OV.out (Kp.below (f := fun _ => False) (below_drew' (Below.refl _ _))) fun _ _ => id)
      clear W7 K7 R7 OV I7
      generalize z2.drew = z3 at *
      have ZN := size_any wb PC v1 v2 (.map gm) base B.length _ z3 PL.out W8.out.i W8.out.a
      have TK := tk_any wb base PC v1 v2 gm B L ⟨ID, V k8, B.length, n0⟩ _ _ s0 S0 z3 PL.out W8.out.i W8.out.a W8.out.e W8.out.s IDL.out NIN.out (by rw [HN0.out]; exact OV8.out) NV.out W8.out.b (by have := LM.out; omega) (by have := BN.out; have := SEL.out; have h0 := HN0.out; rw [List.length_cons] at h0; omega)
      refine tk (i := 0) (oi := { dst := some 81, op := Op.move (Operand.tmp 0), type := 27, pos := "writer.go:46", after := #[], guard := none }) (v := .pointer (some ⟨wb, 0, none⟩)) rfl (fun wx hS => ?_) hH ?_
      · go_simp
      refine tky (i := 1) (oi := { dst := some 82, op := Op.load 24 (Operand.tmp 11), type := 24, pos := "writer.go:46", after := #[], guard := none }) (v := .agg (byteCells ID).toArray) rfl (yieldsIf_load_mid (by rfl) 24 _ rfl ib 0 rfl (byteCells ID) _ (fun wx hS => Ci.range_of hS) Tryd.underlying24 rfl (by rw [infoId, byteCells_length, IDL.out])) hH ?_
      refine tk (i := 2) (oi := { dst := some 83, op := Op.move (Operand.tmp 1), type := 3, pos := "writer.go:46", after := #[], guard := none }) (v := .int .i64 (V k8)) rfl (fun wx hS => ?_) hH ?_
      · go_simp
      refine tk (i := 3) (oi := { dst := some 84, op := Op.move (Operand.tmp 0), type := 27, pos := "writer.go:46", after := #[], guard := none }) (v := .pointer (some ⟨wb, 0, none⟩)) rfl (fun wx hS => ?_) hH ?_
      · go_simp
      refine tk (i := 5) (oi := { dst := some 86, op := Op.move (Operand.tmp 14), type := 30, pos := "writer.go:46", after := #[], guard := none }) (v := .slice (some ⟨vq, 0, none⟩) n0 vc) rfl (fun wx hS => ?_) hH ?_
      · go_simp
      refine tk (i := 6) (oi := { dst := some 87, op := Op.call { callee := Callee.builtin Builtin.len, args := #[Operand.tmp 86], argTypes := #[30] }, type := 3, pos := "writer.go:46", after := #[⟨5, .data⟩], guard := none }) (v := .int .i64 (n0 : Int)) rfl (fun wx hS => ?_) hH ?_
      · go_simp
      refine tk (i := 8) (oi := { dst := some 89, op := Op.move (Operand.tmp 14), type := 30, pos := "writer.go:46", after := #[], guard := none }) (v := .slice (some ⟨vq, 0, none⟩) n0 vc) rfl (fun wx hS => ?_) hH ?_
      · go_simp
      refine wpAnyH_ready (rs := [4]) (by kernel_rfl) (by simp) ?_
      refine AllReadyH.cons (o := { dst := some 85, op := Op.call { callee := Callee.value (Operand.func 12), args := #[Operand.tmp 84], argTypes := #[27] }, type := 3, pos := "writer.go:46", after := #[⟨3, .data⟩], guard := none }) rfl (fun KK hKK => ?_) AllReadyH.nil
      go_simp
      with_reducible refine ZN.mono ?_
      rintro e z4 ⟨rfl, rfl⟩
      clear ZN
      refine hKK.out _ _ hH (fun hH => ?_)
      clear hKK KK
      try simp only [Act.put, List.setIfInBounds_toArray, List.set_cons_zero, List.set_cons_succ]
      refine tk (i := 7) (oi := { dst := some 88, op := Op.build 66 #[(0, Operand.tmp 82), (1, Operand.tmp 83), (2, Operand.tmp 85), (3, Operand.tmp 87)], type := 66, pos := "writer.go:46", after := #[⟨1, .data⟩, ⟨2, .data⟩, ⟨4, .data⟩, ⟨6, .data⟩], guard := none }) (v := .agg (En.cells ⟨ID, V k8, B.length, n0⟩).toArray) rfl (fun wx hS => ?_) hH ?_
      · exact run_buildO _ 66 _ rfl _ _ (buildEn ⟨ID, V k8, B.length, n0⟩ IDL.out wx) rfl
      refine wpAnyH_ready (rs := [9]) (by kernel_rfl) (by simp) ?_
      refine AllReadyH.cons (o := { dst := some 90, op := Op.call { callee := Callee.value (Operand.func 28), args := #[Operand.tmp 81, Operand.tmp 88, Operand.tmp 89], argTypes := #[27, 66, 30] }, type := 0, pos := "writer.go:46", after := #[⟨0, .data⟩, ⟨7, .data⟩, ⟨8, .data⟩, ⟨4, .chain⟩], guard := none }) rfl (fun KK hKK => ?_) AllReadyH.nil
      go_simp
      with_reducible refine TK.mono ?_
      rintro e z5 ⟨rfl, u1, u2, g, q1, q2, q3, q4, q5, q6, q7, q8, q9⟩
      have W9 := Lib.hid (W8.out.took q6 q1 q2 q3 q4 q5)
      have K9 := Lib.hid (K8b.out.trans q6 fun i hi => Or.inl (tk_w hi))
      have hN := q6.is hH fun q => W8.out.idF hH (tk_w q)
      have R9 := Lib.hid (q6.is R8.out fun q => W8.out.idF R8.out (tk_w q))
      have NF : Hid (∀ k, wF wb tb u1 u2 (some g) k → wF wb tb v1 v2 gm k ∨ w.heap.size ≤ k) := Lib.hid (newF (w := w) K8b.out.size q7 q8 q9)
      clear hH W8 K8b R8 OV8 q1 q2 q3 q4 q5 q6 q7 q8 q9 TK
      refine hKK.out _ _ hN (fun hH => ?_)
      clear hKK KK hN
      try simp only [Act.put, List.setIfInBounds_toArray, List.set_cons_zero, List.set_cons_succ]
      refine wpAnyH_done (by kernel_rfl) ?_ _
      refine NoPanic.normal ?_
      have I9 := Lib.hid hH
      clear hH
      go_wp2_with (first
        | (refine Ci.wpList_load_mid_if (by rfl) 24 _ rfl ib 0 rfl (byteCells ID) _ (Ci.range_of I9.out) Tryd.underlying24 rfl (by rw [infoId, byteCells_length, IDL.out]) ?_)
        | (refine wpList_store_block rfl 24 _ _ rfl rb 0 (byteCells ID) rfl rfl (zeros 32) 24 R9.out (by rw [infoId, byteCells_length, IDL.out]) (by simp [zeros, byteCells_length, IDL.out]) (byteCells_one _) ?_))
      intro z6 P1 P2 P3
      have P1 := P1.out
      rw [splice_all _ _ (by simp [zeros, byteCells_length, IDL.out])] at P1
      go_wp2_with fail
      refine bodyPost_ret (v := .tuple #[.agg (byteCells ID).toArray, .bool true, .int .i64 0]) (results_cell_two (p := 6) (t := 7) (u := 8) rfl _ _ rb _ rfl (run_loadVar_row _ _ 24 _ _ (0, 0) _ P1 Tryd.underlying24 rfl (by rw [infoId]; simp [byteCells_length, IDL.out]))) rfl ?_
      have KQ := K9.out.trans (Kp.but (f := fun i => i = rb) P2.out (Or.inl rfl)) fun i hi => Or.inr (by rw [HRB.out, hi]; exact Nat.le_refl _)
      have hRR := HRR.out
      rw [← SEL.out] at hRR
      exact ⟨by rw [hRR], u1, u2, some g, hRR ▸ (W9.out).but P2.out HBR.out (W9.out.idF R9.out), KQ, NF.out⟩
end Go.Proofs.YtfhlcondnaahiaaDoor
