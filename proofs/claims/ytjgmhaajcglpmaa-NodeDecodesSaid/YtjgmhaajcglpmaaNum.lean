/- The contracts of number and Num. -/
import Derived.Test.YtjgmhaajcglpmaaOut
namespace Go.Proofs.Ytjgmhaajcglpmaa
open Go.RowKit

theorem row_ne {w : World} {B k : Nat} {cs : List Value} {v : Value} {F : List UInt8} (h : blockIs w k cs 82) (hr : rowIs w B v F) : ∀ g, v.ownBlock = some g → g ≠ k := by
  intro g hg e
  subst e
  rcases hr.2 with ⟨rfl, h0⟩ | ⟨g', cap, cur, rfl, hba, hh, hn, hc, hs, ht⟩
  · cases hg
  · cases hg
    unfold blockIs at h
    rw [h] at hh
    simp at hh
/-- Blocks of other things than bytes are as they were, but block k. -/
def KeptT (k : Nat) (w w' : World) : Prop := w.heap.size ≤ w'.heap.size ∧ ∀ j, j < w.heap.size → j ≠ k → (∀ cur fz, w.heap[j]? ≠ some (.cells cur 5 fz)) → w'.heap[j]? = w.heap[j]?
theorem KeptT.refl (k : Nat) (w : World) : KeptT k w w := ⟨Nat.le_refl _, fun _ _ _ _ => rfl⟩
theorem KeptT.trans {k : Nat} {x y z : World} (h : KeptT k x y) (g : KeptT k y z) : KeptT k x z :=
  ⟨Nat.le_trans h.1 g.1, fun j hj hk ht => by
    have e := h.2 j hj hk ht
    exact (g.2 j (Nat.lt_of_lt_of_le hj h.1) hk (fun cur fz => by rw [e]; exact ht cur fz)).trans e⟩
theorem KeptT.setCell {k : Nat} {x y : World} (h : KeptT k x y) (o : Nat) (v : Value) : KeptT k x (y.setCell ⟨k, o, none⟩ v) :=
  ⟨by simpa [World.setCell] using h.1, fun j hj hk ht => by
    rw [heap_setCell_other y ⟨k, o, none⟩ j v hk]
    exact h.2 j hj hk ht⟩
theorem KeptT.alloc {k : Nat} {x y : World} (h : KeptT k x y) (o : Obj) : KeptT k x (y.alloc o) :=
  ⟨Nat.le_trans h.1 (by simp), fun j hj hk ht => by
    rw [Below.heap_alloc y o j (Nat.lt_of_lt_of_le hj h.1)]
    exact h.2 j hj hk ht⟩
theorem KeptT.grown {k B : Nat} {w w' : World} {v : Value} {F : List UInt8} (hr : rowIs w B v F) (hg : w.grownBy w' v.ownBlock) : KeptT k w w' :=
  ⟨hg.size, fun j hj _ ht => hg.block j hj (fun e => by
    rcases hr.2 with ⟨rfl, h0⟩ | ⟨g', cap, cur, rfl, hba, hh, hn, hc, hs, htt⟩
    · cases e
    · cases e
      exact ht _ _ hh)⟩
theorem KeptT.is {k b : Nat} {w w' : World} {cs : List Value} {t : TypeId} (h : KeptT k w w') (hb : blockIs w b cs t) (hk : b ≠ k) (ht : t ≠ 5) : blockIs w' b cs t := by
  unfold blockIs at hb ⊢
  rw [h.2 b (Array.getElem?_eq_some_iff.1 hb).1 hk (fun cur fz e => by rw [hb] at e; simp at e; exact ht e.2.1)]
  exact hb
theorem KeptT.of_below {k B : Nat} {w w' : World} (h : Below w.heap.size w w') : KeptT k w w' := ⟨h.size, fun j hj _ _ => h.block j hj⟩
/-- What was appended is the writer's. -/
theorem out_put {w w' : World} {B k : Nat} {v v' : Value} {e : Int} {F' : List UInt8} (hB : B ≤ k) (hk : blockIs w k [v, .int .i64 e] 82) (hne : ∀ g, v.ownBlock = some g → g ≠ k) (hg : w.grownBy w' v.ownBlock) (hr : rowIs w' B v' F') : OutAt (w'.setCell ⟨k, 0, none⟩ v') B k (F', e) := by
  have h1 : blockIs w' k [v, .int .i64 e] 82 := by
    unfold blockIs at hk ⊢
    rw [hg.block k (Array.getElem?_eq_some_iff.1 hk).1 (fun e => hne k e.symm rfl)]
    exact hk
  have h2 := row_ne h1 hr
  exact ⟨v', hB, h1.set 0 v', ownsRow_setCell_other hr (fun e => h2 k e rfl) _, h2⟩
theorem out_kept {w w' : World} {k : Nat} {v : Value} {e : Int} (hk : blockIs w k [v, .int .i64 e] 82) (hne : ∀ g, v.ownBlock = some g → g ≠ k) (hg : w.grownBy w' v.ownBlock) : blockIs w' k [v, .int .i64 e] 82 := by
  unfold blockIs at hk ⊢
  rw [hg.block k (Array.getElem?_eq_some_iff.1 hk).1 (fun e => hne k e.symm rfl)]
  exact hk
theorem one_in {w : World} {b : UInt8} (t : TypeId) : bytesIn (w.alloc (.cells #[.int .u8 (V b)] t (0, 0))) (some ⟨w.heap.size, 0, none⟩) [b] := by
  refine Or.inr ⟨_, _, rfl, fun j hj => ?_⟩
  match j, hj with
  | 0, _ => rw [World.cell?_alloc_at _ _ _ _ rfl]; rfl
set_option maxRecDepth 100000 in
set_option maxHeartbeats 2000000 in
theorem number_any (B k : Nat) (s : List UInt8 × Int) (n : Int) (w : World) (h : OutAt w B k s) (hn : (Lit.int .i64 n).wf = true) (hl : s.1.length ≤ 500000000) :
    Calls Try.prog 51 #[.pointer (some ⟨k, 0, none⟩), .int .i64 n] w fun e w' => e = .returned (.tuple #[]) ∧ OutAt w' B k (outNum s n) ∧ Below B w w' ∧ KeptT k w w' := by
  have H := Lib.hid h
  obtain ⟨F, er⟩ := s
  by_cases h0 : er = 0
  · subst h0
    have t1 : decide ((F, (0 : Int)).2 = 0) = true := rfl
    by_cases hbad : n < 0 ∨ 4611686018427387904 ≤ n
    · have e1 : outNum (F, 0) n = (F, 1) := by simp [outNum, hbad]
      have c1 := h.fault
      obtain ⟨v, hv1, hv2, hv3, hv4⟩ := h
      have f1 := hv2.free 1
      rw [e1]
      clear hv1 hv2 hv3 hv4 e1
      go_enter Try.func51, Try.ntmps51
      go_wp2_with fail
      with_reducible refine (takes_any B k _ w H.out).mono ?_
      rintro e w' ⟨rfl, rfl⟩
      go_wp2_with fail
      all_goals first
        | (exfalso; omega)
        | ((try simp only [Exit.inBlock, Exit.then])
           refine bodyPost_ret (results_none rfl _ _ _) rfl ?_
           exact ⟨rfl, H.out.setFault 1, (Below.refl B w).setCell H.out.lt.1 _, (KeptT.refl k w).setCell 1 _⟩)
    · obtain ⟨N, rfl⟩ : ∃ N : Nat, n = (N : Int) := ⟨n.toNat, by omega⟩
      have e1 : outNum (F, 0) (N : Int) = (F ++ numBytes N, 0) := by simp [outNum, hbad]
      have hN : N < 4611686018427387904 := by omega
      have n9 := numBytes_nine N hN
      rw [e1]
      clear e1 h
      have q0 : 0 ≤ (N : Int) := by omega
      have q1 : (N : Int) ≤ 4611686018427387903 := by omega
      go_enter Try.func51, Try.ntmps51
      go_wp2_with fail
      with_reducible refine (takes_any B k _ w H.out).mono ?_
      rintro e w' ⟨rfl, rfl⟩
      go_wp2_with fail
      go_loopw [1] (fun i wr => ∃ (m : Nat) (G : List UInt8), i = .int .i64 (m : Int) ∧ m ≤ N ∧ Hid (F ++ numBytes N = G ++ numBytes m) ∧ Hid (OutAt wr B k (G, 0)) ∧ Hid (Below B w wr) ∧ Hid (KeptT k w wr)) (fun i _ => (intOf i).toNat)
      case atStart => exact ⟨N, F, rfl, Nat.le_refl _, Lib.hid rfl, H, Lib.hid (Below.refl _ _), Lib.hid (KeptT.refl _ _)⟩
      case round =>
        obtain ⟨m, G, rfl, hm, E1, K1, K2, K3⟩ := hrel
        have hGl : G.length ≤ 500000009 := by
          have := congrArg List.length E1.out
          rw [List.length_append, List.length_append] at this
          have := numBytes_pos m
          omega
        obtain ⟨v, hv1, hv2, hv3, hv4⟩ := K1.out
        have c0 : wr.cell? ⟨k, 0, none⟩ = some v := by rw [hv2.cell]; rfl
        have V1 := Lib.hid hv1
        have V2 := Lib.hid hv2
        have V3 := Lib.hid hv3
        have V4 := Lib.hid hv4
        have HBW : Hid (B ≤ wr.heap.size) := Lib.hid (Nat.le_trans hv1 (Nat.le_of_lt hv2.lt))
        clear hv1 hv2 hv3 hv4
        have p0 : 0 ≤ (m : Int) := by omega
        have p1 : (m : Int) ≤ 4611686018427387903 := by omega
        by_cases hbig : m < 128
        · have hb := low_byte m hbig
          have q3 : (m : Int) < 128 := by omega
          have E2 : Hid (F ++ numBytes N = G ++ [UInt8.ofNat m]) := Lib.hid (by rw [E1.out, numBytes_small hbig])
          generalize UInt8.ofNat m = b at *
          go_wp2_with (at_builtin; refine append_bytes rfl _ _ rfl B _ G rfl (rowIs.below V3.out ((Below.refl _ _).alloc (Nat.le_refl _) _) (Nat.le_refl _)) (some ⟨wr.heap.size, 0, none⟩) 1 1 [b] rfl rfl (fun h => by cases h) (one_in _) (by simp; omega) (Nat.le_trans HBW.out (by simp)) ?_)
          intro v' w' hown hgr
          obtain ⟨va, vl, vc, rfl⟩ : ∃ va vl vc, v' = .slice va vl vc := by
            obtain ⟨va, vc, h, -, -, -⟩ := rowIs.bytes hown
            exact ⟨va, _, vc, h⟩
          have A2 := V2.out.alloc (.cells #[.int .u8 (V b)] 5 (0, 0))
          have A3 := out_kept A2 V4.out hgr
          have d0 : w'.cell? ⟨k, 0, none⟩ = some v := by rw [A3.cell]; rfl
          have f0 := A3.free 0
          have L1 := Lib.hid (out_put V1.out A2 V4.out hgr hown)
          have L2 := Lib.hid ((K2.out.trans (((Below.refl B wr).alloc HBW.out _).trans (rowIs.grew (rowIs.below V3.out ((Below.refl _ _).alloc (Nat.le_refl _) _) (Nat.le_refl _)) (Nat.le_trans HBW.out (by simp)) hgr))).setCell (p := ⟨k, 0, none⟩) V1.out (.slice va vl vc))
          have L3 := Lib.hid ((K3.out.trans (((KeptT.refl k wr).alloc _).trans (KeptT.grown (rowIs.below V3.out ((Below.refl _ _).alloc (Nat.le_refl _) _) (Nat.le_refl _)) hgr))).setCell 0 (.slice va vl vc))
          clear hown hgr A2 A3
          go_wp2_with fail
          go_end0
          exact ⟨rfl, by rw [E2.out]; exact L1.out, L2.out, L3.out⟩
        · have hb := or_byte m
          have hb2 : bits .or .u8 ((m : Int) % 256) 128 = V (UInt8.ofNat (m % 128 + 128)) := by rw [← hb, IntKind.wrap_u8]
          have q3 : ¬ (m : Int) < 128 := by omega
          have E2 : Hid (F ++ numBytes N = (G ++ [UInt8.ofNat (m % 128 + 128)]) ++ numBytes (m / 128)) := Lib.hid (by rw [E1.out, numBytes_big hbig]; simp)
          generalize UInt8.ofNat (m % 128 + 128) = b at *
          go_wp2_with (at_builtin; refine append_bytes rfl _ _ rfl B _ G rfl (rowIs.below V3.out ((Below.refl _ _).alloc (Nat.le_refl _) _) (Nat.le_refl _)) (some ⟨wr.heap.size, 0, none⟩) 1 1 [b] rfl rfl (fun h => by cases h) (one_in _) (by simp; omega) (Nat.le_trans HBW.out (by simp)) ?_)
          intro v' w' hown hgr
          obtain ⟨va, vl, vc, rfl⟩ : ∃ va vl vc, v' = .slice va vl vc := by
            obtain ⟨va, vc, h, -, -, -⟩ := rowIs.bytes hown
            exact ⟨va, _, vc, h⟩
          have A2 := V2.out.alloc (.cells #[.int .u8 (V b)] 5 (0, 0))
          have A3 := out_kept A2 V4.out hgr
          have d0 : w'.cell? ⟨k, 0, none⟩ = some v := by rw [A3.cell]; rfl
          have f0 := A3.free 0
          have L1 := Lib.hid (out_put V1.out A2 V4.out hgr hown)
          have L2 := Lib.hid ((K2.out.trans (((Below.refl B wr).alloc HBW.out _).trans (rowIs.grew (rowIs.below V3.out ((Below.refl _ _).alloc (Nat.le_refl _) _) (Nat.le_refl _)) (Nat.le_trans HBW.out (by simp)) hgr))).setCell (p := ⟨k, 0, none⟩) V1.out (.slice va vl vc))
          have L3 := Lib.hid ((K3.out.trans (((KeptT.refl k wr).alloc _).trans (KeptT.grown (rowIs.below V3.out ((Below.refl _ _).alloc (Nat.le_refl _) _) (Nat.le_refl _)) hgr))).setCell 0 (.slice va vl vc))
          clear hown hgr A2 A3
          go_wp2_with fail
          go_roundw
          case rel => exact ⟨m / 128, G ++ [b], by go_num, by omega, E2, L1, L2, L3⟩
          case measure => simp [intOf]; omega
  · have t1 : decide ((F, er).2 = 0) = false := by simpa using h0
    have e1 : outNum (F, er) n = (F, er) := by simp [outNum, h0]
    rw [e1]
    clear h e1
    go_enter Try.func51, Try.ntmps51
    go_wp2_with fail
    with_reducible refine (takes_any B k _ w H.out).mono ?_
    rintro e w' ⟨rfl, rfl⟩
    rw [t1]
    go_wp2_with fail
    (try simp only [Exit.inBlock, Exit.then])
    refine bodyPost_ret (results_none rfl _ _ _) rfl ?_
    exact ⟨rfl, H.out, Below.refl _ _, KeptT.refl _ _⟩
theorem outNum_len (s : List UInt8 × Int) (n : Int) : (outNum s n).1.length ≤ s.1.length + 9 := by
  unfold outNum
  split
  · omega
  · split
    · show s.1.length ≤ _
      omega
    · rename_i h
      show (s.1 ++ numBytes n.toNat).length ≤ _
      rw [List.length_append]
      have := numBytes_nine n.toNat (by omega)
      omega
theorem outNums_len (s : List UInt8 × Int) (l : List Int) : (outNums s l).1.length ≤ s.1.length + 9 * l.length := by
  induction l generalizing s with
  | nil => simp [outNums]
  | cons n l ih =>
    have h1 := ih (outNum s n)
    have h2 := outNum_len s n
    show (outNums (outNum s n) l).1.length ≤ _
    rw [List.length_cons]
    omega
theorem outNums_take (s : List UInt8 × Int) (l : List Int) (j : Nat) (h : j < l.length) : outNums s (l.take (j + 1)) = outNum (outNums s (l.take j)) (l.getD j 0) := by
  unfold outNums
  rw [List.take_succ_eq_append_getElem h, List.foldl_append]
  simp [h]
def zvals (l : List Int) : List Value := l.map (Value.int .i64)
theorem zvals_length (l : List Int) : (zvals l).length = l.length := by simp [zvals]
set_option maxRecDepth 100000 in
set_option maxHeartbeats 2000000 in
theorem nums_any (B k : Nat) (s : List UInt8 × Int) (a : Option Addr) (zs : List Int) (c : Nat) (w : World) (h : OutAt w B k s) (hwf : ∀ z ∈ zs, (Lit.int .i64 z).wf = true) (hl : s.1.length ≤ 100000000) (hz : zs.length ≤ 40000)
    (hv : ∀ w', Below B w w' → KeptT k w w' → valsIn w' a (zvals zs)) :
    Calls Try.prog 34 #[.pointer (some ⟨k, 0, none⟩), .slice a zs.length c] w fun e w' => e = .returned (.pointer (some ⟨k, 0, none⟩)) ∧ OutAt w' B k (outNums s zs) ∧ Below B w w' ∧ KeptT k w w' := by
  have H := Lib.hid h
  have HV := Lib.hid hv
  have HW := Lib.hid hwf
  clear h hv hwf
  go_enter Try.func34, Try.ntmps34
  go_wp2_with fail
  go_loopw [9] (fun i wr => ∃ j : Nat, j ≤ zs.length ∧ i = .int .i64 (j : Int) ∧ Hid (OutAt wr B k (outNums s (zs.take j))) ∧ Hid (Below B w wr) ∧ Hid (KeptT k w wr)) (fun i _ => zs.length - (intOf i).toNat)
  case atStart => exact ⟨0, Nat.zero_le _, rfl, H, Lib.hid (Below.refl _ _), Lib.hid (KeptT.refl _ _)⟩
  case round =>
    obtain ⟨j, hj, rfl, K1, K2, K3⟩ := hrel
    have p0 : 0 ≤ (j : Int) := by omega
    by_cases hlt : j < zs.length
    · have q0 : (j : Int) < (zs.length : Int) := by omega
      obtain ⟨bb, bo, rfl, d⟩ := (HV.out wr K2.out K3.out).at j (by rw [zvals_length]; exact hlt)
      have e1 : (zvals zs)[j]'(by rw [zvals_length]; exact hlt) = .int .i64 (zs.getD j 0) := by simp [zvals, hlt]
      rw [e1] at d
      clear e1
      have HT := Lib.hid (outNums_take s zs j hlt)
      have HX : Hid ((Lit.int .i64 (zs.getD j 0)).wf = true) := Lib.hid (by
        have : zs.getD j 0 = zs[j] := by simp [hlt]
        rw [this]
        exact HW.out _ (List.getElem_mem hlt))
      have HLN : Hid ((outNums s (zs.take j)).1.length ≤ 500000000) := Lib.hid (by
        have := outNums_len s (zs.take j)
        rw [List.length_take] at this
        omega)
      generalize zs.getD j 0 = x at *
      go_wp2_with fail
      with_reducible refine (number_any B k _ x wr K1.out HX.out HLN.out).mono ?_
      rintro e w2 ⟨rfl, ho, hb, hk⟩
      have L1 := Lib.hid ho
      have L2 := Lib.hid (K2.out.trans hb)
      have L3 := Lib.hid (K3.out.trans hk)
      clear ho hb hk
      rw [← HT.out] at L1
      go_wp2_with fail
      go_roundw
      case rel => exact ⟨j + 1, by omega, by go_num, L1, L2, L3⟩
      case measure => simp [intOf]; omega
    · obtain rfl : j = zs.length := by omega
      rw [List.take_length] at K1
      go_wp2_with fail
      go_ret
      exact ⟨rfl, K1.out, K2.out, K3.out⟩
end Go.Proofs.Ytjgmhaajcglpmaa
