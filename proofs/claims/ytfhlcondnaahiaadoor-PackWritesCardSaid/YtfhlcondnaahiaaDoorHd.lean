/- Numbers as bytes: plain words. -/
import Derived.Test.YtfhlcondnaahiaaDoorGlBase
import Derived.Lib.AppendStr
import Derived.Lib.SliceRun
import Derived.Laws.Concat
section
namespace Go.Proofs.YtfhlcondnaahiaaDoor.Gl
open Go.RowKit

def numBytes (n : Nat) : List UInt8 := if _h : n < 128 then [UInt8.ofNat n] else UInt8.ofNat (n % 128 + 128) :: numBytes (n / 128)
termination_by n
decreasing_by omega
theorem numBytes_small {n : Nat} (h : n < 128) : numBytes n = [UInt8.ofNat n] := by rw [numBytes, dif_pos h]
theorem numBytes_big {n : Nat} (h : ¬ n < 128) : numBytes n = UInt8.ofNat (n % 128 + 128) :: numBytes (n / 128) := by rw [numBytes, dif_neg h]
theorem numBytes_pos (n : Nat) : 0 < (numBytes n).length := by
  by_cases h : n < 128
  · rw [numBytes_small h]; simp
  · rw [numBytes_big h]; simp
theorem numBytes_le (k n : Nat) (h : n < 128 ^ (k + 1)) : (numBytes n).length ≤ k + 1 := by
  induction k generalizing n with
  | zero => rw [numBytes_small (by simpa using h)]; simp
  | succ k ih =>
    by_cases hn : n < 128
    · rw [numBytes_small hn]; simp
    · rw [numBytes_big hn, List.length_cons]
      refine Nat.succ_le_succ (ih (n / 128) ?_)
      rw [Nat.pow_succ] at h
      exact Nat.div_lt_of_lt_mul (by rw [Nat.mul_comm]; exact h)
theorem numBytes_nine (n : Nat) (h : n < 4611686018427387904) : (numBytes n).length ≤ 9 := numBytes_le 8 n (by
  have : (4611686018427387904 : Nat) ≤ 128 ^ (8 + 1) := by decide
  omega)
def outNum (s : List UInt8 × Int) (n : Int) : List UInt8 × Int := if s.2 ≠ 0 then s else if n < 0 ∨ 4611686018427387904 ≤ n then (s.1, 1) else (s.1 ++ numBytes n.toNat, 0)
def outNums (s : List UInt8 × Int) (l : List Int) : List UInt8 × Int := l.foldl outNum s
end Go.Proofs.YtfhlcondnaahiaaDoor.Gl
end
section
/- A writer in memory; the contracts of Begin, takes, number. -/
namespace Go.Proofs.YtfhlcondnaahiaaDoor.Gl
open Go.RowKit

def OutAt (w : World) (B k : Nat) (s : List UInt8 × Int) : Prop := ∃ v, B ≤ k ∧ blockIs w k [v, .int .i64 s.2] 144 ∧ rowIs w B v s.1 ∧ ∀ g, v.ownBlock = some g → g ≠ k
theorem OutAt.below {w w' : World} {B k : Nat} {s : List UInt8 × Int} (h : OutAt w B k s) (hb : Below w.heap.size w w') : OutAt w' B k s := by
  obtain ⟨v, h1, h2, h3, h4⟩ := h
  exact ⟨v, h1, h2.below hb h2.lt, rowIs.below h3 hb (Nat.le_refl _), h4⟩
theorem OutAt.mono {w : World} {B B' k : Nat} {s : List UInt8 × Int} (h : OutAt w B k s) (hb : B' ≤ B) : OutAt w B' k s := by
  obtain ⟨v, h1, h2, h3, h4⟩ := h
  exact ⟨v, by omega, h2, rowIs.mono h3 hb, h4⟩
theorem OutAt.fault {w : World} {B k : Nat} {s : List UInt8 × Int} (h : OutAt w B k s) : w.cell? ⟨k, 1, none⟩ = some (.int .i64 s.2) := by
  obtain ⟨v, h1, h2, h3, h4⟩ := h
  rw [h2.cell]; rfl
theorem OutAt.lt {w : World} {B k : Nat} {s : List UInt8 × Int} (h : OutAt w B k s) : B ≤ k ∧ k < w.heap.size := by
  obtain ⟨v, h1, h2, h3, h4⟩ := h
  exact ⟨h1, h2.lt⟩
theorem OutAt.setFault {w : World} {B k : Nat} {s : List UInt8 × Int} (h : OutAt w B k s) (e : Int) : OutAt (w.setCell ⟨k, 1, none⟩ (.int .i64 e)) B k (s.1, e) := by
  obtain ⟨v, h1, h2, h3, h4⟩ := h
  exact ⟨v, h1, h2.set 1 (.int .i64 e), ownsRow_setCell_other h3 (fun e => h4 k e rfl) _, h4⟩
set_option maxRecDepth 100000 in
theorem takes_any (B k : Nat) (s : List UInt8 × Int) (w : World) (h : OutAt w B k s) :
    Calls Tryd.prog 76 #[.pointer (some ⟨k, 0, none⟩)] w fun e w' => e = .returned (.bool (decide (s.2 = 0))) ∧ w = w' := by
  have c1 := h.fault
  clear h
  go_enter Tryd.func76, Tryd.ntmps76
  go_wp2_with fail
  go_ret
  exact ⟨ret_bool (by by_cases h : s.2 = 0 <;> simp [h]), rfl⟩
set_option maxRecDepth 100000 in
set_option maxHeartbeats 1000000 in
theorem begin_any (x : UInt8) (w : World) :
    Calls Tryd.prog 49 #[.int .u8 (V x)] w fun e w' => ∃ k, e = .returned (.pointer (some ⟨k, 0, none⟩)) ∧ OutAt w' w.heap.size k ([72, 89, x], 0) ∧ Below w.heap.size w w' := by
  go_enter Tryd.func49, Tryd.ntmps49
  go_wp2_with fail
  go_ret
  have R := rowIs.lit w w.heap.size [72, 89, x] #[.int .u8 72, .int .u8 89, .int .u8 (V x)] rfl 3 rfl (Nat.le_refl _) (by simp)
  have B1 := (Below.refl w.heap.size w).alloc (Nat.le_refl _) (.cells #[.int .u8 72, .int .u8 89, .int .u8 (V x)] 5 (0, 0))
  refine ⟨w.heap.size + 1, rfl, ⟨.slice (some ⟨w.heap.size, 0, none⟩) 3 3, by omega, ?_, ?_, ?_⟩, ?_⟩
  · exact blockIs.last _ _ _ _ (by simp)
  · exact rowIs.below R ((Below.refl _ _).alloc (Nat.le_refl _) _) (Nat.le_refl _)
  · intro g hg
    cases hg
    simp
  · exact B1.alloc B1.size _
theorem or_all : ∀ x : Fin 256, bits .or .u8 (x.val : Int) 128 = ((x.val % 128 + 128 : Nat) : Int) := by decide +kernel
theorem or_byte (m : Nat) : bits .or .u8 (IntKind.u8.wrap (m : Int)) 128 = V (UInt8.ofNat (m % 128 + 128)) := by
  have e1 : IntKind.u8.wrap (m : Int) = ((m % 256 : Nat) : Int) := by rw [IntKind.wrap_u8]; omega
  have h := or_all ⟨m % 256, Nat.mod_lt _ (by decide)⟩
  rw [e1, h]
  unfold V
  rw [UInt8.toNat_ofNat']
  show ((m % 256 % 128 + 128 : Nat) : Int) = _
  omega
theorem low_byte (m : Nat) (h : m < 128) : IntKind.u8.wrap (m : Int) = V (UInt8.ofNat m) := by
  unfold V
  rw [UInt8.toNat_ofNat', IntKind.wrap_u8]
  omega
end Go.Proofs.YtfhlcondnaahiaaDoor.Gl
end
section
/- The contracts of number and Num. -/
namespace Go.Proofs.YtfhlcondnaahiaaDoor.Gl
open Go.RowKit

theorem row_ne {w : World} {B k : Nat} {cs : List Value} {v : Value} {F : List UInt8} (h : blockIs w k cs 144) (hr : rowIs w B v F) : ∀ g, v.ownBlock = some g → g ≠ k := by
  intro g hg e
  subst e
  rcases hr.2 with ⟨rfl, h0⟩ | ⟨g', cap, cur, rfl, hba, hh, hn, hc, hs, ht⟩
  · cases hg
  · cases hg
    unfold blockIs at h
    rw [h] at hh
    simp at hh
def KeptT (k : Nat) (w w' : World) : Prop := w.heap.size ≤ w'.heap.size ∧ ∀ j, j < w.heap.size → j ≠ k → (∀ cur fz, w.heap[j]? ≠ some (.cells cur 5 fz)) → w'.heap[j]? = w.heap[j]?
theorem KeptT.refl (k : Nat) (w : World) : KeptT k w w := ⟨Nat.le_refl _, fun _ _ _ _ => rfl⟩
theorem KeptT.trans {k : Nat} {x y z : World} (h : KeptT k x y) (g : KeptT k y z) : KeptT k x z :=
  ⟨Nat.le_trans h.1 g.1, fun j hj hk ht => by
    have e := h.2 j hj hk ht
    exact (g.2 j (Nat.lt_of_lt_of_le hj h.1) hk (fun cur fz => by rw [e]; exact ht cur fz)).trans e⟩
theorem KeptT.setCell {k : Nat} {x y : World} (h : KeptT k x y) (o : Nat) (v : Value) : KeptT k x (y.setCell ⟨k, o, none⟩ v) :=
  ⟨by simpa [World.setCell] using h.1, fun j hj hk ht => by
    rw [heap_setCell_other y ⟨k, o, none⟩ j v hk]
    exact h.2 j hj hk ht⟩
theorem KeptT.alloc {k : Nat} {x y : World} (h : KeptT k x y) (o : Obj) : KeptT k x (y.alloc o) :=
  ⟨Nat.le_trans h.1 (by simp), fun j hj hk ht => by
    rw [Below.heap_alloc y o j (Nat.lt_of_lt_of_le hj h.1)]
    exact h.2 j hj hk ht⟩
theorem KeptT.grown {k B : Nat} {w w' : World} {v : Value} {F : List UInt8} (hr : rowIs w B v F) (hg : w.grownBy w' v.ownBlock) : KeptT k w w' :=
  ⟨hg.size, fun j hj _ ht => hg.block j hj (fun e => by
    rcases hr.2 with ⟨rfl, h0⟩ | ⟨g', cap, cur, rfl, hba, hh, hn, hc, hs, htt⟩
    · cases e
    · cases e
      exact ht _ _ hh)⟩
theorem KeptT.is {k b : Nat} {w w' : World} {cs : List Value} {t : TypeId} (h : KeptT k w w') (hb : blockIs w b cs t) (hk : b ≠ k) (ht : t ≠ 5) : blockIs w' b cs t := by
  unfold blockIs at hb ⊢
  rw [h.2 b (Array.getElem?_eq_some_iff.1 hb).1 hk (fun cur fz e => by rw [hb] at e; simp at e; exact ht e.2.1)]
  exact hb
theorem KeptT.of_below {k B : Nat} {w w' : World} (h : Below w.heap.size w w') : KeptT k w w' := ⟨h.size, fun j hj _ _ => h.block j hj⟩
theorem out_put {w w' : World} {B k : Nat} {v v' : Value} {e : Int} {F' : List UInt8} (hB : B ≤ k) (hk : blockIs w k [v, .int .i64 e] 144) (hne : ∀ g, v.ownBlock = some g → g ≠ k) (hg : w.grownBy w' v.ownBlock) (hr : rowIs w' B v' F') : OutAt (w'.setCell ⟨k, 0, none⟩ v') B k (F', e) := by
  have h1 : blockIs w' k [v, .int .i64 e] 144 := by
    unfold blockIs at hk ⊢
    rw [hg.block k (Array.getElem?_eq_some_iff.1 hk).1 (fun e => hne k e.symm rfl)]
    exact hk
  have h2 := row_ne h1 hr
  exact ⟨v', hB, h1.set 0 v', ownsRow_setCell_other hr (fun e => h2 k e rfl) _, h2⟩
theorem out_kept {w w' : World} {k : Nat} {v : Value} {e : Int} (hk : blockIs w k [v, .int .i64 e] 144) (hne : ∀ g, v.ownBlock = some g → g ≠ k) (hg : w.grownBy w' v.ownBlock) : blockIs w' k [v, .int .i64 e] 144 := by
  unfold blockIs at hk ⊢
  rw [hg.block k (Array.getElem?_eq_some_iff.1 hk).1 (fun e => hne k e.symm rfl)]
  exact hk
theorem one_in {w : World} {b : UInt8} (t : TypeId) : bytesIn (w.alloc (.cells #[.int .u8 (V b)] t (0, 0))) (some ⟨w.heap.size, 0, none⟩) [b] := by
  refine Or.inr ⟨_, _, rfl, fun j hj => ?_⟩
  match j, hj with
  | 0, _ => rw [World.cell?_alloc_at _ _ _ _ rfl]; rfl
set_option maxRecDepth 100000 in
set_option maxHeartbeats 2000000 in
theorem number_any (B k : Nat) (s : List UInt8 × Int) (n : Int) (w : World) (h : OutAt w B k s) (hn : (Lit.int .i64 n).wf = true) (hl : s.1.length ≤ 500000000) :
    Calls Tryd.prog 75 #[.pointer (some ⟨k, 0, none⟩), .int .i64 n] w fun e w' => e = .returned (.tuple #[]) ∧ OutAt w' B k (outNum s n) ∧ Below B w w' ∧ KeptT k w w' := by
  have H := Lib.hid h
  obtain ⟨F, er⟩ := s
  by_cases h0 : er = 0
  · subst h0
    have t1 : decide ((F, (0 : Int)).2 = 0) = true := rfl
    by_cases hbad : n < 0 ∨ 4611686018427387904 ≤ n
    · have e1 : outNum (F, 0) n = (F, 1) := by simp [outNum, hbad]
      have c1 := h.fault
      obtain ⟨v, hv1, hv2, hv3, hv4⟩ := h
      have f1 := hv2.free 1
      rw [e1]
      clear hv1 hv2 hv3 hv4 e1
      go_enter Tryd.func75, Tryd.ntmps75
      go_wp2_with fail
      with_reducible refine (takes_any B k _ w H.out).mono ?_
      rintro e w' ⟨rfl, rfl⟩
      go_wp2_with fail
      all_goals first
        | (exfalso; omega)
        | ((try simp only [Exit.inBlock, Exit.then])
           refine bodyPost_ret (results_none rfl _ _ _) rfl ?_
           exact ⟨rfl, H.out.setFault 1, (Below.refl B w).setCell H.out.lt.1 _, (KeptT.refl k w).setCell 1 _⟩)
    · obtain ⟨N, rfl⟩ : ∃ N : Nat, n = (N : Int) := ⟨n.toNat, by omega⟩
      have e1 : outNum (F, 0) (N : Int) = (F ++ numBytes N, 0) := by simp [outNum, hbad]
      have hN : N < 4611686018427387904 := by omega
      have n9 := numBytes_nine N hN
      rw [e1]
      clear e1 h
      have q0 : 0 ≤ (N : Int) := by omega
      have q1 : (N : Int) ≤ 4611686018427387903 := by omega
      go_enter Tryd.func75, Tryd.ntmps75
      go_wp2_with fail
      with_reducible refine (takes_any B k _ w H.out).mono ?_
      rintro e w' ⟨rfl, rfl⟩
      go_wp2_with fail
      go_loopw [1] (fun i wr => ∃ (m : Nat) (G : List UInt8), i = .int .i64 (m : Int) ∧ m ≤ N ∧ Hid (F ++ numBytes N = G ++ numBytes m) ∧ Hid (OutAt wr B k (G, 0)) ∧ Hid (Below B w wr) ∧ Hid (KeptT k w wr)) (fun i _ => (intOf i).toNat)
      case atStart => exact ⟨N, F, rfl, Nat.le_refl _, Lib.hid rfl, H, Lib.hid (Below.refl _ _), Lib.hid (KeptT.refl _ _)⟩
      case round =>
        obtain ⟨m, G, rfl, hm, E1, K1, K2, K3⟩ := hrel
        have hGl : G.length ≤ 500000009 := by
          have := congrArg List.length E1.out
          rw [List.length_append, List.length_append] at this
          have := numBytes_pos m
          omega
        obtain ⟨v, hv1, hv2, hv3, hv4⟩ := K1.out
        have c0 : wr.cell? ⟨k, 0, none⟩ = some v := by rw [hv2.cell]; rfl
        have V1 := Lib.hid hv1
        have V2 := Lib.hid hv2
        have V3 := Lib.hid hv3
        have V4 := Lib.hid hv4
        have HBW : Hid (B ≤ wr.heap.size) := Lib.hid (Nat.le_trans hv1 (Nat.le_of_lt hv2.lt))
        clear hv1 hv2 hv3 hv4
        have p0 : 0 ≤ (m : Int) := by omega
        have p1 : (m : Int) ≤ 4611686018427387903 := by omega
        by_cases hbig : m < 128
        · have hb := low_byte m hbig
          have q3 : (m : Int) < 128 := by omega
          have E2 : Hid (F ++ numBytes N = G ++ [UInt8.ofNat m]) := Lib.hid (by rw [E1.out, numBytes_small hbig])
          generalize UInt8.ofNat m = b at *
          go_wp2_with (at_builtin; refine append_bytes rfl _ _ rfl B _ G rfl (rowIs.below V3.out ((Below.refl _ _).alloc (Nat.le_refl _) _) (Nat.le_refl _)) (some ⟨wr.heap.size, 0, none⟩) 1 1 [b] rfl rfl (fun h => by cases h) (one_in _) (by simp; omega) (Nat.le_trans HBW.out (by simp)) ?_)
          intro v' w' hown hgr
          obtain ⟨va, vl, vc, rfl⟩ : ∃ va vl vc, v' = .slice va vl vc := by
            obtain ⟨va, vc, h, -, -, -⟩ := rowIs.bytes hown
            exact ⟨va, _, vc, h⟩
          have A2 := V2.out.alloc (.cells #[.int .u8 (V b)] 5 (0, 0))
          have A3 := out_kept A2 V4.out hgr
          have d0 : w'.cell? ⟨k, 0, none⟩ = some v := by rw [A3.cell]; rfl
          have f0 := A3.free 0
          have L1 := Lib.hid (out_put V1.out A2 V4.out hgr hown)
          have L2 := Lib.hid ((K2.out.trans (((Below.refl B wr).alloc HBW.out _).trans (rowIs.grew (rowIs.below V3.out ((Below.refl _ _).alloc (Nat.le_refl _) _) (Nat.le_refl _)) (Nat.le_trans HBW.out (by simp)) hgr))).setCell (p := ⟨k, 0, none⟩) V1.out (.slice va vl vc))
          have L3 := Lib.hid ((K3.out.trans (((KeptT.refl k wr).alloc _).trans (KeptT.grown (rowIs.below V3.out ((Below.refl _ _).alloc (Nat.le_refl _) _) (Nat.le_refl _)) hgr))).setCell 0 (.slice va vl vc))
          clear hown hgr A2 A3
          go_wp2_with fail
          go_end0
          exact ⟨rfl, by rw [E2.out]; exact L1.out, L2.out, L3.out⟩
        · have hb := or_byte m
          have hb2 : bits .or .u8 ((m : Int) % 256) 128 = V (UInt8.ofNat (m % 128 + 128)) := by rw [← hb, IntKind.wrap_u8]
          have q3 : ¬ (m : Int) < 128 := by omega
          have E2 : Hid (F ++ numBytes N = (G ++ [UInt8.ofNat (m % 128 + 128)]) ++ numBytes (m / 128)) := Lib.hid (by rw [E1.out, numBytes_big hbig]; simp)
          generalize UInt8.ofNat (m % 128 + 128) = b at *
          go_wp2_with (at_builtin; refine append_bytes rfl _ _ rfl B _ G rfl (rowIs.below V3.out ((Below.refl _ _).alloc (Nat.le_refl _) _) (Nat.le_refl _)) (some ⟨wr.heap.size, 0, none⟩) 1 1 [b] rfl rfl (fun h => by cases h) (one_in _) (by simp; omega) (Nat.le_trans HBW.out (by simp)) ?_)
          intro v' w' hown hgr
          obtain ⟨va, vl, vc, rfl⟩ : ∃ va vl vc, v' = .slice va vl vc := by
            obtain ⟨va, vc, h, -, -, -⟩ := rowIs.bytes hown
            exact ⟨va, _, vc, h⟩
          have A2 := V2.out.alloc (.cells #[.int .u8 (V b)] 5 (0, 0))
          have A3 := out_kept A2 V4.out hgr
          have d0 : w'.cell? ⟨k, 0, none⟩ = some v := by rw [A3.cell]; rfl
          have f0 := A3.free 0
          have L1 := Lib.hid (out_put V1.out A2 V4.out hgr hown)
          have L2 := Lib.hid ((K2.out.trans (((Below.refl B wr).alloc HBW.out _).trans (rowIs.grew (rowIs.below V3.out ((Below.refl _ _).alloc (Nat.le_refl _) _) (Nat.le_refl _)) (Nat.le_trans HBW.out (by simp)) hgr))).setCell (p := ⟨k, 0, none⟩) V1.out (.slice va vl vc))
          have L3 := Lib.hid ((K3.out.trans (((KeptT.refl k wr).alloc _).trans (KeptT.grown (rowIs.below V3.out ((Below.refl _ _).alloc (Nat.le_refl _) _) (Nat.le_refl _)) hgr))).setCell 0 (.slice va vl vc))
          clear hown hgr A2 A3
          go_wp2_with fail
          go_roundw
          case rel => exact ⟨m / 128, G ++ [b], by go_num, by omega, E2, L1, L2, L3⟩
          case measure => simp [intOf]; omega
  · have t1 : decide ((F, er).2 = 0) = false := by simpa using h0
    have e1 : outNum (F, er) n = (F, er) := by simp [outNum, h0]
    rw [e1]
    clear h e1
    go_enter Tryd.func75, Tryd.ntmps75
    go_wp2_with fail
    with_reducible refine (takes_any B k _ w H.out).mono ?_
    rintro e w' ⟨rfl, rfl⟩
    rw [t1]
    go_wp2_with fail
    (try simp only [Exit.inBlock, Exit.then])
    refine bodyPost_ret (results_none rfl _ _ _) rfl ?_
    exact ⟨rfl, H.out, Below.refl _ _, KeptT.refl _ _⟩
theorem outNum_len (s : List UInt8 × Int) (n : Int) : (outNum s n).1.length ≤ s.1.length + 9 := by
  unfold outNum
  split
  · omega
  · split
    · show s.1.length ≤ _
      omega
    · rename_i h
      show (s.1 ++ numBytes n.toNat).length ≤ _
      rw [List.length_append]
      have := numBytes_nine n.toNat (by omega)
      omega
theorem outNums_len (s : List UInt8 × Int) (l : List Int) : (outNums s l).1.length ≤ s.1.length + 9 * l.length := by
  induction l generalizing s with
  | nil => simp [outNums]
  | cons n l ih =>
    have h1 := ih (outNum s n)
    have h2 := outNum_len s n
    show (outNums (outNum s n) l).1.length ≤ _
    rw [List.length_cons]
    omega
theorem outNums_take (s : List UInt8 × Int) (l : List Int) (j : Nat) (h : j < l.length) : outNums s (l.take (j + 1)) = outNum (outNums s (l.take j)) (l.getD j 0) := by
  unfold outNums
  rw [List.take_succ_eq_append_getElem h, List.foldl_append]
  simp [h]
def zvals (l : List Int) : List Value := l.map (Value.int .i64)
theorem zvals_length (l : List Int) : (zvals l).length = l.length := by simp [zvals]
set_option maxRecDepth 100000 in
set_option maxHeartbeats 2000000 in
theorem nums_any (B k : Nat) (s : List UInt8 × Int) (a : Option Addr) (zs : List Int) (c : Nat) (w : World) (h : OutAt w B k s) (hwf : ∀ z ∈ zs, (Lit.int .i64 z).wf = true) (hl : s.1.length ≤ 100000000) (hz : zs.length ≤ 40000)
    (hv : ∀ w', Below B w w' → KeptT k w w' → valsIn w' a (zvals zs)) :
    Calls Tryd.prog 50 #[.pointer (some ⟨k, 0, none⟩), .slice a zs.length c] w fun e w' => e = .returned (.pointer (some ⟨k, 0, none⟩)) ∧ OutAt w' B k (outNums s zs) ∧ Below B w w' ∧ KeptT k w w' := by
  have H := Lib.hid h
  have HV := Lib.hid hv
  have HW := Lib.hid hwf
  clear h hv hwf
  go_enter Tryd.func50, Tryd.ntmps50
  go_wp2_with fail
  go_loopw [9] (fun i wr => ∃ j : Nat, j ≤ zs.length ∧ i = .int .i64 (j : Int) ∧ Hid (OutAt wr B k (outNums s (zs.take j))) ∧ Hid (Below B w wr) ∧ Hid (KeptT k w wr)) (fun i _ => zs.length - (intOf i).toNat)
  case atStart => exact ⟨0, Nat.zero_le _, rfl, H, Lib.hid (Below.refl _ _), Lib.hid (KeptT.refl _ _)⟩
  case round =>
    obtain ⟨j, hj, rfl, K1, K2, K3⟩ := hrel
    have p0 : 0 ≤ (j : Int) := by omega
    by_cases hlt : j < zs.length
    · have q0 : (j : Int) < (zs.length : Int) := by omega
      obtain ⟨bb, bo, rfl, d⟩ := (HV.out wr K2.out K3.out).at j (by rw [zvals_length]; exact hlt)
      have e1 : (zvals zs)[j]'(by rw [zvals_length]; exact hlt) = .int .i64 (zs.getD j 0) := by simp [zvals, hlt]
      rw [e1] at d
      clear e1
      have HT := Lib.hid (outNums_take s zs j hlt)
      have HX : Hid ((Lit.int .i64 (zs.getD j 0)).wf = true) := Lib.hid (by
        have : zs.getD j 0 = zs[j] := by simp [hlt]
        rw [this]
        exact HW.out _ (List.getElem_mem hlt))
      have HLN : Hid ((outNums s (zs.take j)).1.length ≤ 500000000) := Lib.hid (by
        have := outNums_len s (zs.take j)
        rw [List.length_take] at this
        omega)
      generalize zs.getD j 0 = x at *
      go_wp2_with fail
      with_reducible refine (number_any B k _ x wr K1.out HX.out HLN.out).mono ?_
      rintro e w2 ⟨rfl, ho, hb, hk⟩
      have L1 := Lib.hid ho
      have L2 := Lib.hid (K2.out.trans hb)
      have L3 := Lib.hid (K3.out.trans hk)
      clear ho hb hk
      rw [← HT.out] at L1
      go_wp2_with fail
      go_roundw
      case rel => exact ⟨j + 1, by omega, by go_num, L1, L2, L3⟩
      case measure => simp [intOf]; omega
    · obtain rfl : j = zs.length := by omega
      rw [List.take_length] at K1
      go_wp2_with fail
      go_ret
      exact ⟨rfl, K1.out, K2.out, K3.out⟩
end Go.Proofs.YtfhlcondnaahiaaDoor.Gl
end
section
/- The contracts of text, Text and Flag. -/
namespace Go.Proofs.YtfhlcondnaahiaaDoor.Gl
open Go.RowKit

def str (l : List UInt8) : ByteArray := ⟨l.toArray⟩
theorem str_size (l : List UInt8) : (str l).size = l.length := by simp [str, ByteArray.size]
end Go.Proofs.YtfhlcondnaahiaaDoor.Gl
end
section
/- The contracts of Clone and Bytes; texts of bytes. -/
namespace Go.Proofs.YtfhlcondnaahiaaDoor.Gl
open Go.RowKit

set_option maxRecDepth 100000 in
set_option maxHeartbeats 1000000 in
theorem clone_any (a : Option Addr) (l : List UInt8) (c : Nat) (w : World) (hlc : l.length ≤ c) (h : bytesIn w a l) (hz : a = none → c = 0) (hl : l.length ≤ 900000000) :
    Calls Tryd.prog 54 #[.slice a l.length c] w fun e w' => ∃ v, e = .returned v ∧ rowIs w' w.heap.size v l ∧ Below w.heap.size w w' := by
  have q := fun (w : World) (a : Option Addr) (n c n' c' : Nat) => Go.Lib.run_eql_slice_nil (P := Tryd.prog) w 30 _ a n c n' c' Tryd.underlying30
  have H := Lib.hid h
  have Z := Lib.hid hz
  cases a with
  | none =>
    obtain rfl : l = [] := by
      rcases h with h0 | ⟨b, o', h1, _⟩
      · exact h0
      · cases h1
    obtain rfl := hz rfl
    clear h hz
    go_enter Tryd.func54, Tryd.ntmps54
    go_wp2_with fail
    go_ret
    exact ⟨_, rfl, World.ownsRow_nil _ _ _ _, Below.refl _ _⟩
  | some ad =>
    clear h hz
    go_enter Tryd.func54, Tryd.ntmps54
    go_wp2_with (at_builtin; refine append_bytes rfl _ _ rfl w.heap.size _ [] rfl (rowIs.empty _ _ (Nat.le_refl _)) (some ad) _ c l rfl rfl (fun h => by cases h) (H.out.below ((Below.refl w.heap.size w).alloc (Nat.le_refl _) _) (Nat.le_refl _)) (by simp; omega) (by simp) ?_)
    intro v1 w1 hown hgr
    have M := Lib.hid (((Below.refl w.heap.size w).alloc (Nat.le_refl _) _).trans ((rowIs.empty w w.heap.size (Nat.le_refl _)).grew (by simp) hgr))
    have R := Lib.hid hown
    clear hown hgr
    go_wp2_with fail
    go_ret
    exact ⟨_, rfl, R.out, M.out⟩
set_option maxRecDepth 100000 in
set_option maxHeartbeats 1000000 in
theorem bytes_ok (B k : Nat) (s : List UInt8 × Int) (w : World) (h : OutAt w B k s) (hs : s.2 = 0) (hl : s.1.length ≤ 900000000) :
    Calls Tryd.prog 52 #[.pointer (some ⟨k, 0, none⟩)] w fun e w' => ∃ v, e = .returned (.tuple #[v, .int .i64 0]) ∧ rowIs w' w.heap.size v s.1 ∧ Below w.heap.size w w' := by
  obtain ⟨F, er⟩ := s
  obtain rfl : er = 0 := hs
  obtain ⟨v, hv1, hv2, hv3, hv4⟩ := h
  have c0 : w.cell? ⟨k, 0, none⟩ = some v := by rw [hv2.cell]; rfl
  have c1 : w.cell? ⟨k, 1, none⟩ = some (.int .i64 0) := by rw [hv2.cell]; rfl
  obtain ⟨a, c, rfl, h1, h2, h3⟩ := rowIs.bytes hv3
  have I := Lib.hid h2
  have Z := Lib.hid h3
  clear hv1 hv2 hv3 hv4 h2 h3
  have h1' : F.length ≤ c := h1
  generalize hF : F.length = n at *
  go_enter Tryd.func52, Tryd.ntmps52
  go_wp2_with fail
  have P := clone_any a F c w (by rw [hF]; exact h1') I.out Z.out (by show F.length ≤ _; exact (by first | exact hl | omega))
  rw [hF] at P
  with_reducible refine P.mono ?_
  clear P
  rintro e w2 ⟨v2, rfl, hr, hb⟩
  have R := Lib.hid hr
  have M := Lib.hid hb
  clear hr hb
  go_wp2_with fail
  go_ret2
  exact ⟨_, rfl, R.out, M.out⟩
theorem conv_string (w : World) (a : Option Addr) (l : List UInt8) (c : Nat) (h : bytesIn w a l) : (convert 30 9 (.slice a l.length c)).run Tryd.prog w = .ok (.string (str l)) w := by
  cases a with
  | none =>
    rcases h with rfl | ⟨_, _, h, _⟩
    · rw [run_convert_bytes_nil w 30 5 Tryd.underlying30 Tryd.underlying5 _ _ 9 Tryd.underlying9]
      rfl
    · cases h
  | some ad =>
    rw [run_convert_bytes_string w 30 9 5 _ _ _ Tryd.underlying30 Tryd.underlying5 Tryd.underlying9]
    have hl : (loadCells ad l.length).run Tryd.prog w = .ok ((l.map fun b => (V b)).map (Value.int .u8)).toArray w := by
      have := run_loadCells_list (P := Tryd.prog) w ad ((l.map fun b => (V b)).map (Value.int .u8)) (fun j v hj => by
        rcases h with rfl | ⟨bb, bo, h1, h2⟩
        · simp at hj
        · cases h1
          have hjl : j < l.length := by
            have := (List.getElem?_eq_some_iff.1 hj).1
            simpa using this
          rw [Addr.add_lit, h2 j hjl, ← hj]
          simp [hjl])
      simpa using this
    rw [run_bytesToString w ad l.length c (l.map fun b => (V b)) hl, foldl_push_bytes]
    congr 2
    unfold str
    simp only [V, ByteArray.empty, ByteArray.emptyWithCapacity, List.map_map]
    have e : ((fun n : Int => UInt8.ofNat n.toNat) ∘ fun b : UInt8 => (b.toNat : Int)) = id := by funext b; simp
    rw [e]
    simp
    rfl
end Go.Proofs.YtfhlcondnaahiaaDoor.Gl
end
section
/- The contract of glyphs; literals as arguments. -/
namespace Go.Proofs.YtfhlcondnaahiaaDoor.Gl
open Go.RowKit

theorem lit_kept {B k : Nat} {w : World} {vs : List Value} {t : TypeId} (hk : k < w.heap.size) (ht : t ≠ 5) : ∀ w', Below B (w.alloc (.cells vs.toArray t (0, 0))) w' → KeptT k (w.alloc (.cells vs.toArray t (0, 0))) w' → valsIn w' (some ⟨w.heap.size, 0, none⟩) vs := fun w' _ h => by
  have hb := h.is (blockIs.new w vs t) (by omega) ht
  refine Or.inr ⟨_, _, rfl, fun j hj => ?_⟩
  rw [Nat.zero_add]
  exact hb.cell j
theorem OutAt.alloc {w : World} {B k : Nat} {s : List UInt8 × Int} (h : OutAt w B k s) (o : Obj) : OutAt (w.alloc o) B k s := h.below ((Below.refl _ _).alloc (Nat.le_refl _) _)
theorem begin_c (x : UInt8) (n : Int) (h : n = V x) (w : World) :
    Calls Tryd.prog 49 #[.int .u8 n] w fun e w' => ∃ k, e = .returned (.pointer (some ⟨k, 0, none⟩)) ∧ OutAt w' w.heap.size k ([72, 89, x], 0) ∧ Below w.heap.size w w' := by
  subst h
  exact begin_any x w
theorem num1 (B k : Nat) (s : List UInt8 × Int) (x : Int) (w : World) (h : OutAt w B k s) (hx : (Lit.int .i64 x).wf = true) (hl : s.1.length ≤ 100000000) :
    Calls Tryd.prog 50 #[.pointer (some ⟨k, 0, none⟩), .slice (some ⟨w.heap.size, 0, none⟩) 1 1] (w.alloc (.cells #[.int .i64 x] 3)) fun e w' => e = .returned (.pointer (some ⟨k, 0, none⟩)) ∧ OutAt w' B k (outNum s x) ∧ Below B w w' := by
  have P := nums_any B k s (some ⟨w.heap.size, 0, none⟩) [x] 1 (w.alloc (.cells #[.int .i64 x] 3)) (h.alloc _) (fun z hz => by rw [List.mem_singleton.1 hz]; exact hx) hl (by simp) (lit_kept (vs := [.int .i64 x]) (t := 3) h.lt.2 (by decide))
  refine P.mono ?_
  rintro e w' ⟨he, ho, hb, -⟩
  exact ⟨he, ho, ((Below.refl B w).alloc (Nat.le_trans h.lt.1 (Nat.le_of_lt h.lt.2)) _).trans hb⟩
end Go.Proofs.YtfhlcondnaahiaaDoor.Gl
end
section
/- hypogeumref06: Begin, Num, Text; the law's kind; Raw of one row. -/
namespace Go.Proofs.YtfhlcondnaahiaaDoor.Gl
open Go.RowKit

theorem str_append (a b : List UInt8) : str a ++ str b = str (a ++ b) := by
  unfold str
  rw [ByteArray.mk_append_mk]
theorem conv_one (w : World) (x : UInt8) (t : TypeId) : (convert 30 9 (.slice (some ⟨w.heap.size, 0, none⟩) 1 1)).run Tryd.prog (w.alloc (.cells #[.int .u8 (V x)] t (0, 0))) = .ok (.string (str [x])) (w.alloc (.cells #[.int .u8 (V x)] t (0, 0))) :=
  conv_string (w.alloc (.cells #[.int .u8 (V x)] t (0, 0))) (some ⟨w.heap.size, 0, none⟩) [x] 1 (one_in _)

set_option maxRecDepth 100000 in
set_option maxHeartbeats 1000000 in
theorem refBegin_any (x : UInt8) (w : World) :
    Calls Tryd.prog 34 #[.int .u8 (V x)] w fun e w' => e = .returned (.string (str [72, 89, x])) ∧ Below w.heap.size w w' := by
  have cv := conv_one w x 5
  have hs : (str [x]).size = 1 := str_size [x]
  have h2 : (⟨#[72, 89]⟩ : ByteArray) ++ str [x] = str [72, 89, x] := str_append [72, 89] [x]
  go_enter Tryd.func34, Tryd.ntmps34
  go_wp2_with fail
  go_ret
  exact ⟨rfl, (Below.refl _ _).alloc (Nat.le_refl _) _⟩

set_option maxRecDepth 100000 in
set_option maxHeartbeats 2000000 in
theorem refNum_any (n : Nat) (w : World) (hn : n < 4611686018427387904) :
    Calls Tryd.prog 35 #[.int .i64 n] w fun e w' => e = .returned (.string (str (numBytes n))) ∧ Below w.heap.size w w' := by
  have H9 := Lib.hid (numBytes_nine n hn)
  have HN := Lib.hid hn
  clear hn
  obtain ⟨R, hR⟩ : ∃ R, R = numBytes n := ⟨_, rfl⟩
  rw [← hR] at H9 ⊢
  have HR := Lib.hid hR
  clear hR
  go_enter Tryd.func35, Tryd.ntmps35
  go_wp2_with fail
  go_loopw [0, 3] (fun i s wr => ∃ (m : Nat) (S : List UInt8), i = .int .i64 m ∧ s = .string (str S) ∧ m ≤ n ∧ Hid (S ++ numBytes m = R) ∧ Below w.heap.size w wr) (fun i _ _ => (intOf i).toNat)
  case atStart => exact ⟨n, [], rfl, rfl, Nat.le_refl _, Lib.hid (by rw [HR.out]; rfl), Below.refl _ _⟩
  case round =>
    obtain ⟨m, S, rfl, rfl, hm, hS, hb⟩ := hrel
    have HB := Lib.hid hb
    clear hb
    have hn := HN.out
    have hl : S.length ≤ 9 := by
      have h1 := congrArg List.length hS.out
      have h2 := H9.out
      rw [List.length_append] at h1
      omega
    have hs := str_size S
    by_cases hlt : 128 ≤ m
    · have q0 : 128 ≤ (m : Int) := by omega
      have p0 : 0 ≤ (m : Int) := by omega
      obtain ⟨x, hx⟩ : ∃ x : UInt8, x = UInt8.ofNat (m % 128 + 128) := ⟨_, rfl⟩
      have e1 : IntKind.i64.wrap ((m : Int) % 128 + 128) = (m : Int) % 128 + 128 := IntWalk.i64_in _ (by omega)
      have e2 : IntKind.u8.wrap ((m : Int) % 128 + 128) = V x := by
        rw [hx, IntKind.wrap_u8']; unfold V; rw [UInt8.toNat_ofNat']; omega
      have e3 : IntKind.i64.wrap ((m : Int) / 128) = ((m / 128 : Nat) : Int) := by rw [IntWalk.i64_in _ (by omega)]; omega
      have HS : Hid ((S ++ [x]) ++ numBytes (m / 128) = R) := Lib.hid (by
        have h1 := hS.out
        rw [numBytes_big (by omega), ← hx] at h1
        rw [List.append_assoc]
        exact h1)
      clear hx
      have cv := conv_one wr x 5
      have hs1 : (str [x]).size = 1 := str_size [x]
      have h2 : str S ++ str [x] = str (S ++ [x]) := str_append S [x]
      have c0 : ¬ (9223372036854775807 < S.length + 1) := by omega
      go_wp2_with fail
      go_roundw
      case rel => exact ⟨m / 128, S ++ [x], rfl, rfl, by omega, HS, (HB.out.alloc HB.out.size _)⟩
      case measure => simp [intOf]; omega
    · have q0 : ¬ 128 ≤ (m : Int) := by omega
      obtain ⟨x, hx⟩ : ∃ x : UInt8, x = UInt8.ofNat m := ⟨_, rfl⟩
      have e2 : IntKind.u8.wrap (m : Int) = V x := by
        rw [hx, IntKind.wrap_u8']; unfold V; rw [UInt8.toNat_ofNat']; omega
      have HS : Hid (S ++ [x] = R) := Lib.hid (by
        have h1 := hS.out
        rw [numBytes_small (by omega), ← hx] at h1
        exact h1)
      clear hx
      have cv := conv_one wr x 5
      have hs1 : (str [x]).size = 1 := str_size [x]
      have h2 : str S ++ str [x] = str (S ++ [x]) := str_append S [x]
      have c0 : ¬ (9223372036854775807 < S.length + 1) := by omega
      go_wp2_with fail
      go_ret
      exact ⟨by rw [HS.out]; rfl, HB.out.alloc HB.out.size _⟩

end Go.Proofs.YtfhlcondnaahiaaDoor.Gl
end
section
/- One thing at a time: what the writer's calls leave as it was; Raw of one row; nobody's Bytes; the law's kind. -/
namespace Go.Proofs.YtfhlcondnaahiaaDoor.Gl
open Go.RowKit

def outRaw (s : List UInt8 × Int) (l : List UInt8) : List UInt8 × Int := if s.2 ≠ 0 then s else (s.1 ++ l, 0)
end Go.Proofs.YtfhlcondnaahiaaDoor.Gl
end
section
/- glyph: Raw of a literal of one row, wherever the literal lies. -/
namespace Go.Proofs.YtfhlcondnaahiaaDoor.Gl
open Go.RowKit

set_option maxRecDepth 100000 in
set_option maxHeartbeats 2000000 in
theorem raw1g (B k : Nat) (s : List UInt8 × Int) (a : Option Addr) (c : Nat) (l : List UInt8) (w0 : World) (q : Nat) (h : OutAt w0 B k s) (hb : bytesIn w0 a l) (hac : a = none → c = 0) (hs : s.1.length ≤ 100000000) (hl : l.length ≤ 100000000) (d : w0.cell? ⟨q, 0, none⟩ = some (.slice a l.length c)) :
    Calls Tryd.prog 51 #[.pointer (some ⟨k, 0, none⟩), .slice (some ⟨q, 0, none⟩) 1 1] w0 fun e w' => e = .returned (.pointer (some ⟨k, 0, none⟩)) ∧ OutAt w' B k (outRaw s l) ∧ Below B w0 w' ∧ KeptT k w0 w' := by
  have H := Lib.hid h
  have KB := Lib.hid (Below.refl B w0)
  have KK := Lib.hid (KeptT.refl k w0)
  have IN := Lib.hid hb
  have HA := Lib.hid hac
  clear h hb hac
  obtain ⟨F, er⟩ := s
  by_cases h0 : er = 0
  · subst h0
    have e1 : outRaw (F, 0) l = (F ++ l, 0) := by simp [outRaw]
    rw [e1]
    clear e1
    go_enter Tryd.func51, Tryd.ntmps51
    go_wp2_with fail
    with_reducible refine (takes_any B k _ w0 H.out).mono ?_
    rintro e w' ⟨rfl, rfl⟩
    go_wp2_with fail
    go_loopw [13] (fun i wr => (i = .int .i64 0 ∧ wr = w0) ∨ (i = .int .i64 1 ∧ Hid (OutAt wr B k (F ++ l, 0) ∧ Below B w0 wr ∧ KeptT k w0 wr))) (fun i _ => 1 - (intOf i).toNat)
    case atStart => exact Or.inl ⟨rfl, rfl⟩
    case round =>
      rcases hrel with ⟨rfl, rfl⟩ | ⟨rfl, hh⟩
      · obtain ⟨v, hv1, hv2, hv3, hv4⟩ := H.out
        have c0 : wr.cell? ⟨k, 0, none⟩ = some v := by rw [hv2.cell]; rfl
        have V1 := Lib.hid hv1
        have V2 := Lib.hid hv2
        have V3 := Lib.hid hv3
        have V4 := Lib.hid hv4
        have HBW : Hid (B ≤ wr.heap.size) := Lib.hid (Nat.le_trans hv1 (Nat.le_of_lt hv2.lt))
        clear hv1 hv2 hv3 hv4
        go_wp2_with (at_builtin; refine append_bytes rfl _ _ rfl B _ F rfl V3.out a l.length c l rfl rfl HA.out IN.out (by have : F.length ≤ 100000000 := hs; omega) HBW.out ?_)
        intro v' w' hown hgr
        obtain ⟨va, vl, vc, rfl⟩ : ∃ va vl vc, v' = .slice va vl vc := by
          obtain ⟨va, vc, h, -, -, -⟩ := rowIs.bytes hown
          exact ⟨va, _, vc, h⟩
        have A3 := out_kept V2.out V4.out hgr
        have d0 : w'.cell? ⟨k, 0, none⟩ = some v := by rw [A3.cell]; rfl
        have f0 := A3.free 0
        have L1 := Lib.hid (out_put V1.out V2.out V4.out hgr hown)
        have L2 := Lib.hid ((rowIs.grew V3.out HBW.out hgr).setCell (p := ⟨k, 0, none⟩) V1.out (.slice va vl vc))
        have L3 := Lib.hid ((KeptT.grown (k := k) V3.out hgr).setCell 0 (.slice va vl vc))
        clear hown hgr A3
        go_wp2_with fail
        go_roundw
        case rel => exact Or.inr ⟨rfl, Lib.hid ⟨L1.out, L2.out, L3.out⟩⟩
        case measure => simp [intOf]
      · go_wp2_with fail
        go_ret
        exact ⟨rfl, hh.out.1, KB.out.trans hh.out.2.1, KK.out.trans hh.out.2.2⟩
  · have t1 : decide ((F, er).2 = 0) = false := by simpa using h0
    have e1 : outRaw (F, er) l = (F, er) := by simp [outRaw, h0]
    rw [e1]
    clear e1
    go_enter Tryd.func51, Tryd.ntmps51
    go_wp2_with fail
    with_reducible refine (takes_any B k _ w0 H.out).mono ?_
    rintro e w' ⟨rfl, rfl⟩
    rw [t1]
    go_wp2_with fail
    go_ret
    exact ⟨rfl, H.out, KB.out, KK.out⟩
end Go.Proofs.YtfhlcondnaahiaaDoor.Gl
end
