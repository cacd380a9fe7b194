/- One thing at a time: what the writer's calls leave as it was; Raw of one row; nobody's Bytes; the law's kind. -/
import Derived.Test.YtjgmhaajcglpmaaRfs
namespace Go.Proofs.Ytjgmhaajcglpmaa
open Go.RowKit

def outRaw (s : List UInt8 × Int) (l : List UInt8) : List UInt8 × Int := if s.2 ≠ 0 then s else (s.1 ++ l, 0)
set_option maxRecDepth 100000 in
set_option maxHeartbeats 2000000 in
theorem raw1k (B k : Nat) (s : List UInt8 × Int) (a : Option Addr) (c : Nat) (l : List UInt8) (w : World) (h : OutAt w B k s) (hb : bytesIn w a l) (hac : a = none → c = 0) (hs : s.1.length ≤ 100000000) (hl : l.length ≤ 100000000) :
    Calls Try.prog 53 #[.pointer (some ⟨k, 0, none⟩), .slice (some ⟨w.heap.size, 0, none⟩) 1 1] (w.alloc (.cells #[.slice a l.length c] 40)) fun e w' => e = .returned (.pointer (some ⟨k, 0, none⟩)) ∧ OutAt w' B k (outRaw s l) ∧ Below B w w' ∧ KeptT k w w' := by
  have H := Lib.hid (h.alloc (.cells #[.slice a l.length c] 40))
  have KB := Lib.hid ((Below.refl B w).alloc (Nat.le_trans h.lt.1 (Nat.le_of_lt h.lt.2)) (.cells #[.slice a l.length c] 40))
  have KK := Lib.hid ((KeptT.refl k w).alloc (.cells #[.slice a l.length c] 40))
  have IN := Lib.hid (hb.below ((Below.refl w.heap.size w).alloc (Nat.le_refl _) (.cells #[.slice a l.length c] 40)) (Nat.le_refl _))
  have d : (w.alloc (.cells #[.slice a l.length c] 40)).cell? ⟨w.heap.size, 0, none⟩ = some (.slice a l.length c) := by rw [World.cell?_alloc_at _ _ _ _ rfl]; rfl
  have HA := Lib.hid hac
  clear h hb hac
  obtain ⟨F, er⟩ := s
  generalize w.alloc (.cells #[.slice a l.length c] 40) = w0 at *
  generalize w.heap.size = q at *
  by_cases h0 : er = 0
  · subst h0
    have e1 : outRaw (F, 0) l = (F ++ l, 0) := by simp [outRaw]
    rw [e1]
    clear e1
    go_enter Try.func53, Try.ntmps53
    go_wp2_with fail
    with_reducible refine (takes_any B k _ w0 H.out).mono ?_
    rintro e w' ⟨rfl, rfl⟩
    go_wp2_with fail
    go_loopw [13] (fun i wr => (i = .int .i64 0 ∧ wr = w0) ∨ (i = .int .i64 1 ∧ Hid (OutAt wr B k (F ++ l, 0) ∧ Below B w0 wr ∧ KeptT k w0 wr))) (fun i _ => 1 - (intOf i).toNat)
    case atStart => exact Or.inl ⟨rfl, rfl⟩
    case round =>
      rcases hrel with ⟨rfl, rfl⟩ | ⟨rfl, hh⟩
      · obtain ⟨v, hv1, hv2, hv3, hv4⟩ := H.out
        have c0 : wr.cell? ⟨k, 0, none⟩ = some v := by rw [hv2.cell]; rfl
        have V1 := Lib.hid hv1
        have V2 := Lib.hid hv2
        have V3 := Lib.hid hv3
        have V4 := Lib.hid hv4
        have HBW : Hid (B ≤ wr.heap.size) := Lib.hid (Nat.le_trans hv1 (Nat.le_of_lt hv2.lt))
        clear hv1 hv2 hv3 hv4
        go_wp2_with (at_builtin; refine append_bytes rfl _ _ rfl B _ F rfl V3.out a l.length c l rfl rfl HA.out IN.out (by have : F.length ≤ 100000000 := hs; omega) HBW.out ?_)
        intro v' w' hown hgr
        obtain ⟨va, vl, vc, rfl⟩ : ∃ va vl vc, v' = .slice va vl vc := by
          obtain ⟨va, vc, h, -, -, -⟩ := rowIs.bytes hown
          exact ⟨va, _, vc, h⟩
        have A3 := out_kept V2.out V4.out hgr
        have d0 : w'.cell? ⟨k, 0, none⟩ = some v := by rw [A3.cell]; rfl
        have f0 := A3.free 0
        have L1 := Lib.hid (out_put V1.out V2.out V4.out hgr hown)
        have L2 := Lib.hid ((rowIs.grew V3.out HBW.out hgr).setCell (p := ⟨k, 0, none⟩) V1.out (.slice va vl vc))
        have L3 := Lib.hid ((KeptT.grown (k := k) V3.out hgr).setCell 0 (.slice va vl vc))
        clear hown hgr A3
        go_wp2_with fail
        go_roundw
        case rel => exact Or.inr ⟨rfl, Lib.hid ⟨L1.out, L2.out, L3.out⟩⟩
        case measure => simp [intOf]
      · go_wp2_with fail
        go_ret
        exact ⟨rfl, hh.out.1, KB.out.trans hh.out.2.1, KK.out.trans hh.out.2.2⟩
  · have t1 : decide ((F, er).2 = 0) = false := by simpa using h0
    have e1 : outRaw (F, er) l = (F, er) := by simp [outRaw, h0]
    rw [e1]
    clear e1
    go_enter Try.func53, Try.ntmps53
    go_wp2_with fail
    with_reducible refine (takes_any B k _ w0 H.out).mono ?_
    rintro e w' ⟨rfl, rfl⟩
    rw [t1]
    go_wp2_with fail
    go_ret
    exact ⟨rfl, H.out, KB.out, KK.out⟩
theorem num1k (B k : Nat) (s : List UInt8 × Int) (x : Int) (w : World) (h : OutAt w B k s) (hx : (Lit.int .i64 x).wf = true) (hl : s.1.length ≤ 100000000) :
    Calls Try.prog 34 #[.pointer (some ⟨k, 0, none⟩), .slice (some ⟨w.heap.size, 0, none⟩) 1 1] (w.alloc (.cells #[.int .i64 x] 3)) fun e w' => e = .returned (.pointer (some ⟨k, 0, none⟩)) ∧ OutAt w' B k (outNum s x) ∧ Below B w w' ∧ KeptT k w w' := by
  have P := nums_any B k s (some ⟨w.heap.size, 0, none⟩) [x] 1 (w.alloc (.cells #[.int .i64 x] 3)) (h.alloc _) (fun z hz => by rw [List.mem_singleton.1 hz]; exact hx) hl (by simp) (lit_kept (vs := [.int .i64 x]) (t := 3) h.lt.2 (by decide))
  refine P.mono ?_
  rintro e w' ⟨he, ho, hb, hk⟩
  exact ⟨he, ho, ((Below.refl B w).alloc (Nat.le_trans h.lt.1 (Nat.le_of_lt h.lt.2)) _).trans hb, ((KeptT.refl k w).alloc _).trans hk⟩
theorem text1k (B k : Nat) (s : List UInt8 × Int) (l : List UInt8) (w : World) (h : OutAt w B k s) (hs : s.1.length ≤ 100000000) (hl : l.length ≤ 200000) :
    Calls Try.prog 52 #[.pointer (some ⟨k, 0, none⟩), .slice (some ⟨w.heap.size, 0, none⟩) 1 1] (w.alloc (.cells #[.string (str l)] 9)) fun e w' => e = .returned (.pointer (some ⟨k, 0, none⟩)) ∧ OutAt w' B k (outText s l) ∧ Below B w w' ∧ KeptT k w w' := by
  have P := texts_any B k s (some ⟨w.heap.size, 0, none⟩) [l] 1 (w.alloc (.cells #[.string (str l)] 9)) 200000 (fun z hz => by rw [List.mem_singleton.1 hz]; exact hl) (by decide) (by simp; omega) (h.alloc _) (lit_kept (vs := [.string (str l)]) (t := 9) h.lt.2 (by decide))
  refine P.mono ?_
  rintro e w' ⟨he, ho, hb, hk⟩
  exact ⟨he, ho, ((Below.refl B w).alloc (Nat.le_trans h.lt.1 (Nat.le_of_lt h.lt.2)) _).trans hb, ((KeptT.refl k w).alloc _).trans hk⟩
theorem bytes_nil (w : World) : Calls Try.prog 36 #[.pointer none] w fun e w' => e = .returned (.tuple #[.slice none 0 0, .int .i64 1]) ∧ w = w' := by
  go_enter Try.func36, Try.ntmps36
  go_wp2_with fail
  go_ret2
  exact ⟨rfl, rfl⟩
theorem kind_nat (a : Int) : ∃ q : Nat, q < 4 ∧ wrap64 ((IntKind.u64.wrap a).tmod 4) = (q : Int) := by
  have hw : 0 ≤ IntKind.u64.wrap a := by rw [IntKind.wrap_u64]; omega
  have h1 := Int.emod_lt_of_pos (IntKind.u64.wrap a) (show (0 : Int) < 4 by omega)
  have h0 := Int.emod_nonneg (IntKind.u64.wrap a) (show (4 : Int) ≠ 0 by omega)
  rw [Int.tmod_eq_emod_of_nonneg hw]
  refine ⟨(IntKind.u64.wrap a % 4).toNat, by omega, ?_⟩
  unfold wrap64
  omega
end Go.Proofs.Ytjgmhaajcglpmaa
