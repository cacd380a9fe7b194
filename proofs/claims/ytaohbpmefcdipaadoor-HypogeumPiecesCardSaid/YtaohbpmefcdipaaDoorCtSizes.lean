/- The contract of Sizes. -/
import Derived.Test.YtaohbpmefcdipaaDoorCtVals
namespace Go.Proofs.YtaohbpmefcdipaaDoor.Ct
open Go.RowKit

def lenOf : Value → Nat
  | .slice _ n _ => n
  | _ => 0
theorem bytesIn.off {w w' : World} {g b : Nat} {a : Option Addr} {l : List UInt8} (h : bytesIn w a l) (hg : w.heap.size ≤ g) (hb : w.heap.size ≤ b) (hw : Below w.heap.size w w') : bytesOff w' g b a l := by
  rcases h with h | ⟨bb, bo, h1, h2⟩
  · exact Or.inl h
  · by_cases h0 : l = []
    · exact Or.inl h0
    · have hl : 0 < l.length := List.length_pos_iff.2 h0
      have := block_lt_of_cell (h2 0 hl)
      have hbb : bb < w.heap.size := this
      exact Or.inr ⟨bb, bo, h1, by omega, by omega, fun j hj => (hw.cell (p := ⟨bb, bo + j, none⟩) hbb).trans (h2 j hj)⟩
theorem bytesIn.drop {w : World} {a : Option Addr} {l : List UInt8} (h : bytesIn w a l) (k : Nat) : bytesIn w (a.map fun x => x.add k) (l.drop k) := by
  rcases h with h | ⟨bb, bo, rfl, h2⟩
  · exact Or.inl (by rw [h, List.drop_nil])
  · refine Or.inr ⟨bb, bo + k, by show some (Addr.add _ k) = _; rw [Addr.add_lit], fun j hj => ?_⟩
    rw [List.length_drop] at hj
    rw [show bo + k + j = bo + (k + j) by omega, h2 (k + j) (by omega)]
    simp [List.getD_eq_getElem?_getD, List.getElem?_drop]
set_option maxRecDepth 100000 in
set_option maxHeartbeats 4000000 in
theorem sizes_any (r : Rl) (hr : r.ok) (a : Option Addr) (l : List UInt8) (c : Nat) (w : World) (hlc : l.length ≤ c) (hc : l.length ≤ 500000) (h : bytesIn w a l) :
    Calls Tryd.prog 13 #[.agg #[.int .i64 (r.least : Int), .int .i64 (r.most : Int), .int .i64 (r.bits : Int), .int .u64 (U r.poly)], .slice a l.length c] w fun e w' => ∃ v, e = .returned (.tuple #[v, .int .i64 0]) ∧ rowV w' w.heap.size 3 v (ivals (r.sizes l)) ∧ Below w.heap.size w w' := by
  have H := Lib.hid h
  clear h
  go_enter Tryd.func13, Tryd.ntmps13
  go_wp2_with fail
  have H0 := Lib.hid ((Below.refl w.heap.size w).alloc (Nat.le_refl _) (.cells #[.int .i64 (r.least : Int), .int .i64 (r.most : Int), .int .i64 (r.bits : Int), .int .u64 (U r.poly)] 40 (0, 0)))
  generalize w.alloc (.cells #[.int .i64 (r.least : Int), .int .i64 (r.most : Int), .int .i64 (r.bits : Int), .int .u64 (U r.poly)] 40 (0, 0)) = w0 at *
  refine (cutnew_any r hr w0).mono ?_
  rintro e w1 ⟨k, g, b, rfl, hk, hg, hb, hkn, hbe⟩
  have G1 : Hid (w.heap.size ≤ k ∧ w.heap.size ≤ g ∧ w.heap.size ≤ b) := Lib.hid ⟨Nat.le_trans H0.out.size hk, Nat.le_trans H0.out.size hg, Nat.le_trans H0.out.size hb⟩
  have G2 : Hid (k < w1.heap.size ∧ g < w1.heap.size ∧ b < w1.heap.size) := Lib.hid ⟨hkn.kn.lt, hkn.roll.lt.1, hkn.roll.lt.2⟩
  have K1 := Lib.hid hkn
  have H1 := Lib.hid (H0.out.trans (hbe.mono H0.out.size))
  clear hk hg hb hkn hbe H0
  go_wp2_with fail
  go_loopw [1, 8] (fun s v wr => ∃ (xs : List Nat) (a' : Option Addr) (l' : List UInt8) (c' : Nat) (L : List UInt8), s = .slice a' l'.length c' ∧ Hid (r.sizes l = xs ++ r.sizes l') ∧ l'.length + xs.length ≤ l.length ∧ l'.length ≤ c' ∧ Hid (bytesIn w a' l') ∧ Hid (rowV wr w1.heap.size 3 v (ivals xs)) ∧ Hid (KnifeAt wr k g b r (.slice none 0 0) L) ∧ Hid (fitW L []) ∧ Hid (Below w.heap.size w wr) ∧ Hid (w1.heap.size ≤ wr.heap.size)) (fun s _ _ => lenOf s)
  case atStart => exact ⟨[], a, l, c, _, rfl, Lib.hid rfl, by simp, hlc, H, Lib.hid (rowV.nil _ _ _), K1, Lib.hid fitW_new, H1, Lib.hid (Nat.le_refl _)⟩
  case round =>
    obtain ⟨xs, a', l', c', L, rfl, X1, X2, X3, I1, R1, K1, F1, B1, Z1⟩ := hrel
    by_cases h0 : l' = []
    · subst h0
      rw [r.sizes_nil, List.append_nil] at X1
      go_wp2_with fail
      go_ret2
      rw [X1.out]
      exact ⟨_, rfl, R1.out.mono H1.out.size, B1.out⟩
    · have h1 : 0 < l'.length := List.length_pos_iff.2 h0
      have h2 : (0 : Int) < (l'.length : Int) := by omega
      go_wp2_with fail
      refine (reach_any k g b r _ L [] a' l' c' wr K1.out F1.out X3 (by omega) (by simp) (I1.out.off G1.out.2.1 G1.out.2.2 B1.out)).mono ?_
      rintro e w2 ⟨rfl, L2, hk2, hf2, hb2⟩
      have n1 : 1 ≤ (r.reach [] l').1 := r.first_pos l' h0
      have n2 : (r.reach [] l').1 ≤ l'.length := r.first_le l'
      have S1 : Hid (r.sizes l = (xs ++ [(r.reach [] l').1]) ++ r.sizes (l'.drop (r.reach [] l').1)) := Lib.hid (by rw [X1.out, r.sizes_cons l' h0, List.append_assoc]; rfl)
      have K2 := Lib.hid hk2
      have F2 := Lib.hid (fitW_nil hf2)
      have R2 := Lib.hid (R1.out.kept hb2 G2.out.2.1 G2.out.2.2)
      have B2 := Lib.hid (B1.out.trans (hb2.below G1.out.2.1 G1.out.2.2 B1.out.size))
      have Z2 : Hid (w1.heap.size ≤ w2.heap.size) := Lib.hid (Nat.le_trans Z1.out hb2.size)
      clear hk2 hf2 hb2 R1 B1 K1 X1
      generalize (r.reach [] l').1 = n at *
      generalize (r.reach [] l').2 = q at *
      go_wp2_with (at_builtin; refine append_vals rfl _ _ 23 3 rfl Tryd.underlying23 (.int .i64 0) 8 info_int rfl (by decide) w1.heap.size _ (ivals xs) rfl (R2.out.below ((Below.refl _ _).alloc (Nat.le_refl _) _) (Nat.le_refl _)) (some ⟨w2.heap.size, 0, none⟩) 1 1 [.int .i64 (n : Int)] rfl rfl (fun h => by cases h) (vals_one _ _) (fun u hu => by rw [List.mem_singleton.1 hu]; rfl) (by rw [ivals_length]; simp; omega) (Nat.le_trans Z2.out (by simp)) ?_)
      intro v3 w3 hown hgr
      have hbl := rowV.grew (R2.out.below ((Below.refl _ _).alloc (Nat.le_refl _) (.cells #[.int .i64 (n : Int)] 3 (0, 0))) (Nat.le_refl _)) (Nat.le_trans Z2.out (by simp)) hgr
      have hb3 : Below w1.heap.size w2 w3 := ((Below.refl w1.heap.size w2).alloc Z2.out _).trans hbl
      have K3 := Lib.hid (K2.out.belowB hb3 G2.out.1 G2.out.2.1 G2.out.2.2)
      have B3 := Lib.hid (B2.out.trans (hb3.mono H1.out.size))
      have Z3 : Hid (w1.heap.size ≤ w3.heap.size) := Lib.hid (Nat.le_trans Z2.out hb3.size)
      have R3 : Hid (rowV w3 w1.heap.size 3 v3 (ivals (xs ++ [n]))) := Lib.hid (by rw [ivals_append]; exact hown)
      clear hbl hb3 hown hgr K2 B2 R2 Z2
      have i0 : 0 ≤ (n : Int) := by omega
      have i1 : (n : Int) ≤ (l'.length : Int) := by omega
      have i2 : (n : Int) ≤ (c' : Int) := by omega
      go_wp2_with fail
      go_roundw
      case rel =>
        refine ⟨xs ++ [n], (if c' = n then a' else Option.map (fun x => x.add n) a'), l'.drop n, c' - n, L2, by rw [List.length_drop], S1, by simp; omega, by rw [List.length_drop]; omega, Lib.hid ?_, R3, K3, F2, B3, Z3⟩
        by_cases hcn : c' = n
        · rw [if_pos hcn]; exact Or.inl (List.drop_of_length_le (by omega))
        · rw [if_neg hcn]; exact I1.out.drop n
      case measure => simp [lenOf]; omega
end Go.Proofs.YtaohbpmefcdipaaDoor.Ct
