/- The contract of DocSizes; a nil knife. -/
import Derived.Test.YtigknaefdnejfaaOne
namespace Go.Proofs.Ytigknaefdnejfaa
open Go.RowKit

theorem docsizes_bad (a b c : Int) (m : W) (x : Option Addr) (n k : Nat) (w : World) (h : ¬ okRule a b c m) :
    Calls Try.prog 20 #[.agg #[.int .i64 a, .int .i64 b, .int .i64 c, .int .u64 (U m)], .slice x n k] w fun e w' => e = .returned (.tuple #[.slice none 0 0, .int .i64 1]) ∧ Below w.heap.size w w' := by
  have t1 : decide (okRule a b c m) = false := by simpa using h
  clear h
  go_enter Try.func20, Try.ntmps20
  go_wp2_with fail
  with_reducible refine (refRight_any _ _ _ _ _).mono ?_
  rintro e w1 ⟨rfl, hb⟩
  have H1 := Lib.hid (((Below.refl w.heap.size w).alloc (Nat.le_refl _) _).trans (hb.mono (by simp)))
  clear hb
  go_wp2_with fail
  go_ret2
  exact ⟨rfl, H1.out⟩
theorem sizes_bad (a b c : Int) (m : W) (x : Option Addr) (n k : Nat) (w : World) (h : ¬ okRule a b c m) :
    Calls Try.prog 19 #[.agg #[.int .i64 a, .int .i64 b, .int .i64 c, .int .u64 (U m)], .slice x n k] w fun e w' => e = .returned (.tuple #[.slice none 0 0, .int .i64 1]) ∧ Below w.heap.size w w' := by
  have HH := Lib.hid h
  clear h
  go_enter Try.func19, Try.ntmps19
  go_wp2_with fail
  with_reducible refine (cutnew_bad _ _ _ _ _ HH.out).mono ?_
  rintro e w1 ⟨rfl, hb⟩
  have H1 := Lib.hid (((Below.refl w.heap.size w).alloc (Nat.le_refl _) _).trans (hb.mono (by simp)))
  clear hb
  go_wp2_with fail
  go_ret2
  exact ⟨rfl, H1.out⟩
theorem end_none (w : World) : Calls Try.prog 14 #[.pointer none] w fun e w' => e = .returned (.tuple #[.slice none 0 0, .bool false]) ∧ w = w' := by
  go_enter Try.func14, Try.ntmps14
  go_wp2_with fail
  go_ret2
  exact ⟨rfl, rfl⟩
theorem feed_none (a : Option Addr) (n c : Nat) (w : World) : Calls Try.prog 17 #[.pointer none, .slice a n c] w fun e w' => e = .returned (.slice none 0 0) ∧ w = w' := by
  go_enter Try.func17, Try.ntmps17
  go_wp2_with fail
  go_ret
  exact ⟨rfl, rfl⟩
theorem none_any (w : World) : Calls Try.prog 13 #[] w fun e w' => e = .returned (.pointer none) ∧ w = w' := by
  go_enter Try.func13, Try.ntmps13
  go_wp2_with fail
  go_ret
  exact ⟨rfl, rfl⟩
set_option maxRecDepth 100000 in
set_option maxHeartbeats 4000000 in
theorem docsizes_any (r : Rl) (hr : r.ok) (a : Option Addr) (l : List UInt8) (c : Nat) (w : World) (hlc : l.length ≤ c) (hc : l.length ≤ 500000) (h : bytesIn w a l) :
    Calls Try.prog 20 #[.agg #[.int .i64 (r.least : Int), .int .i64 (r.most : Int), .int .i64 (r.bits : Int), .int .u64 (U r.poly)], .slice a l.length c] w fun e w' => ∃ v, e = .returned (.tuple #[v, .int .i64 0]) ∧ rowV w' w.heap.size 3 v (ivals (r.sizes l)) ∧ Below w.heap.size w w' := by
  have H := Lib.hid h
  clear h
  have t1 : decide (okRule (r.least : Int) (r.most : Int) (r.bits : Int) r.poly) = true := decide_eq_true (by obtain ⟨h1, h2, h3, h4, h5, h6⟩ := hr; unfold okRule; omega)
  have B0 := Lib.hid (blockIs.new w (ruleCells (r.least : Int) (r.most : Int) (r.bits : Int) r.poly) 24)
  have H0 := Lib.hid ((Below.refl w.heap.size w).alloc (Nat.le_refl _) (.cells (ruleCells (r.least : Int) (r.most : Int) (r.bits : Int) r.poly).toArray 24 (0, 0)))
  go_enter Try.func20, Try.ntmps20
  go_wp2_with fail
  unfold ruleCells at H0
  have B0 : Hid (blockIs (w.alloc (.cells #[.int .i64 (r.least : Int), .int .i64 (r.most : Int), .int .i64 (r.bits : Int), .int .u64 (U r.poly)] 24 (0, 0))) w.heap.size (ruleCells (r.least : Int) (r.most : Int) (r.bits : Int) r.poly) 24) := B0
  generalize w.alloc (.cells #[.int .i64 (r.least : Int), .int .i64 (r.most : Int), .int .i64 (r.bits : Int), .int .u64 (U r.poly)] 24 (0, 0)) = w0 at *
  with_reducible refine (refRight_any _ _ _ _ _).mono ?_
  rintro e w1 ⟨rfl, hb⟩
  have H1 := Lib.hid (H0.out.trans (hb.mono H0.out.size))
  have B1 := Lib.hid (B0.out.below hb B0.out.lt)
  clear hb H0 B0
  go_wp2_with fail
  go_loopw [1, 6] (fun s v wr => ∃ (xs : List Nat) (a' : Option Addr) (l' : List UInt8) (c' : Nat), s = .slice a' l'.length c' ∧ Hid (r.sizes l = xs ++ r.sizes l') ∧ l'.length + xs.length ≤ l.length ∧ l'.length ≤ c' ∧ Hid (bytesIn w a' l') ∧ Hid (rowV wr w1.heap.size 3 v (ivals xs)) ∧ Hid (Below w1.heap.size w1 wr)) (fun s _ _ => lenOf s)
  case atStart => exact ⟨[], a, l, c, rfl, Lib.hid rfl, by simp, hlc, H, Lib.hid (rowV.nil _ _ _), Lib.hid (Below.refl _ _)⟩
  case round =>
    obtain ⟨xs, a', l', c', rfl, X1, X2, X3, I1, R1, K1⟩ := hrel
    have KB := Lib.hid (H1.out.trans (K1.out.mono H1.out.size))
    by_cases h0 : l' = []
    · subst h0
      rw [r.sizes_nil, List.append_nil] at X1
      go_wp2_with fail
      go_ret2
      rw [X1.out]
      exact ⟨_, rfl, R1.out.mono H1.out.size, KB.out⟩
    · have h1 : 0 < l'.length := List.length_pos_iff.2 h0
      have h2 : (0 : Int) < (l'.length : Int) := by omega
      have B2 := Lib.hid (B1.out.below K1.out B1.out.lt)
      have c0 : wr.cell? ⟨w.heap.size, 0, none⟩ = some (.int .i64 (r.least : Int)) := B2.out.cell 0
      have c1 : wr.cell? ⟨w.heap.size, 1, none⟩ = some (.int .i64 (r.most : Int)) := B2.out.cell 1
      have c2 : wr.cell? ⟨w.heap.size, 2, none⟩ = some (.int .i64 (r.bits : Int)) := B2.out.cell 2
      have c3 : wr.cell? ⟨w.heap.size, 3, none⟩ = some (.int .u64 (U r.poly)) := B2.out.cell 3
      go_wp2_with fail
      with_reducible refine (one_any r hr a' l' c' wr X3 (by omega) (I1.out.below KB.out (Nat.le_refl _))).mono ?_
      rintro e w2 ⟨rfl, hb2⟩
      have n1 : 1 ≤ r.first l' := r.first_pos l' h0
      have n2 : r.first l' ≤ l'.length := r.first_le l'
      have S1 : Hid (r.sizes l = (xs ++ [r.first l']) ++ r.sizes (l'.drop (r.first l'))) := Lib.hid (by rw [X1.out, r.sizes_cons l' h0, List.append_assoc]; rfl)
      have R2 := Lib.hid (R1.out.below hb2 (Nat.le_refl _))
      have K2 := Lib.hid (K1.out.trans (hb2.mono K1.out.size))
      clear hb2 R1 K1 X1 KB c0 c1 c2 c3 B2
      generalize r.first l' = n at *
      go_wp2_with (at_builtin; refine append_vals rfl _ _ 43 3 rfl Try.underlying43 (.int .i64 0) 8 info_int rfl (by decide) w1.heap.size _ (ivals xs) rfl (R2.out.below ((Below.refl _ _).alloc (Nat.le_refl _) _) (Nat.le_refl _)) (some ⟨w2.heap.size, 0, none⟩) 1 1 [.int .i64 (n : Int)] rfl rfl (fun h => by cases h) (vals_one _ _) (fun u hu => by rw [List.mem_singleton.1 hu]; rfl) (by rw [ivals_length]; simp; omega) (Nat.le_trans K2.out.size (by simp)) ?_)
      intro v3 w3 hown hgr
      have hbl := rowV.grew (R2.out.below ((Below.refl _ _).alloc (Nat.le_refl _) (.cells #[.int .i64 (n : Int)] 3 (0, 0))) (Nat.le_refl _)) (Nat.le_trans K2.out.size (by simp)) hgr
      have K3 := Lib.hid (K2.out.trans (((Below.refl w1.heap.size w2).alloc K2.out.size _).trans hbl))
      have R3 : Hid (rowV w3 w1.heap.size 3 v3 (ivals (xs ++ [n]))) := Lib.hid (by rw [ivals_append]; exact hown)
      clear hbl hown hgr K2 R2
      have i0 : 0 ≤ (n : Int) := by omega
      have i1 : (n : Int) ≤ (l'.length : Int) := by omega
      have i2 : (n : Int) ≤ (c' : Int) := by omega
      go_wp2_with fail
      go_roundw
      case rel =>
        refine ⟨xs ++ [n], (if c' = n then a' else Option.map (fun x => x.add n) a'), l'.drop n, c' - n, by rw [List.length_drop], S1, by simp; omega, by rw [List.length_drop]; omega, Lib.hid ?_, R3, K3⟩
        by_cases hcn : c' = n
        · rw [if_pos hcn]; exact Or.inl (List.drop_of_length_le (by omega))
        · rw [if_neg hcn]; exact I1.out.drop n
      case measure => simp [lenOf]; omega
end Go.Proofs.Ytigknaefdnejfaa
