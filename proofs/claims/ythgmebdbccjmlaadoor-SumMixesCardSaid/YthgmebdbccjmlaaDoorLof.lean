/- The law SumOf: its walk. -/
import Derived.Test.YthgmebdbccjmlaaDoorTxt
import Derived.BigQuiet
import Derived.Deep.DeepCutAuto
namespace Go.Proofs.YthgmebdbccjmlaaDoor
open Go.RowKit Sha

/-- A number, cut down to one of 0 .. n, as the laws do. -/
theorem cut_num (z : Int) (n : Nat) (hn : n ≤ 1000000) : ∃ i : Nat, i ≤ n ∧ wrap64 ((IntKind.u64.wrap z).tmod ((n : Int) + 1)) = (i : Int) := by
  have hw := wrap_u64_nonneg z
  have h1 := Int.emod_lt_of_pos (IntKind.u64.wrap z) (show (0 : Int) < (n : Int) + 1 by omega)
  have h0 := Int.emod_nonneg (IntKind.u64.wrap z) (show ((n : Int) + 1) ≠ 0 by omega)
  rw [Int.tmod_eq_emod_of_nonneg hw]
  refine ⟨(IntKind.u64.wrap z % ((n : Int) + 1)).toNat, by omega, ?_⟩
  unfold wrap64
  omega

set_option maxRecDepth 100000 in
set_option maxHeartbeats 2000000 in
theorem law_sumOf (a : Option Addr) (c : Nat) (B : List UInt8) (one two : Int) (w : World) (hB : B.length ≤ c) (hc : c ≤ 140737488355328) (hin : bytesIn w a B) (h1 : (Lit.int .i64 one).wf = true) (h2 : (Lit.int .i64 two).wf = true) (ht : tables w) :
    Calls Tryd.prog 3 #[.slice a B.length c, .int .i64 one, .int .i64 two] w fun e w' => e = .returned (.bool true) ∧ Below w.heap.size w w' := by
  have hc := Nat.le_trans hc (show 140737488355328 ≤ 9223372036854775807 by omega)
  have HT := Lib.hid ht
  have HF := Lib.hid (hin.take 3000)
  have e1 : min B.length 3000 = (B.take 3000).length := by rw [List.length_take]; omega
  have e3 : (B.take 3000).length ≤ c := by rw [List.length_take]; omega
  have e4 : (B.take 3000).length ≤ 3000 := by rw [List.length_take]; omega
  have E1 := Lib.hid e1
  clear ht hin e1
  go_enter Tryd.func3, Tryd.ntmps3
  go_wp2_with fail
  with_reducible refine (bytes_any _ _ _ _ hB hc).mono ?_
  rintro e wq ⟨rfl, rfl⟩
  rw [E1.out]
  clear E1 hB
  generalize B.take 3000 = f at *
  obtain ⟨i0, hi0, r0⟩ := cut_num one f.length (by omega)
  obtain ⟨k0, hk0, r1⟩ := cut_num two f.length (by omega)
  have R0 := Lib.hid r0
  have R1 := Lib.hid r1
  clear r0 r1
  have s1 : IntKind.i64.wrap ((f.length : Int) + 1) = (f.length : Int) + 1 := IntWalk.i64_in _ (by omega)
  have s2 : IntKind.u64.wrap ((f.length : Int) + 1) = (f.length : Int) + 1 := IntWalk.u64_in _ (by omega)
  have s5 : ¬ (f.length : Int) + 1 = 0 := by omega
  have s6 : (0 : Int) ≤ (f.length : Int) + 1 := by omega
  go_wp2_with fail
  go_quiet (fail)
  rw [R0.out, R1.out]
  clear R0 R1 s1 s2 s5 s6
  go_upto_region 3 with fail
  go_cut [7, 8] (fun u v wx => ∃ i k : Nat, u = .int .i64 (i : Int) ∧ v = .int .i64 (k : Int) ∧ i ≤ k ∧ k ≤ f.length ∧ wx = w.drewN nq)
  case first =>
    go_wp2_with fail
    all_goals
      go_meet
      case rel => exact ⟨_, _, rfl, rfl, by omega, by omega, rfl⟩
  obtain ⟨i, k, rfl, rfl, hik, hkn, rfl⟩ := hcut
  clear hi0 hk0
  obtain ⟨w1, hw1⟩ : ∃ w1, w1 = w.drewN nq := ⟨_, rfl⟩
  have P2 : Hid (bytesIn w1 a f) := Lib.hid (by rw [hw1]; exact HF.out)
  have P3 : Hid (tables w1) := Lib.hid (by rw [hw1]; exact HT.out)
  have P4 : Hid (Below w.heap.size w w1) := Lib.hid (by rw [hw1]; exact ⟨rfl, rfl, rfl, Nat.le_refl _, fun _ _ => rfl⟩)
  rw [← hw1]
  have P5 : Hid (w1.heap.size = w.heap.size) := Lib.hid (by rw [hw1]; rfl)
  clear hw1 HF HT
  have hcv := conv_string w1 a f c P2.out
  go_wp2_with fail
  with_reducible refine (rof_any f w1 (by omega)).mono ?_
  rintro e w2 ⟨rfl, h3⟩
  have Q2 := Lib.hid (P2.out.below h3)
  have Q3 := Lib.hid (P3.out.below h3 (Nat.lt_of_lt_of_le P3.out.2.2.1 (Nat.le_refl _)) (Nat.lt_of_lt_of_le P3.out.2.2.2 (Nat.le_refl _)))
  have Q4 := Lib.hid (P4.out.trans (h3.mono P4.out.size))
  clear h3 P2 P3 P4 P5 hcv
  go_wp2_with fail
  have PS := Lib.hid (sums_at w2 Q3.out)
  have PT := Lib.hid (text_at w2 (sha f) rfl)
  have PO := Lib.hid (of_lit w2 [⟨a, c, f⟩] Q3.out (by simp [Pt.ok]; exact ⟨e3, hc, Q2.out⟩) (by simp; omega) (by simp) 1 rfl #[.slice a f.length c] rfl)
  rw [show ([⟨a, c, f⟩] : List Pt).map Pt.l = [f] from rfl, show [f].flatten = f by simp] at PO
  have hok : (⟨a, c, f⟩ : Pt).ok w2 := ⟨e3, hc, Q2.out⟩
  have g1 := fun wx => (⟨a, c, f⟩ : Pt).run_h i (by show i ≤ f.length; omega) e3 wx
  have g2 := fun wx => (⟨a, c, f⟩ : Pt).run_lh i k hik hkn e3 wx
  have g3 := fun wx => (⟨a, c, f⟩ : Pt).run_l k hkn e3 wx
  have k1 := Pt.sub_ok hok 0 i (by omega) (by show i ≤ f.length; omega)
  have k2 := Pt.sub_ok hok i k hik hkn
  have k3 := Pt.sub_ok hok k f.length hkn (Nat.le_refl _)
  have hfl := parts3 f i k hik hkn
  dsimp only at g1 g2 g3
  have PO3 : Hid (∀ X : World, Below w2.heap.size w2 X → Calls Tryd.prog 14 #[.slice (some ⟨X.heap.size, 0, none⟩) 3 3] (X.alloc (.cells #[.slice ((⟨a, c, f⟩ : Pt).sub 0 i).a ((⟨a, c, f⟩ : Pt).sub 0 i).l.length ((⟨a, c, f⟩ : Pt).sub 0 i).c, .slice ((⟨a, c, f⟩ : Pt).sub i k).a ((⟨a, c, f⟩ : Pt).sub i k).l.length ((⟨a, c, f⟩ : Pt).sub i k).c, .slice ((⟨a, c, f⟩ : Pt).sub k f.length).a ((⟨a, c, f⟩ : Pt).sub k f.length).l.length ((⟨a, c, f⟩ : Pt).sub k f.length).c] 22 (0, 0))) fun e w' => e = .returned (.agg (byteCells (sha f)).toArray) ∧ Below w2.heap.size w2 w') := Lib.hid (fun X hX => by
    have := of_lit w2 [(⟨a, c, f⟩ : Pt).sub 0 i, (⟨a, c, f⟩ : Pt).sub i k, (⟨a, c, f⟩ : Pt).sub k f.length] Q3.out (by simp only [List.mem_cons, List.not_mem_nil, or_false]; rintro p (rfl | rfl | rfl) <;> assumption) (by
      show ([(f.take i).drop 0, (f.take k).drop i, (f.take f.length).drop k].flatten).length ≤ 1000000
      rw [hfl]; omega) (by simp) 3 rfl _ rfl X hX
    rw [show [(⟨a, c, f⟩ : Pt).sub 0 i, (⟨a, c, f⟩ : Pt).sub i k, (⟨a, c, f⟩ : Pt).sub k f.length].map Pt.l = [(f.take i).drop 0, (f.take k).drop i, (f.take f.length).drop k] from rfl, hfl] at this
    exact this)
  generalize (⟨a, c, f⟩ : Pt).sub 0 i = q1 at *
  generalize (⟨a, c, f⟩ : Pt).sub i k = q2 at *
  generalize (⟨a, c, f⟩ : Pt).sub k f.length = q3 at *
  clear k1 k2 k3 hok hik hkn hfl
  have BB := Below.refl w2.heap.size w2
  go_region_held3 (fun w' => Below w2.heap.size w2 w')
    (first | assumption | exact below_drew' (by assumption) | exact below_alloc' (by assumption) _)
    (first
    | (go_at_call 12
       with_reducible refine (PS.out _ (by assumption)).mono ?_
       rintro e w5 ⟨rfl, k5⟩)
    | (go_at_call 13
       with_reducible refine (PT.out _ (by assumption)).mono ?_
       rintro e w5 ⟨rfl, k5⟩)
    | (go_at_call 14
       with_reducible refine (PO.out _ (by assumption)).mono ?_
       rintro e w5 ⟨rfl, k5⟩)
    | (go_at_call 14
       with_reducible refine (PO3.out _ (by assumption)).mono ?_
       rintro e w5 ⟨rfl, k5⟩))
  go_wp2_with fail
  go_ret
  exact ⟨rfl, Q4.out.trans (k5.mono Q4.out.size)⟩
end Go.Proofs.YthgmebdbccjmlaaDoor
