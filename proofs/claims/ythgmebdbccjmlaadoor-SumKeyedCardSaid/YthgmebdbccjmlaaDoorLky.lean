/- The law SumKeyed: its walk. -/
import Derived.Test.YthgmebdbccjmlaaDoorTxt
import Derived.Test.YthgmebdbccjmlaaDoorRky
import Derived.Test.YthgmebdbccjmlaaDoorLof
import Derived.BigQuiet
import Derived.Deep.DeepCutAuto
namespace Go.Proofs.YthgmebdbccjmlaaDoor
open Go.RowKit Sha

theorem parts2 (l : List UInt8) (i : Nat) : [(l.take i).drop 0, [], (l.take l.length).drop i].flatten = l := by
  rw [List.take_length]
  simp

set_option maxRecDepth 100000 in
set_option maxHeartbeats 2000000 in
theorem law_sumKeyed (a : Option Addr) (c : Nat) (K0 : List UInt8) (b : Option Addr) (d : Nat) (B : List UInt8) (z : Int) (w : World) (hK : K0.length ≤ c) (hc : c ≤ 140737488355328) (hink : bytesIn w a K0) (hB : B.length ≤ d) (hd : d ≤ 140737488355328) (hin : bytesIn w b B) (_ : (Lit.int .i64 z).wf = true) (ht : tables w) :
    Calls Tryd.prog 4 #[.slice a K0.length c, .slice b B.length d, .int .i64 z] w fun e w' => e = .returned (.bool true) ∧ Below w.heap.size w w' := by
  have HT := Lib.hid ht
  have HK := Lib.hid (hink.take 3000)
  have HF := Lib.hid (hin.take 3000)
  have e1 : min K0.length 3000 = (K0.take 3000).length := by rw [List.length_take]; omega
  have e2 : min B.length 3000 = (B.take 3000).length := by rw [List.length_take]; omega
  have e3 : (K0.take 3000).length ≤ c := by rw [List.length_take]; omega
  have e4 : (K0.take 3000).length ≤ 3000 := by rw [List.length_take]; omega
  have e5 : (B.take 3000).length ≤ d := by rw [List.length_take]; omega
  have e6 : (B.take 3000).length ≤ 3000 := by rw [List.length_take]; omega
  have E1 := Lib.hid e1
  have E2 := Lib.hid e2
  clear ht hink hin e1 e2
  go_enter Tryd.func4, Tryd.ntmps4
  go_wp2_with fail
  with_reducible refine (bytes_any _ _ _ _ hK hc).mono ?_
  rintro e wq ⟨rfl, rfl⟩
  rw [E1.out]
  clear E1 hK
  generalize K0.take 3000 = K at *
  go_wp2_with fail
  with_reducible refine (bytes_any _ _ _ _ hB hd).mono ?_
  rintro e wq ⟨rfl, rfl⟩
  rw [E2.out]
  clear E2 hB
  generalize B.take 3000 = f at *
  obtain ⟨i, hi, r0⟩ := cut_num z f.length (by omega)
  have R0 := Lib.hid r0
  clear r0
  have s1 : IntKind.i64.wrap ((f.length : Int) + 1) = (f.length : Int) + 1 := IntWalk.i64_in _ (by omega)
  have s2 : IntKind.u64.wrap ((f.length : Int) + 1) = (f.length : Int) + 1 := IntWalk.u64_in _ (by omega)
  have s5 : ¬ (f.length : Int) + 1 = 0 := by omega
  have s6 : (0 : Int) ≤ (f.length : Int) + 1 := by omega
  have cv1 := conv_string w a K c HK.out
  have cv2 := conv_string w b f d HF.out
  go_upto_region 3 with fail
  rw [R0.out]
  clear R0 s1 s2 s5 s6
  go_wp2_with fail
  with_reducible refine (rky_any K f w (by omega) (by omega)).mono ?_
  rintro e w2 ⟨rfl, h3⟩
  have Q1 := Lib.hid (HK.out.below h3)
  have Q2 := Lib.hid (HF.out.below h3)
  have Q3 := Lib.hid (HT.out.below h3 HT.out.2.2.1 HT.out.2.2.2)
  have Q4 := Lib.hid h3
  clear h3 HK HF HT cv1 cv2
  have hok : (⟨b, d, f⟩ : Pt).ok w2 := ⟨e5, hd, Q2.out⟩
  have hkk : (⟨a, c, K⟩ : Pt).ok w2 := ⟨e3, hc, Q1.out⟩
  have g1 := fun wx => (⟨b, d, f⟩ : Pt).run_h i hi e5 wx
  have g3 := fun wx => (⟨b, d, f⟩ : Pt).run_l i hi e5 wx
  dsimp only at g1 g3
  have k1 := Pt.sub_ok hok 0 i (by omega) hi
  have k3 := Pt.sub_ok hok i f.length hi (Nat.le_refl _)
  have k2 : (⟨none, 0, []⟩ : Pt).ok w2 := ⟨Nat.le_refl _, by show (0 : Nat) ≤ _; omega, Or.inl rfl⟩
  have hfl := parts2 f i
  have PS := Lib.hid (sums_at w2 Q3.out)
  have PT := Lib.hid (text_at w2 (hmac K f) rfl)
  have PO := Lib.hid (kf_lit w2 [⟨b, d, f⟩] Q3.out (by simp only [List.mem_singleton]; rintro p rfl; exact hok) (by simp; omega) (by simp) 1 rfl #[.slice b f.length d] rfl ⟨a, c, K⟩ hkk (by show K.length ≤ _; omega))
  rw [show ([⟨b, d, f⟩] : List Pt).map Pt.l = [f] from rfl, show [f].flatten = f by simp] at PO
  have PO3 : Hid (∀ X : World, Below w2.heap.size w2 X → Calls Tryd.prog 16 #[.slice a K.length c, .slice (some ⟨X.heap.size, 0, none⟩) 3 3] (X.alloc (.cells #[.slice ((⟨b, d, f⟩ : Pt).sub 0 i).a ((⟨b, d, f⟩ : Pt).sub 0 i).l.length ((⟨b, d, f⟩ : Pt).sub 0 i).c, .slice none 0 0, .slice ((⟨b, d, f⟩ : Pt).sub i f.length).a ((⟨b, d, f⟩ : Pt).sub i f.length).l.length ((⟨b, d, f⟩ : Pt).sub i f.length).c] 22 (0, 0))) fun e w' => e = .returned (.agg (byteCells (hmac K f)).toArray) ∧ Below w2.heap.size w2 w') := Lib.hid (fun X hX => by
    have := kf_lit w2 [(⟨b, d, f⟩ : Pt).sub 0 i, ⟨none, 0, []⟩, (⟨b, d, f⟩ : Pt).sub i f.length] Q3.out (by simp only [List.mem_cons, List.not_mem_nil, or_false]; rintro p (rfl | rfl | rfl) <;> assumption) (by
      show ([(f.take i).drop 0, [], (f.take f.length).drop i].flatten).length ≤ 900000
      rw [hfl]; omega) (by simp) 3 rfl _ rfl ⟨a, c, K⟩ hkk (by show K.length ≤ _; omega) X hX
    rw [show [(⟨b, d, f⟩ : Pt).sub 0 i, ⟨none, 0, []⟩, (⟨b, d, f⟩ : Pt).sub i f.length].map Pt.l = [(f.take i).drop 0, [], (f.take f.length).drop i] from rfl, hfl] at this
    exact this)
  change Hid (∀ X : World, Below w2.heap.size w2 X → Calls Tryd.prog 16 #[.slice a K.length c, .slice (some ⟨X.heap.size, 0, none⟩) 1 1] (X.alloc (.cells #[.slice b f.length d] 22 (0, 0))) fun e w' => e = .returned (.agg (byteCells (hmac K f)).toArray) ∧ Below w2.heap.size w2 w') at PO
  generalize (⟨b, d, f⟩ : Pt).sub 0 i = q1 at *
  generalize (⟨b, d, f⟩ : Pt).sub i f.length = q3 at *
  clear k1 k2 k3 hok hkk hi hfl
  generalize hmac K f = M at *
  have BB := Below.refl w2.heap.size w2
  go_wp2_with fail
  go_region_held3 (fun w' => Below w2.heap.size w2 w')
    (first | assumption | exact below_drew' (by assumption) | exact below_alloc' (by assumption) _)
    (first
    | (go_at_call 12
       with_reducible refine (PS.out _ (by assumption)).mono ?_
       rintro e w5 ⟨rfl, k5⟩)
    | (go_at_call 13
       with_reducible refine (PT.out _ (by assumption)).mono ?_
       rintro e w5 ⟨rfl, k5⟩)
    | (go_at_call 16
       with_reducible refine (PO.out _ (by assumption)).mono ?_
       rintro e w5 ⟨rfl, k5⟩)
    | (go_at_call 16
       with_reducible refine (PO3.out _ (by assumption)).mono ?_
       rintro e w5 ⟨rfl, k5⟩))
  go_wp2_with fail
  go_ret
  exact ⟨rfl, Q4.out.trans (k5.mono Q4.out.size)⟩
end Go.Proofs.YthgmebdbccjmlaaDoor
