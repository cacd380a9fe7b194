/- The law SumMixes: its walk. -/
import Derived.Test.YthgmebdbccjmlaaDoorZer
import Derived.Test.YthgmebdbccjmlaaDoorCat
import Derived.Test.YthgmebdbccjmlaaDoorEq
import Derived.Test.YthgmebdbccjmlaaDoorRky
import Derived.Test.YthgmebdbccjmlaaDoorLof
import Derived.Test.YthgmebdbccjmlaaDoorLsm
import Derived.Deep.DeepCutAuto
namespace Go.Proofs.YthgmebdbccjmlaaDoor
open Go.RowKit Sha

theorem padKey_zeros (K : List UInt8) (i : Nat) (x : UInt8) : padKey (K ++ List.replicate i 0) x = padKey K x := by
  unfold padKey
  apply List.map_congr_left
  intro j _
  congr 1
  simp only [List.getD_eq_getElem?_getD]
  by_cases h : j < K.length
  · rw [List.getElem?_append_left h]
  · rw [List.getElem?_append_right (by omega), List.getElem?_eq_none (show K.length ≤ j by omega), List.getElem?_replicate]
    split <;> rfl
theorem hmac_zeros (K l : List UInt8) (i : Nat) (h : K.length + i ≤ 64) : hmac (K ++ List.replicate i 0) l = hmac K l := by
  unfold hmac shortKey
  rw [if_neg (by rw [List.length_append, List.length_replicate]; omega), if_neg (by omega), padKey_zeros, padKey_zeros]
theorem hmac_short (K l : List UInt8) (h : K.length ≤ 64) : hmac K l = sha (padKey K 0x5c ++ sha (padKey K 0x36 ++ l)) := by
  unfold hmac shortKey
  rw [if_neg (by omega)]
theorem hmac_long (K l : List UInt8) (h : 64 < K.length) : hmac (sha K) l = hmac K l := by
  unfold hmac shortKey
  rw [if_pos h, if_neg (by rw [sha_length]; omega)]
theorem cut_num' (z : Int) (n : Nat) (h0 : 0 < n) (hn : n ≤ 1000000) : ∃ i : Nat, i < n ∧ wrap64 ((IntKind.u64.wrap z).tmod (n : Int)) = (i : Int) := by
  obtain ⟨i, h1, h2⟩ := cut_num z (n - 1) (by omega)
  refine ⟨i, by omega, ?_⟩
  rw [show ((n - 1 : Nat) : Int) + 1 = (n : Int) by omega] at h2
  exact h2
theorem kf1 (W : World) (k p : Pt) (hW : tables W) (hk : k.ok W) (hp : p.ok W) (hkl : k.l.length ≤ 900000) (hpl : p.l.length ≤ 900000) (X : World) (g : Nat) (hX : Below W.heap.size W X) (hc : cellsAt X g [.slice p.a p.l.length p.c]) :
    Calls Tryd.prog 16 #[.slice k.a k.l.length k.c, .slice (some ⟨g, 0, none⟩) 1 1] X fun e w' => e = .returned (.agg (byteCells (hmac k.l p.l)).toArray) ∧ Below W.heap.size W w' ∧ Below X.heap.size X w' :=
  kf_at W [p] _ rfl hW (by simp only [List.mem_singleton]; rintro q rfl; exact hp) p.l (by simp) hpl 1 rfl (by omega) k hk hkl X g hX hc
theorem join3 {Q H : Nat → Nat → World → Prop} {G : Prop} (main : (∀ x y w, H x y w → Q x y w) → G) (rest : ∀ x y w, H x y w → Q x y w) : G := main rest
theorem wpAnyH_listed {P : Program} {md : Region.Mode} {ops : Array Oper} {Q : Exit → Act → World → Prop} {S : World → Prop} {fuel : Nat} {L L2 : Array Bool} {a : Act} {w : World} (h : L = L2) (g : wpAnyH P md ops Q S fuel L2 a w) : wpAnyH P md ops Q S fuel L a w := h ▸ g
attribute [local go_sem] V_x36 V_x5c

set_option maxRecDepth 100000 in
set_option maxHeartbeats 4000000 in
theorem law_sumMixes (a : Option Addr) (c : Nat) (K0 : List UInt8) (b : Option Addr) (d : Nat) (B : List UInt8) (z : Int) (w : World) (hK : K0.length ≤ c) (hc : c ≤ 140737488355328) (hink : bytesIn w a K0) (hB : B.length ≤ d) (hd : d ≤ 140737488355328) (hin : bytesIn w b B) (_ : (Lit.int .i64 z).wf = true) (ht : tables w) :
    Calls Tryd.prog 9 #[.slice a K0.length c, .slice b B.length d, .int .i64 z] w fun e w' => e = .returned (.bool true) ∧ Below w.heap.size w w' := by
  have hc := Nat.le_trans hc (show 140737488355328 ≤ 9223372036854775807 by omega)
  have hd := Nat.le_trans hd (show 140737488355328 ≤ 9223372036854775807 by omega)
  have HT := Lib.hid ht
  have HK := Lib.hid (hink.take 64)
  have HF := Lib.hid (hin.take 3000)
  have e2 : min B.length 3000 = (B.take 3000).length := by rw [List.length_take]; omega
  have e3 : (K0.take 64).length ≤ c := by rw [List.length_take]; omega
  have e4 : (K0.take 64).length ≤ 64 := by rw [List.length_take]; omega
  have e5 : (B.take 3000).length ≤ d := by rw [List.length_take]; omega
  have e6 : (B.take 3000).length ≤ 3000 := by rw [List.length_take]; omega
  have E2 := Lib.hid e2
  clear ht hink hin e2
  go_enter Tryd.func9, Tryd.ntmps9
  go_wp2_with fail
  with_reducible refine (bytes_any _ _ _ _ hB hd).mono ?_
  rintro e wq ⟨rfl, rfl⟩
  rw [E2.out]
  clear E2 hB
  generalize B.take 3000 = f at *
  go_upto_region 2 with fail
  go_cut [7] (fun v wx => v = .slice a (K0.take 64).length c ∧ w = wx)
  case first =>
    go_wp2_with fail
    all_goals
      go_meet
      case rel => exact ⟨slice_len (by rw [List.length_take]; omega), rfl⟩
  obtain ⟨rfl, rfl⟩ := hcut
  clear hK
  generalize K0.take 64 = K at *
  have hm := make64
  have G1 : Hid (blockIs ((w.drew.alloc (.cells (cells8 (fun _ => 0) 64).toArray 5 (0, 0))).alloc (.cells (cells8 (fun _ => 0) 64).toArray 5 (0, 0))) w.heap.size (cells8 (fun _ => 0) 64) 5) := Lib.hid ((blockIs.new w.drew _ _).alloc _)
  have G2 : Hid (blockIs ((w.drew.alloc (.cells (cells8 (fun _ => 0) 64).toArray 5 (0, 0))).alloc (.cells (cells8 (fun _ => 0) 64).toArray 5 (0, 0))) (w.heap.size + 1) (cells8 (fun _ => 0) 64) 5) := Lib.hid (blockIs.last _ _ _ _ (by simp))
  have G3 : Hid (Below w.heap.size w ((w.drew.alloc (.cells (cells8 (fun _ => 0) 64).toArray 5 (0, 0))).alloc (.cells (cells8 (fun _ => 0) 64).toArray 5 (0, 0)))) := Lib.hid ((drew_alloc_below w _).alloc (by simp) _)
  go_upto_region 3 with fail
  go_cut [8, 9] (fun u v wx => ∃ g h : Nat, u = .slice (some ⟨g, 0, none⟩) 64 64 ∧ v = .slice (some ⟨h, 0, none⟩) 64 64 ∧ Hid (g ≠ h ∧ w.heap.size ≤ g ∧ w.heap.size ≤ h) ∧ Hid (blockIs wx g (cells8 (fun _ => 0) 64) 5) ∧ Hid (blockIs wx h (cells8 (fun _ => 0) 64) 5) ∧ Hid (Below w.heap.size w wx))
  case first =>
    go_region_law (go_simp)
    all_goals
      go_wp2_with fail
      go_meet
      case rel => first | exact ⟨w.heap.size, w.heap.size + 1, rfl, rfl, Lib.hid ⟨by omega, by omega, by omega⟩, G1, G2, G3⟩ | exact ⟨w.heap.size + 1, w.heap.size, rfl, rfl, Lib.hid ⟨by omega, by omega, by omega⟩, G2, G1, G3⟩
  clear G1 G2 G3 hm
  obtain ⟨g, h, rfl, rfl, GH, G1, G2, G3⟩ := hcut
  rw [keyF_zero K 0x36] at G1
  rw [keyF_zero K 0x5c] at G2
  have hgh : ¬ g = h := GH.out.1
  have hhg : ¬ h = g := fun e => GH.out.1 e.symm
  go_wp2_with fail
  go_loopw [10, 11] (fun i _ wr => ∃ k : Nat, k ≤ 64 ∧ i = .int .i64 (k : Int) ∧ Hid (blockIs wr g (cells8 (keyF K 0x36 k) 64) 5) ∧ Hid (blockIs wr h (cells8 (keyF K 0x5c k) 64) 5) ∧ Hid (Below w.heap.size w wr)) (fun i _ _ => 64 - (intOf i).toNat)
  case atStart => exact ⟨0, by omega, rfl, G1, G2, G3⟩
  case round =>
    clear G1 G2 G3
    obtain ⟨k, hk, rfl, G1, G2, G3⟩ := hrel
    by_cases hlt : k < 64
    · have p : 0 ≤ (k : Int) := by omega
      have q : (k : Int) < 64 := by omega
      go_upto_if 32 with fail
      go_cut [11] (fun v wx => v = .int .u8 (V (K.getD k 0)) ∧ wr = wx)
      case first =>
        by_cases hkl : k < K.length
        · have q2 : (k : Int) < (K.length : Int) := by omega
          have hin : bytesIn wr a K := HK.out.below G3.out
          rcases hin with h0 | ⟨bb, bo, rfl, hin⟩
          · rw [h0] at hkl; simp at hkl
          have c1 := hin k hkl
          clear hin
          generalize K.getD k 0 = x at *
          go_wp2_with fail
          go_meet
          case rel => exact ⟨rfl, rfl⟩
        · have q2 : ¬ (k : Int) < (K.length : Int) := by omega
          have hx : Hid (K.getD k 0 = 0) := Lib.hid (by simp [List.getElem?_eq_none (show K.length ≤ k by omega)])
          go_wp2_with fail
          go_meet
          case rel => exact ⟨by rw [hx.out]; rfl, rfl⟩
      obtain ⟨rfl, rfl⟩ := hcut
      have c1 : wr.cell? ⟨g, k, none⟩ = some (.int .u8 (V (keyF K 0x36 k k))) := by rw [G1.out.cell]; exact cells8_get _ _ _ hlt
      have c2 : wr.cell? ⟨h, k, none⟩ = some (.int .u8 (V (keyF K 0x5c k k))) := by rw [G2.out.cell]; exact cells8_get _ _ _ hlt
      have f1 : wr.frozen? ⟨g, k, none⟩ = false := G1.out.free _
      have f2 : wr.frozen? ⟨h, k, none⟩ = false := G2.out.free _
      have N1 : Hid (blockIs ((wr.setCell ⟨g, k, none⟩ (.int .u8 (V (K.getD k 0 ^^^ 0x36)))).setCell ⟨h, k, none⟩ (.int .u8 (V (K.getD k 0 ^^^ 0x5c)))) g (cells8 (keyF K 0x36 (k + 1)) 64) 5) := Lib.hid (by rw [← keyF_one _ _ _ hlt]; exact (G1.out.set k _).other _ _ hgh)
      have N2 : Hid (blockIs ((wr.setCell ⟨g, k, none⟩ (.int .u8 (V (K.getD k 0 ^^^ 0x36)))).setCell ⟨h, k, none⟩ (.int .u8 (V (K.getD k 0 ^^^ 0x5c)))) h (cells8 (keyF K 0x5c (k + 1)) 64) 5) := Lib.hid (by rw [← keyF_one _ _ _ hlt]; exact (G2.out.other _ _ hhg).set k _)
      have N3 : Hid (Below w.heap.size w ((wr.setCell ⟨g, k, none⟩ (.int .u8 (V (K.getD k 0 ^^^ 0x36)))).setCell ⟨h, k, none⟩ (.int .u8 (V (K.getD k 0 ^^^ 0x5c))))) := Lib.hid ((G3.out.setCell GH.out.2.1 _).setCell GH.out.2.2 _)
      clear G1 G2 G3
      generalize K.getD k 0 = x at *
      go_wp2_with fail
      go_roundw
      case rel => exact ⟨k + 1, by omega, by go_num, N1, N2, N3⟩
      case measure => simp [intOf]; omega
    · obtain rfl : k = 64 := by omega
      rw [show ((64 : Nat) : Int) = 64 from rfl]
      rw [keyF_all] at G1 G2
      have hA : (padKey K 0x36).length = 64 := by simp [padKey]
      have hB : (padKey K 0x5c).length = 64 := by simp [padKey]
      have HH : Hid (hmac K f = sha (padKey K 0x5c ++ sha (padKey K 0x36 ++ f))) := Lib.hid (hmac_short K f e4)
      have I1 : Hid (bytesIn wr (some ⟨g, 0, none⟩) (padKey K 0x36)) := Lib.hid (Or.inr ⟨_, _, rfl, fun j hj => by rw [Nat.zero_add, G1.out.cell]; exact byteCells_get _ _ hj⟩)
      have I2 : Hid (bytesIn wr (some ⟨h, 0, none⟩) (padKey K 0x5c)) := Lib.hid (Or.inr ⟨_, _, rfl, fun j hj => by rw [Nat.zero_add, G2.out.cell]; exact byteCells_get _ _ hj⟩)
      have Q1 := Lib.hid (HK.out.below G3.out)
      have Q2 := Lib.hid (HF.out.below G3.out)
      have Q3 := Lib.hid (HT.out.below G3.out HT.out.2.2.1 HT.out.2.2.2)
      clear G1 G2 HF HT hgh hhg GH hlt hk
      generalize padKey K 0x36 = A at *
      generalize padKey K 0x5c = C at *
      have HA := Lib.hid hA
      have HC := Lib.hid hB
      clear hA hB
      have ho : Hid (Calls Tryd.prog 14 #[.slice (some ⟨wr.heap.size, 0, none⟩) 2 2] (wr.alloc (.cells #[.slice (some ⟨g, 0, none⟩) 64 64, .slice b f.length d] 22 (0, 0))) fun e w' => e = .returned (.agg (byteCells (sha (A ++ f))).toArray) ∧ Below wr.heap.size wr w') := Lib.hid (by
        have := of_lit wr [⟨some ⟨g, 0, none⟩, 64, A⟩, ⟨b, d, f⟩] Q3.out (by simp only [List.mem_cons, List.not_mem_nil, or_false]; rintro p (rfl | rfl); exact ⟨by show A.length ≤ 64; rw [HA.out]; exact Nat.le_refl _, by show (64 : Nat) ≤ 9223372036854775807; omega, I1.out⟩; exact ⟨e5, by show d ≤ 9223372036854775807; omega, Q2.out⟩) (by
          show ([A, f].flatten).length ≤ 1000000
          have := HA.out
          simp; omega) (by simp) 2 rfl #[.slice (some ⟨g, 0, none⟩) 64 64, .slice b f.length d] (by show _ = (#[Value.slice (some ⟨g, 0, none⟩) A.length 64, .slice b f.length d] : Array Value); rw [HA.out]) wr (Below.refl _ _)
        rw [show ([⟨some ⟨g, 0, none⟩, 64, A⟩, ⟨b, d, f⟩] : List Pt).map Pt.l = [A, f] from rfl, show [A, f].flatten = A ++ f by simp] at this
        exact this)
      have HM1 : Hid ((sha (A ++ f)).length = 32) := Lib.hid (sha_len _)
      generalize sha (A ++ f) = M1 at *
      go_wp2_with fail
      with_reducible refine ho.out.mono ?_
      rintro e w2 ⟨rfl, k2⟩
      have K2 := Lib.hid k2
      have N4 := Lib.hid (blockIs.new w2 (zeros 32) 28)
      have hz28 := zero28
      clear k2 ho
      go_wp2_with (refine wpList_store_block rfl 28 _ _ rfl w2.heap.size 0 (byteCells M1) rfl rfl (zeros 32) 28 N4.out (by rw [info28, byteCells_length, HM1.out]) (by simp [zeros, byteCells_length, HM1.out]) (byteCells_one _) ?_)
      intro w3 h1 h2 h3
      have h1 := h1.out
      rw [splice_all _ _ (by simp [zeros, byteCells_length, HM1.out])] at h1
      have B3 : Hid (Below wr.heap.size wr w3) := Lib.hid ((K2.out.alloc K2.out.size _).trans (h2.out.below K2.out.size (by simp; have := K2.out.size; omega)))
      have J3 : Hid (bytesIn w3 (some ⟨w2.heap.size, 0, none⟩) M1) := Lib.hid (Or.inr ⟨_, _, rfl, fun j hj => by rw [Nat.zero_add, h1.cell]; exact byteCells_get _ _ hj⟩)
      clear h1 h2 h3 K2 N4
      generalize w2.heap.size = sb at *
      obtain ⟨n, hn⟩ : ∃ n : Nat, (n : Int) = 65 - (K.length : Int) := ⟨65 - K.length, by omega⟩
      have hn0 : 0 < n := by omega
      have hn1 : n ≤ 65 := by omega
      have hnl : Hid (K.length + n = 65) := Lib.hid (by omega)
      have hs65 : 65 - (K.length : Int) = (n : Int) := hn.symm
      clear hn
      have R0 := Lib.hid (rowM.lit w3 w3.heap.size [] #[] rfl 0 rfl (Nat.le_refl _) (by simp))
      have B4 := Lib.hid (alloc_below w3 (.cells #[] 5 (0, 0)))
      go_wp2_with (refine append_M0 rfl _ _ rfl w3.heap.size _ [] rfl R0.out _ K.length c K rfl rfl ((Q1.out.below B3.out).below B4.out) (by simp; omega) B4.out.size ?_)
      intro v5 w5 h1 h2
      have h2 := R0.out.grown h2 B4.out.size
      have R5 := Lib.hid h1
      have B5 := Lib.hid (B4.out.trans h2)
      clear h1 h2 R0 B4
      go_wp2_with (refine append_zerosM rfl _ _ rfl w3.heap.size _ K rfl R5.out n rfl hn0 (by omega) (by omega) (by have := B5.out.size; omega) ?_)
      intro v6 w6 h1 h2
      have h2 := R5.out.grown h2 B5.out.size
      have R6 := Lib.hid h1
      have B6 := Lib.hid (B3.out.trans ((B5.out.trans h2).mono B3.out.size))
      have B36 := Lib.hid (B5.out.trans h2)
      clear h1 h2 R5 B5
      obtain ⟨al, cl, h9, h91, h92, h93, -, -⟩ := R6.out.bytes
      have hLl : (K ++ List.replicate n 0).length = 65 := by rw [List.length_append, List.length_replicate]; exact hnl.out
      have J6 := Lib.hid (J3.out.below B36.out)
      have L6 := Lib.hid h93
      rw [hLl] at h9 h91
      subst h9
      have hcl : cl ≤ 9223372036854775807 := by unfold maxLen at h92; omega
      have HLl := Lib.hid hLl
      have HL2 : Hid (hmac (sha (K ++ List.replicate n 0)) f = hmac (K ++ List.replicate n 0) f) := Lib.hid (hmac_long _ f (by rw [hLl]; omega))
      have HLz : Hid (∀ i, i < n → hmac ((K ++ List.replicate n 0).take (K.length + i)) f = hmac K f) := Lib.hid (fun i hi => by
        rw [List.take_length_add_append, List.take_replicate, Nat.min_eq_left (by omega)]
        exact hmac_zeros K f i (by omega))
      clear R6 h92 h93 hLl B36 J3
      generalize K ++ List.replicate n 0 = Lg at *
      have HOL := Lib.hid (sha_len Lg)
      go_wp2_with fail
      have Q6 := Lib.hid (Q3.out.below B6.out Q3.out.2.2.1 Q3.out.2.2.2)
      have ho2 := of_lit w6 [⟨al, cl, Lg⟩] Q6.out (by simp only [List.mem_singleton]; rintro p rfl; exact ⟨by show Lg.length ≤ cl; rw [HLl.out]; exact h91, hcl, L6.out⟩) (by simp; have := HLl.out; omega) (by simp) 1 rfl #[.slice al 65 cl] (by show _ = (#[Value.slice al Lg.length cl] : Array Value); rw [HLl.out]) w6 (Below.refl _ _)
      rw [show ([⟨al, cl, Lg⟩] : List Pt).map Pt.l = [Lg] from rfl, show [Lg].flatten = Lg by simp] at ho2
      with_reducible refine ho2.mono ?_
      clear ho2
      rintro e w7 ⟨rfl, k7⟩
      have K7 := Lib.hid k7
      have N7 := Lib.hid (blockIs.new w7 (zeros 32) 28)
      clear k7
      have HLo : Hid (hmac (sha Lg) f = hmac Lg f) := HL2
      clear HL2
      generalize sha Lg = OL at *
      go_wp2_with (refine wpList_store_block rfl 28 _ _ rfl w7.heap.size 0 (byteCells OL) rfl rfl (zeros 32) 28 N7.out (by rw [info28, byteCells_length, HOL.out]) (by simp [zeros, byteCells_length, HOL.out]) (byteCells_one _) ?_)
      intro w8 h1 h2 h3
      have h1 := h1.out
      rw [splice_all _ _ (by simp [zeros, byteCells_length, HOL.out])] at h1
      have B8 : Hid (Below w6.heap.size w6 w8) := Lib.hid ((K7.out.alloc K7.out.size _).trans (h2.out.below K7.out.size (by simp; have := K7.out.size; omega)))
      have J8 : Hid (bytesIn w8 (some ⟨w7.heap.size, 0, none⟩) OL) := Lib.hid (Or.inr ⟨_, _, rfl, fun j hj => by rw [Nat.zero_add, h1.cell]; exact byteCells_get _ _ hj⟩)
      clear h1 h2 h3 K7 N7 hz28
      generalize w7.heap.size = ob at *
      have T8 := Lib.hid (Q6.out.below B8.out Q6.out.2.2.1 Q6.out.2.2.2)
      have F0 := Lib.hid (B6.out.trans (B8.out.mono B6.out.size))
      have X1 := Lib.hid (Q1.out.below F0.out)
      have X2 := Lib.hid (Q2.out.below F0.out)
      have X3 := Lib.hid (I2.out.below F0.out)
      have X4 := Lib.hid (J6.out.below B8.out)
      have X5 := Lib.hid (L6.out.below B8.out)
      have FW := Lib.hid (G3.out.trans (F0.out.mono G3.out.size))
      clear Q1 Q2 Q3 Q6 I1 I2 J6 L6 B3 B6 B8 F0 G3 HK
      obtain ⟨i, hi, r0⟩ := cut_num' z n hn0 (by omega)
      have R0 := Lib.hid r0
      clear r0
      have s2 : IntKind.u64.wrap (n : Int) = (n : Int) := IntWalk.u64_in _ (by omega)
      have s5 : ¬ (n : Int) = 0 := by omega
      have s6 : (0 : Int) ≤ (n : Int) := by omega
      go_upto_region 15 with fail
      rw [R0.out]
      clear R0 s2 s5 s6 hs65
      obtain ⟨j, hj⟩ : ∃ j : Nat, j = K.length + i := ⟨_, rfl⟩
      have hj65 : j ≤ Lg.length := by rw [HLl.out]; have := hnl.out; omega
      have es1 : (K.length : Int) + (i : Int) = (j : Int) := by omega
      have es2 : IntKind.i64.wrap (j : Int) = (j : Int) := IntWalk.i64_in _ (by have := HLl.out; omega)
      have hok1 : (⟨a, c, K⟩ : Pt).ok w8 := ⟨e3, hc, X1.out⟩
      have hok2 : (⟨b, d, f⟩ : Pt).ok w8 := ⟨e5, hd, X2.out⟩
      have hok3 : (⟨al, cl, Lg⟩ : Pt).ok w8 := ⟨by show Lg.length ≤ cl; rw [HLl.out]; exact h91, hcl, X5.out⟩
      have hok4 : (⟨some ⟨ob, 0, none⟩, 32, OL⟩ : Pt).ok w8 := ⟨by show OL.length ≤ 32; rw [HOL.out]; exact Nat.le_refl _, by show (32 : Nat) ≤ 9223372036854775807; omega, J8.out⟩
      have hok5 := Pt.sub_ok hok3 0 j (by omega) hj65
      have hok6 : (⟨some ⟨h, 0, none⟩, 64, C⟩ : Pt).ok w8 := ⟨by show C.length ≤ 64; rw [HC.out]; exact Nat.le_refl _, by show (64 : Nat) ≤ 9223372036854775807; omega, X3.out⟩
      have hok7 : (⟨some ⟨sb, 0, none⟩, 32, M1⟩ : Pt).ok w8 := ⟨by show M1.length ≤ 32; rw [HM1.out]; exact Nat.le_refl _, by show (32 : Nat) ≤ 9223372036854775807; omega, X4.out⟩
      have PS := Lib.hid (sums_at w8 T8.out)
      have hpo := of_at w8 [⟨some ⟨h, 0, none⟩, 64, C⟩, ⟨some ⟨sb, 0, none⟩, 32, M1⟩] [.slice (some ⟨h, 0, none⟩) 64 64, .slice (some ⟨sb, 0, none⟩) 32 32] (by show _ = [Value.slice (some ⟨h, 0, none⟩) C.length 64, .slice (some ⟨sb, 0, none⟩) M1.length 32]; rw [HC.out, HM1.out]) T8.out (by simp only [List.mem_cons, List.not_mem_nil, or_false]; rintro p (rfl | rfl) <;> assumption) (C ++ M1) (by simp) (by
        have := HC.out
        have := HM1.out
        rw [List.length_append]; omega) 2 rfl (by omega)
      rw [← HH.out] at hpo
      have PO := Lib.hid hpo
      have hk1 := kf1 w8 ⟨a, c, K⟩ ⟨b, d, f⟩ T8.out hok1 hok2 (by show K.length ≤ _; omega) (by show f.length ≤ _; omega)
      have hk2 := kf1 w8 ⟨al, cl, Lg⟩ ⟨b, d, f⟩ T8.out hok3 hok2 (by show Lg.length ≤ _; rw [HLl.out]; omega) (by show f.length ≤ _; omega)
      have hk3 := kf1 w8 ⟨some ⟨ob, 0, none⟩, 32, OL⟩ ⟨b, d, f⟩ T8.out hok4 hok2 (by show OL.length ≤ _; rw [HOL.out]; omega) (by show f.length ≤ _; omega)
      have hk4 := kf1 w8 ((⟨al, cl, Lg⟩ : Pt).sub 0 j) ⟨b, d, f⟩ T8.out hok5 hok2 (by show ((Lg.take j).drop 0).length ≤ _; rw [drop_take_len _ _ _ hj65]; have := HLl.out; omega) (by show f.length ≤ _; omega)
      have g1 := fun wx => (⟨al, cl, Lg⟩ : Pt).run_h j hj65 (by show Lg.length ≤ cl; rw [HLl.out]; exact h91) wx
      dsimp only at hk1 hk2 hk3 hk4 g1
      rw [HOL.out, HLo.out] at hk3
      rw [HLl.out] at hk2
      rw [show ((⟨al, cl, Lg⟩ : Pt).sub 0 j).l = Lg.take j from rfl, hj, HLz.out i hi, ← hj] at hk4
      rw [HLl.out, show ((⟨al, cl, Lg⟩ : Pt).sub 0 j).l = Lg.take j from rfl] at g1
      have P1 := Lib.hid hk1
      have P2 := Lib.hid hk2
      have P3 := Lib.hid hk3
      have P4 := Lib.hid hk4
      clear hk1 hk2 hk3 hk4 hpo hok1 hok2 hok3 hok4 hok5 hok6 hok7 hj hj65 HLo HLz HH X1 X2 X3 X4 X5 J8 hi
      generalize ((⟨al, cl, Lg⟩ : Pt).sub 0 j).a = ja at *
      generalize ((⟨al, cl, Lg⟩ : Pt).sub 0 j).c = jc at *
      generalize (Lg.take j).length = jl at *
      have hq1 := eql_sums (hmac K f) (hmac_length _ _)
      have hq2 := eql_sums (hmac Lg f) (hmac_length _ _)
      have HL1 := Lib.hid (hmac_length K f)
      have HL2 := Lib.hid (hmac_length Lg f)
      have hgt := egt28
      generalize hmac K f = H1 at *
      generalize hmac Lg f = H2 at *
      have BB := Below.refl w8.heap.size w8
      go_wp2_with fail
      refine wp_region_noPanic ?_
      refine wp_region_held_drew (S := fun w' => Below w8.heap.size w8 w') (by kernel_rfl) (below_drew' BB) (fun hH => ?_)
      refine wpAnyH_ready (rs := [0]) (by kernel_rfl) (by simp) ?_
      refine AllReadyH.cons (o := { dst := some 69, op := Op.call { callee := Callee.value (Operand.func 12), args := #[], argTypes := #[] }, type := 4, pos := "more.go:23", after := #[], guard := none }) rfl (fun KK hKK => ?_) AllReadyH.nil
      go_simp
      refine (PS.out _ hH).mono ?_
      rintro e w4 ⟨rfl, k4⟩
      clear hH
      refine hKK.out _ _ k4 (fun hH => ?_)
      clear hKK KK k4
      try simp only [Act.put, List.setIfInBounds_toArray, List.set_cons_zero, List.set_cons_succ]
      refine wpAnyH_take (i := 1) (oi := { dst := some 70, op := Op.move (Operand.tmp 69), type := 4, pos := "more.go:23", after := #[{ on := 0, ground := Ground.data }, { on := 0, ground := Ground.chain }], guard := none }) (v := .bool true) rfl (by kernel_rfl) (by kernel_rfl) (by kernel_rfl) (fun _ _ _ h => h) (Or.inl ⟨by rfl, fun wx hS => ?_⟩) hH ?_
      · go_simp
      simp only [Act.put, List.setIfInBounds_toArray, List.set_cons_zero, List.set_cons_succ]
      refine wpAnyH_take (i := 2) (oi := { dst := some 71, op := Op.move (Operand.tmp 9), type := 22, pos := "more.go:23", after := #[{ on := 1, ground := Ground.guard }], guard := some (1, true) }) (v := .slice (some ⟨h, 0, none⟩) 64 64) rfl (by kernel_rfl) (by kernel_rfl) (by kernel_rfl) (fun _ _ _ h => h) (Or.inl ⟨by rfl, fun wx hS => ?_⟩) hH ?_
      · go_simp
      simp only [Act.put, List.setIfInBounds_toArray, List.set_cons_zero, List.set_cons_succ]
      refine wpAnyH_take (i := 3) (oi := { dst := some 72, op := Op.slice 28 (Operand.tmp 12) none none none, type := 22, pos := "more.go:23", after := #[{ on := 1, ground := Ground.guard }], guard := some (1, true) }) (v := .slice (some ⟨sb, 0, none⟩) 32 32) rfl (by kernel_rfl) (by kernel_rfl) (by kernel_rfl) (fun _ _ _ h => h) (Or.inl ⟨by rfl, fun wx hS => ?_⟩) hH ?_
      · go_simp
      simp only [Act.put, List.setIfInBounds_toArray, List.set_cons_zero, List.set_cons_succ]
      refine wpAnyH_take (i := 6) (oi := { dst := some 75, op := Op.move (Operand.tmp 7), type := 22, pos := "more.go:23", after := #[{ on := 1, ground := Ground.guard }], guard := some (1, true) }) (v := .slice a K.length c) rfl (by kernel_rfl) (by kernel_rfl) (by kernel_rfl) (fun _ _ _ h => h) (Or.inl ⟨by rfl, fun wx hS => ?_⟩) hH ?_
      · go_simp
      simp only [Act.put, List.setIfInBounds_toArray, List.set_cons_zero, List.set_cons_succ]
      refine wpAnyH_take (i := 7) (oi := { dst := some 76, op := Op.move (Operand.tmp 1), type := 22, pos := "more.go:23", after := #[{ on := 1, ground := Ground.guard }], guard := some (1, true) }) (v := .slice b f.length d) rfl (by kernel_rfl) (by kernel_rfl) (by kernel_rfl) (fun _ _ _ h => h) (Or.inl ⟨by rfl, fun wx hS => ?_⟩) hH ?_
      · go_simp
      simp only [Act.put, List.setIfInBounds_toArray, List.set_cons_zero, List.set_cons_succ]
      revert hH
      refine join3 (Q := ?Q1) (H := fun gx gy wx => Below w8.heap.size w8 wx ∧ cellsAt wx gy [.slice b f.length d]) (fun REST => ?main1) ?rest1
      case main1 =>
        intro hH
        refine wpAnyH_ready (rs := [4, 8]) (by kernel_rfl) (by simp) ?_
        refine AllReadyH.cons (o := { dst := some 73, op := Op.buildSlice 37 2 #[(0, Operand.tmp 71), (1, Operand.tmp 72)], type := 37, pos := "more.go:23", after := #[{ on := 2, ground := Ground.data }, { on := 3, ground := Ground.data }, { on := 1, ground := Ground.guard }], guard := some (1, true) }) rfl (fun KK hKK => ?_) ?_
        ·
          have q1 := cellsAt.new w4 #[.slice (some ⟨h, 0, none⟩) 64 64, .slice (some ⟨sb, 0, none⟩) 32 32] w4.heap.size 22 [.slice (some ⟨h, 0, none⟩) 64 64, .slice (some ⟨sb, 0, none⟩) 32 32] rfl rfl
          have hN := below_alloc' hH (.cells #[.slice (some ⟨h, 0, none⟩) 64 64, .slice (some ⟨sb, 0, none⟩) 32 32] 22 (0, 0))
          clear hH
          go_simp
          refine hKK.out _ _ hN (fun hH => ?_)
          clear hKK KK hN
          try simp only [Act.put, List.setIfInBounds_toArray, List.set_cons_zero, List.set_cons_succ]
          generalize w4.alloc (.cells #[.slice (some ⟨h, 0, none⟩) 64 64, .slice (some ⟨sb, 0, none⟩) 32 32] 22 (0, 0)) = wa1 at *
          generalize w4.heap.size = gx at *
          refine wpAnyH_ready (rs := [5, 8]) (by kernel_rfl) (by simp) ?_
          refine AllReadyH.cons (o := { dst := some 74, op := Op.call { callee := Callee.value (Operand.func 14), args := #[Operand.tmp 73], argTypes := #[37] }, type := 28, pos := "more.go:23", after := #[{ on := 4, ground := Ground.data }, { on := 1, ground := Ground.chain }, { on := 1, ground := Ground.guard }], guard := some (1, true) }) rfl (fun KK hKK => ?_) ?_
          ·
            go_simp
            refine (PO.out _ _ hH q1).mono ?_
            rintro e wb1 ⟨rfl, k5, kq⟩
            clear hH q1 kq
            refine hKK.out _ _ k5 (fun hH => ?_)
            clear hKK KK k5
            try simp only [Act.put, List.setIfInBounds_toArray, List.set_cons_zero, List.set_cons_succ]
            refine wpAnyH_ready (rs := [8]) (by kernel_rfl) (by simp) ?_
            refine AllReadyH.cons (o := { dst := some 77, op := Op.buildSlice 37 1 #[(0, Operand.tmp 76)], type := 37, pos := "more.go:23", after := #[{ on := 7, ground := Ground.data }, { on := 1, ground := Ground.guard }], guard := some (1, true) }) rfl (fun KK hKK => ?_) AllReadyH.nil
            have q2 := cellsAt.new wb1 #[.slice b f.length d] wb1.heap.size 22 [.slice b f.length d] rfl rfl
            have hN := below_alloc' hH (.cells #[.slice b f.length d] 22 (0, 0))
            clear hH
            go_simp
            refine hKK.out _ _ hN (fun hH => ?_)
            clear hKK KK hN
            try simp only [Act.put, List.setIfInBounds_toArray, List.set_cons_zero, List.set_cons_succ]
            generalize wb1.alloc (.cells #[.slice b f.length d] 22 (0, 0)) = wc1 at *
            generalize wb1.heap.size = gy at *
            refine wpAnyH_listed (L2 := #[true, true, true, true, true, true, true, true, true, false, false, false, false, false, false, false, false, false, false, false, false, false, false, false, false, false, false, false, false, false, false, false, false, false, false, false, false, false, false, false]) (by kernel_rfl) ?_
            exact REST gx gy wc1 ⟨hH, q2⟩
          refine AllReadyH.cons (o := { dst := some 77, op := Op.buildSlice 37 1 #[(0, Operand.tmp 76)], type := 37, pos := "more.go:23", after := #[{ on := 7, ground := Ground.data }, { on := 1, ground := Ground.guard }], guard := some (1, true) }) rfl (fun KK hKK => ?_) AllReadyH.nil
          have q2 := cellsAt.new wa1 #[.slice b f.length d] wa1.heap.size 22 [.slice b f.length d] rfl rfl
          replace q1 := q1.old (.cells #[.slice b f.length d] 22 (0, 0))
          have hN := below_alloc' hH (.cells #[.slice b f.length d] 22 (0, 0))
          clear hH
          go_simp
          refine hKK.out _ _ hN (fun hH => ?_)
          clear hKK KK hN
          try simp only [Act.put, List.setIfInBounds_toArray, List.set_cons_zero, List.set_cons_succ]
          generalize wa1.alloc (.cells #[.slice b f.length d] 22 (0, 0)) = wb1 at *
          generalize wa1.heap.size = gy at *
          refine wpAnyH_ready (rs := [5]) (by kernel_rfl) (by simp) ?_
          refine AllReadyH.cons (o := { dst := some 74, op := Op.call { callee := Callee.value (Operand.func 14), args := #[Operand.tmp 73], argTypes := #[37] }, type := 28, pos := "more.go:23", after := #[{ on := 4, ground := Ground.data }, { on := 1, ground := Ground.chain }, { on := 1, ground := Ground.guard }], guard := some (1, true) }) rfl (fun KK hKK => ?_) AllReadyH.nil
          go_simp
          refine (PO.out _ _ hH q1).mono ?_
          rintro e wc1 ⟨rfl, k5, kq⟩
          replace q2 := q2.keep kq
          clear hH q1 kq
          refine hKK.out _ _ k5 (fun hH => ?_)
          clear hKK KK k5
          try simp only [Act.put, List.setIfInBounds_toArray, List.set_cons_zero, List.set_cons_succ]
          refine wpAnyH_listed (L2 := #[true, true, true, true, true, true, true, true, true, false, false, false, false, false, false, false, false, false, false, false, false, false, false, false, false, false, false, false, false, false, false, false, false, false, false, false, false, false, false, false]) (by kernel_rfl) ?_
          exact REST gx gy wc1 ⟨hH, q2⟩
        refine AllReadyH.cons (o := { dst := some 77, op := Op.buildSlice 37 1 #[(0, Operand.tmp 76)], type := 37, pos := "more.go:23", after := #[{ on := 7, ground := Ground.data }, { on := 1, ground := Ground.guard }], guard := some (1, true) }) rfl (fun KK hKK => ?_) AllReadyH.nil
        have q2 := cellsAt.new w4 #[.slice b f.length d] w4.heap.size 22 [.slice b f.length d] rfl rfl
        have hN := below_alloc' hH (.cells #[.slice b f.length d] 22 (0, 0))
        clear hH
        go_simp
        refine hKK.out _ _ hN (fun hH => ?_)
        clear hKK KK hN
        try simp only [Act.put, List.setIfInBounds_toArray, List.set_cons_zero, List.set_cons_succ]
        generalize w4.alloc (.cells #[.slice b f.length d] 22 (0, 0)) = wa1 at *
        generalize w4.heap.size = gy at *
        refine wpAnyH_ready (rs := [4]) (by kernel_rfl) (by simp) ?_
        refine AllReadyH.cons (o := { dst := some 73, op := Op.buildSlice 37 2 #[(0, Operand.tmp 71), (1, Operand.tmp 72)], type := 37, pos := "more.go:23", after := #[{ on := 2, ground := Ground.data }, { on := 3, ground := Ground.data }, { on := 1, ground := Ground.guard }], guard := some (1, true) }) rfl (fun KK hKK => ?_) AllReadyH.nil
        have q1 := cellsAt.new wa1 #[.slice (some ⟨h, 0, none⟩) 64 64, .slice (some ⟨sb, 0, none⟩) 32 32] wa1.heap.size 22 [.slice (some ⟨h, 0, none⟩) 64 64, .slice (some ⟨sb, 0, none⟩) 32 32] rfl rfl
        replace q2 := q2.old (.cells #[.slice (some ⟨h, 0, none⟩) 64 64, .slice (some ⟨sb, 0, none⟩) 32 32] 22 (0, 0))
        have hN := below_alloc' hH (.cells #[.slice (some ⟨h, 0, none⟩) 64 64, .slice (some ⟨sb, 0, none⟩) 32 32] 22 (0, 0))
        clear hH
        go_simp
        refine hKK.out _ _ hN (fun hH => ?_)
        clear hKK KK hN
        try simp only [Act.put, List.setIfInBounds_toArray, List.set_cons_zero, List.set_cons_succ]
        generalize wa1.alloc (.cells #[.slice (some ⟨h, 0, none⟩) 64 64, .slice (some ⟨sb, 0, none⟩) 32 32] 22 (0, 0)) = wb1 at *
        generalize wa1.heap.size = gx at *
        refine wpAnyH_ready (rs := [5]) (by kernel_rfl) (by simp) ?_
        refine AllReadyH.cons (o := { dst := some 74, op := Op.call { callee := Callee.value (Operand.func 14), args := #[Operand.tmp 73], argTypes := #[37] }, type := 28, pos := "more.go:23", after := #[{ on := 4, ground := Ground.data }, { on := 1, ground := Ground.chain }, { on := 1, ground := Ground.guard }], guard := some (1, true) }) rfl (fun KK hKK => ?_) AllReadyH.nil
        go_simp
        refine (PO.out _ _ hH q1).mono ?_
        rintro e wc1 ⟨rfl, k5, kq⟩
        replace q2 := q2.keep kq
        clear hH q1 kq
        refine hKK.out _ _ k5 (fun hH => ?_)
        clear hKK KK k5
        try simp only [Act.put, List.setIfInBounds_toArray, List.set_cons_zero, List.set_cons_succ]
        refine wpAnyH_listed (L2 := #[true, true, true, true, true, true, true, true, true, false, false, false, false, false, false, false, false, false, false, false, false, false, false, false, false, false, false, false, false, false, false, false, false, false, false, false, false, false, false, false]) (by kernel_rfl) ?_
        exact REST gx gy wc1 ⟨hH, q2⟩
      case rest1 =>
        rintro gx1 gy1 wx1 ⟨hH, q2⟩
        refine wpAnyH_ready (rs := [9]) (by kernel_rfl) (by simp) ?_
        refine AllReadyH.cons (o := { dst := some 78, op := Op.call { callee := Callee.value (Operand.func 16), args := #[Operand.tmp 75, Operand.tmp 77], argTypes := #[22, 37] }, type := 28, pos := "more.go:23", after := #[{ on := 6, ground := Ground.data }, { on := 8, ground := Ground.data }, { on := 5, ground := Ground.chain }, { on := 1, ground := Ground.guard }], guard := some (1, true) }) rfl (fun KK hKK => ?_) AllReadyH.nil
        go_simp
        refine (P1.out _ _ hH q2).mono ?_
        rintro e w6 ⟨rfl, k6, -⟩
        clear hH q2
        refine hKK.out _ _ k6 (fun hH => ?_)
        clear hKK KK k6
        try simp only [Act.put, List.setIfInBounds_toArray, List.set_cons_zero, List.set_cons_succ]
        refine wpAnyH_take (i := 10) (oi := { dst := some 79, op := Op.binOp BinOp.eql 28 (Operand.tmp 74) (Operand.tmp 78) 28, type := 4, pos := "more.go:23", after := #[{ on := 5, ground := Ground.data }, { on := 9, ground := Ground.data }, { on := 1, ground := Ground.guard }], guard := some (1, true) }) (v := .bool true) rfl (by kernel_rfl) (by kernel_rfl) (by kernel_rfl) (fun _ _ _ h => h) (Or.inl ⟨by rfl, fun wx hS => ?_⟩) hH ?_
        · exact eql_op _ _ _ _ H1 rfl rfl rfl HL1.out wx
        simp only [Act.put, List.setIfInBounds_toArray, List.set_cons_zero, List.set_cons_succ]
        refine wpAnyH_take (i := 11) (oi := { dst := some 80, op := Op.pick (Operand.tmp 70) (Operand.tmp 79) (Operand.const (Value.bool false)), type := 4, pos := "more.go:23", after := #[{ on := 1, ground := Ground.data }, { on := 10, ground := Ground.data }], guard := none }) (v := .bool true) rfl (by kernel_rfl) (by kernel_rfl) (by kernel_rfl) (fun _ _ _ h => h) (Or.inl ⟨by rfl, fun wx hS => ?_⟩) hH ?_
        · go_simp
        simp only [Act.put, List.setIfInBounds_toArray, List.set_cons_zero, List.set_cons_succ]
        refine wpAnyH_take (i := 12) (oi := { dst := some 81, op := Op.move (Operand.tmp 80), type := 4, pos := "more.go:23", after := #[{ on := 11, ground := Ground.data }, { on := 9, ground := Ground.chain }], guard := none }) (v := .bool true) rfl (by kernel_rfl) (by kernel_rfl) (by kernel_rfl) (fun _ _ _ h => h) (Or.inl ⟨by rfl, fun wx hS => ?_⟩) hH ?_
        · go_simp
        simp only [Act.put, List.setIfInBounds_toArray, List.set_cons_zero, List.set_cons_succ]
        refine wpAnyH_take (i := 13) (oi := { dst := some 82, op := Op.move (Operand.tmp 13), type := 22, pos := "more.go:23", after := #[{ on := 12, ground := Ground.guard }], guard := some (12, true) }) (v := .slice al 65 cl) rfl (by kernel_rfl) (by kernel_rfl) (by kernel_rfl) (fun _ _ _ h => h) (Or.inl ⟨by rfl, fun wx hS => ?_⟩) hH ?_
        · go_simp
        simp only [Act.put, List.setIfInBounds_toArray, List.set_cons_zero, List.set_cons_succ]
        refine wpAnyH_take (i := 14) (oi := { dst := some 83, op := Op.move (Operand.tmp 1), type := 22, pos := "more.go:23", after := #[{ on := 12, ground := Ground.guard }], guard := some (12, true) }) (v := .slice b f.length d) rfl (by kernel_rfl) (by kernel_rfl) (by kernel_rfl) (fun _ _ _ h => h) (Or.inl ⟨by rfl, fun wx hS => ?_⟩) hH ?_
        · go_simp
        simp only [Act.put, List.setIfInBounds_toArray, List.set_cons_zero, List.set_cons_succ]
        refine wpAnyH_take (i := 17) (oi := { dst := some 86, op := Op.slice 28 (Operand.tmp 14) none none none, type := 22, pos := "more.go:23", after := #[{ on := 12, ground := Ground.guard }], guard := some (12, true) }) (v := .slice (some ⟨ob, 0, none⟩) 32 32) rfl (by kernel_rfl) (by kernel_rfl) (by kernel_rfl) (fun _ _ _ h => h) (Or.inl ⟨by rfl, fun wx hS => ?_⟩) hH ?_
        · go_simp
        simp only [Act.put, List.setIfInBounds_toArray, List.set_cons_zero, List.set_cons_succ]
        refine wpAnyH_take (i := 18) (oi := { dst := some 87, op := Op.move (Operand.tmp 1), type := 22, pos := "more.go:23", after := #[{ on := 12, ground := Ground.guard }], guard := some (12, true) }) (v := .slice b f.length d) rfl (by kernel_rfl) (by kernel_rfl) (by kernel_rfl) (fun _ _ _ h => h) (Or.inl ⟨by rfl, fun wx hS => ?_⟩) hH ?_
        · go_simp
        simp only [Act.put, List.setIfInBounds_toArray, List.set_cons_zero, List.set_cons_succ]
        revert hH
        refine join3 (Q := ?Q2) (H := fun gx gy wx => Below w8.heap.size w8 wx ∧ cellsAt wx gy [.slice b f.length d]) (fun REST => ?main2) ?rest2
        case main2 =>
          intro hH
          refine wpAnyH_ready (rs := [15, 19]) (by kernel_rfl) (by simp) ?_
          refine AllReadyH.cons (o := { dst := some 84, op := Op.buildSlice 37 1 #[(0, Operand.tmp 83)], type := 37, pos := "more.go:23", after := #[{ on := 14, ground := Ground.data }, { on := 12, ground := Ground.guard }], guard := some (12, true) }) rfl (fun KK hKK => ?_) ?_
          ·
            have q1 := cellsAt.new w6 #[.slice b f.length d] w6.heap.size 22 [.slice b f.length d] rfl rfl
            have hN := below_alloc' hH (.cells #[.slice b f.length d] 22 (0, 0))
            clear hH
            go_simp
            refine hKK.out _ _ hN (fun hH => ?_)
            clear hKK KK hN
            try simp only [Act.put, List.setIfInBounds_toArray, List.set_cons_zero, List.set_cons_succ]
            generalize w6.alloc (.cells #[.slice b f.length d] 22 (0, 0)) = wa2 at *
            generalize w6.heap.size = gx at *
            refine wpAnyH_ready (rs := [16, 19]) (by kernel_rfl) (by simp) ?_
            refine AllReadyH.cons (o := { dst := some 85, op := Op.call { callee := Callee.value (Operand.func 16), args := #[Operand.tmp 82, Operand.tmp 84], argTypes := #[22, 37] }, type := 28, pos := "more.go:23", after := #[{ on := 13, ground := Ground.data }, { on := 15, ground := Ground.data }, { on := 12, ground := Ground.chain }, { on := 12, ground := Ground.guard }], guard := some (12, true) }) rfl (fun KK hKK => ?_) ?_
            ·
              go_simp
              refine (P2.out _ _ hH q1).mono ?_
              rintro e wb2 ⟨rfl, k5, kq⟩
              clear hH q1 kq
              refine hKK.out _ _ k5 (fun hH => ?_)
              clear hKK KK k5
              try simp only [Act.put, List.setIfInBounds_toArray, List.set_cons_zero, List.set_cons_succ]
              refine wpAnyH_ready (rs := [19]) (by kernel_rfl) (by simp) ?_
              refine AllReadyH.cons (o := { dst := some 88, op := Op.buildSlice 37 1 #[(0, Operand.tmp 87)], type := 37, pos := "more.go:23", after := #[{ on := 18, ground := Ground.data }, { on := 12, ground := Ground.guard }], guard := some (12, true) }) rfl (fun KK hKK => ?_) AllReadyH.nil
              have q2 := cellsAt.new wb2 #[.slice b f.length d] wb2.heap.size 22 [.slice b f.length d] rfl rfl
              have hN := below_alloc' hH (.cells #[.slice b f.length d] 22 (0, 0))
              clear hH
              go_simp
              refine hKK.out _ _ hN (fun hH => ?_)
              clear hKK KK hN
              try simp only [Act.put, List.setIfInBounds_toArray, List.set_cons_zero, List.set_cons_succ]
              generalize wb2.alloc (.cells #[.slice b f.length d] 22 (0, 0)) = wc2 at *
              generalize wb2.heap.size = gy at *
              refine wpAnyH_listed (L2 := #[true, true, true, true, true, true, true, true, true, true, true, true, true, true, true, true, true, true, true, true, false, false, false, false, false, false, false, false, false, false, false, false, false, false, false, false, false, false, false, false]) (by kernel_rfl) ?_
              exact REST gx gy wc2 ⟨hH, q2⟩
            refine AllReadyH.cons (o := { dst := some 88, op := Op.buildSlice 37 1 #[(0, Operand.tmp 87)], type := 37, pos := "more.go:23", after := #[{ on := 18, ground := Ground.data }, { on := 12, ground := Ground.guard }], guard := some (12, true) }) rfl (fun KK hKK => ?_) AllReadyH.nil
            have q2 := cellsAt.new wa2 #[.slice b f.length d] wa2.heap.size 22 [.slice b f.length d] rfl rfl
            replace q1 := q1.old (.cells #[.slice b f.length d] 22 (0, 0))
            have hN := below_alloc' hH (.cells #[.slice b f.length d] 22 (0, 0))
            clear hH
            go_simp
            refine hKK.out _ _ hN (fun hH => ?_)
            clear hKK KK hN
            try simp only [Act.put, List.setIfInBounds_toArray, List.set_cons_zero, List.set_cons_succ]
            generalize wa2.alloc (.cells #[.slice b f.length d] 22 (0, 0)) = wb2 at *
            generalize wa2.heap.size = gy at *
            refine wpAnyH_ready (rs := [16]) (by kernel_rfl) (by simp) ?_
            refine AllReadyH.cons (o := { dst := some 85, op := Op.call { callee := Callee.value (Operand.func 16), args := #[Operand.tmp 82, Operand.tmp 84], argTypes := #[22, 37] }, type := 28, pos := "more.go:23", after := #[{ on := 13, ground := Ground.data }, { on := 15, ground := Ground.data }, { on := 12, ground := Ground.chain }, { on := 12, ground := Ground.guard }], guard := some (12, true) }) rfl (fun KK hKK => ?_) AllReadyH.nil
            go_simp
            refine (P2.out _ _ hH q1).mono ?_
            rintro e wc2 ⟨rfl, k5, kq⟩
            replace q2 := q2.keep kq
            clear hH q1 kq
            refine hKK.out _ _ k5 (fun hH => ?_)
            clear hKK KK k5
            try simp only [Act.put, List.setIfInBounds_toArray, List.set_cons_zero, List.set_cons_succ]
            refine wpAnyH_listed (L2 := #[true, true, true, true, true, true, true, true, true, true, true, true, true, true, true, true, true, true, true, true, false, false, false, false, false, false, false, false, false, false, false, false, false, false, false, false, false, false, false, false]) (by kernel_rfl) ?_
            exact REST gx gy wc2 ⟨hH, q2⟩
          refine AllReadyH.cons (o := { dst := some 88, op := Op.buildSlice 37 1 #[(0, Operand.tmp 87)], type := 37, pos := "more.go:23", after := #[{ on := 18, ground := Ground.data }, { on := 12, ground := Ground.guard }], guard := some (12, true) }) rfl (fun KK hKK => ?_) AllReadyH.nil
          have q2 := cellsAt.new w6 #[.slice b f.length d] w6.heap.size 22 [.slice b f.length d] rfl rfl
          have hN := below_alloc' hH (.cells #[.slice b f.length d] 22 (0, 0))
          clear hH
          go_simp
          refine hKK.out _ _ hN (fun hH => ?_)
          clear hKK KK hN
          try simp only [Act.put, List.setIfInBounds_toArray, List.set_cons_zero, List.set_cons_succ]
          generalize w6.alloc (.cells #[.slice b f.length d] 22 (0, 0)) = wa2 at *
          generalize w6.heap.size = gy at *
          refine wpAnyH_ready (rs := [15]) (by kernel_rfl) (by simp) ?_
          refine AllReadyH.cons (o := { dst := some 84, op := Op.buildSlice 37 1 #[(0, Operand.tmp 83)], type := 37, pos := "more.go:23", after := #[{ on := 14, ground := Ground.data }, { on := 12, ground := Ground.guard }], guard := some (12, true) }) rfl (fun KK hKK => ?_) AllReadyH.nil
          have q1 := cellsAt.new wa2 #[.slice b f.length d] wa2.heap.size 22 [.slice b f.length d] rfl rfl
          replace q2 := q2.old (.cells #[.slice b f.length d] 22 (0, 0))
          have hN := below_alloc' hH (.cells #[.slice b f.length d] 22 (0, 0))
          clear hH
          go_simp
          refine hKK.out _ _ hN (fun hH => ?_)
          clear hKK KK hN
          try simp only [Act.put, List.setIfInBounds_toArray, List.set_cons_zero, List.set_cons_succ]
          generalize wa2.alloc (.cells #[.slice b f.length d] 22 (0, 0)) = wb2 at *
          generalize wa2.heap.size = gx at *
          refine wpAnyH_ready (rs := [16]) (by kernel_rfl) (by simp) ?_
          refine AllReadyH.cons (o := { dst := some 85, op := Op.call { callee := Callee.value (Operand.func 16), args := #[Operand.tmp 82, Operand.tmp 84], argTypes := #[22, 37] }, type := 28, pos := "more.go:23", after := #[{ on := 13, ground := Ground.data }, { on := 15, ground := Ground.data }, { on := 12, ground := Ground.chain }, { on := 12, ground := Ground.guard }], guard := some (12, true) }) rfl (fun KK hKK => ?_) AllReadyH.nil
          go_simp
          refine (P2.out _ _ hH q1).mono ?_
          rintro e wc2 ⟨rfl, k5, kq⟩
          replace q2 := q2.keep kq
          clear hH q1 kq
          refine hKK.out _ _ k5 (fun hH => ?_)
          clear hKK KK k5
          try simp only [Act.put, List.setIfInBounds_toArray, List.set_cons_zero, List.set_cons_succ]
          refine wpAnyH_listed (L2 := #[true, true, true, true, true, true, true, true, true, true, true, true, true, true, true, true, true, true, true, true, false, false, false, false, false, false, false, false, false, false, false, false, false, false, false, false, false, false, false, false]) (by kernel_rfl) ?_
          exact REST gx gy wc2 ⟨hH, q2⟩
        case rest2 =>
          rintro gx2 gy2 wx2 ⟨hH, q2⟩
          refine wpAnyH_ready (rs := [20]) (by kernel_rfl) (by simp) ?_
          refine AllReadyH.cons (o := { dst := some 89, op := Op.call { callee := Callee.value (Operand.func 16), args := #[Operand.tmp 86, Operand.tmp 88], argTypes := #[22, 37] }, type := 28, pos := "more.go:23", after := #[{ on := 17, ground := Ground.data }, { on := 19, ground := Ground.data }, { on := 16, ground := Ground.chain }, { on := 12, ground := Ground.guard }], guard := some (12, true) }) rfl (fun KK hKK => ?_) AllReadyH.nil
          go_simp
          refine (P3.out _ _ hH q2).mono ?_
          rintro e w6 ⟨rfl, k6, -⟩
          clear hH q2
          refine hKK.out _ _ k6 (fun hH => ?_)
          clear hKK KK k6
          try simp only [Act.put, List.setIfInBounds_toArray, List.set_cons_zero, List.set_cons_succ]
          refine wpAnyH_take (i := 21) (oi := { dst := some 90, op := Op.binOp BinOp.eql 28 (Operand.tmp 85) (Operand.tmp 89) 28, type := 4, pos := "more.go:23", after := #[{ on := 16, ground := Ground.data }, { on := 20, ground := Ground.data }, { on := 12, ground := Ground.guard }], guard := some (12, true) }) (v := .bool true) rfl (by kernel_rfl) (by kernel_rfl) (by kernel_rfl) (fun _ _ _ h => h) (Or.inl ⟨by rfl, fun wx hS => ?_⟩) hH ?_
          · exact eql_op _ _ _ _ H2 rfl rfl rfl HL2.out wx
          simp only [Act.put, List.setIfInBounds_toArray, List.set_cons_zero, List.set_cons_succ]
          refine wpAnyH_take (i := 22) (oi := { dst := some 91, op := Op.pick (Operand.tmp 81) (Operand.tmp 90) (Operand.const (Value.bool false)), type := 4, pos := "more.go:23", after := #[{ on := 12, ground := Ground.data }, { on := 21, ground := Ground.data }], guard := none }) (v := .bool true) rfl (by kernel_rfl) (by kernel_rfl) (by kernel_rfl) (fun _ _ _ h => h) (Or.inl ⟨by rfl, fun wx hS => ?_⟩) hH ?_
          · go_simp
          simp only [Act.put, List.setIfInBounds_toArray, List.set_cons_zero, List.set_cons_succ]
          refine wpAnyH_take (i := 23) (oi := { dst := some 92, op := Op.move (Operand.tmp 91), type := 4, pos := "more.go:23", after := #[{ on := 22, ground := Ground.data }, { on := 20, ground := Ground.chain }], guard := none }) (v := .bool true) rfl (by kernel_rfl) (by kernel_rfl) (by kernel_rfl) (fun _ _ _ h => h) (Or.inl ⟨by rfl, fun wx hS => ?_⟩) hH ?_
          · go_simp
          simp only [Act.put, List.setIfInBounds_toArray, List.set_cons_zero, List.set_cons_succ]
          refine wpAnyH_take (i := 24) (oi := { dst := some 93, op := Op.move (Operand.tmp 13), type := 22, pos := "more.go:23", after := #[{ on := 23, ground := Ground.guard }], guard := some (23, true) }) (v := .slice al 65 cl) rfl (by kernel_rfl) (by kernel_rfl) (by kernel_rfl) (fun _ _ _ h => h) (Or.inl ⟨by rfl, fun wx hS => ?_⟩) hH ?_
          · go_simp
          simp only [Act.put, List.setIfInBounds_toArray, List.set_cons_zero, List.set_cons_succ]
          refine wpAnyH_take (i := 25) (oi := { dst := some 94, op := Op.move (Operand.tmp 7), type := 22, pos := "more.go:23", after := #[{ on := 23, ground := Ground.guard }], guard := some (23, true) }) (v := .slice a K.length c) rfl (by kernel_rfl) (by kernel_rfl) (by kernel_rfl) (fun _ _ _ h => h) (Or.inl ⟨by rfl, fun wx hS => ?_⟩) hH ?_
          · go_simp
          simp only [Act.put, List.setIfInBounds_toArray, List.set_cons_zero, List.set_cons_succ]
          refine wpAnyH_take (i := 26) (oi := { dst := some 95, op := Op.call { callee := Callee.builtin Builtin.len, args := #[Operand.tmp 94], argTypes := #[22] }, type := 3, pos := "more.go:23", after := #[{ on := 25, ground := Ground.data }, { on := 23, ground := Ground.guard }], guard := some (23, true) }) (v := .int .i64 (K.length : Int)) rfl (by kernel_rfl) (by kernel_rfl) (by kernel_rfl) (fun _ _ _ h => h) (Or.inl ⟨by rfl, fun wx hS => ?_⟩) hH ?_
          · go_simp
          simp only [Act.put, List.setIfInBounds_toArray, List.set_cons_zero, List.set_cons_succ]
          refine wpAnyH_take (i := 27) (oi := { dst := some 96, op := Op.move (Operand.tmp 15), type := 3, pos := "more.go:23", after := #[{ on := 23, ground := Ground.guard }], guard := some (23, true) }) (v := .int .i64 (i : Int)) rfl (by kernel_rfl) (by kernel_rfl) (by kernel_rfl) (fun _ _ _ h => h) (Or.inl ⟨by rfl, fun wx hS => ?_⟩) hH ?_
          · go_simp
          simp only [Act.put, List.setIfInBounds_toArray, List.set_cons_zero, List.set_cons_succ]
          refine wpAnyH_take (i := 28) (oi := { dst := some 97, op := Op.binOp BinOp.add 3 (Operand.tmp 95) (Operand.tmp 96) 3, type := 3, pos := "more.go:23", after := #[{ on := 26, ground := Ground.data }, { on := 27, ground := Ground.data }, { on := 23, ground := Ground.guard }], guard := some (23, true) }) (v := .int .i64 (j : Int)) rfl (by kernel_rfl) (by kernel_rfl) (by kernel_rfl) (fun _ _ _ h => h) (Or.inl ⟨by rfl, fun wx hS => ?_⟩) hH ?_
          · go_simp
          simp only [Act.put, List.setIfInBounds_toArray, List.set_cons_zero, List.set_cons_succ]
          refine wpAnyH_take (i := 29) (oi := { dst := some 98, op := Op.slice 22 (Operand.tmp 93) none (some (Operand.tmp 97)) none, type := 22, pos := "more.go:23", after := #[{ on := 24, ground := Ground.data }, { on := 28, ground := Ground.data }, { on := 23, ground := Ground.guard }], guard := some (23, true) }) (v := .slice ja jl jc) rfl (by kernel_rfl) (by kernel_rfl) (by kernel_rfl) (fun _ _ _ h => h) (Or.inl ⟨by rfl, fun wx hS => ?_⟩) hH ?_
          · go_simp
          simp only [Act.put, List.setIfInBounds_toArray, List.set_cons_zero, List.set_cons_succ]
          refine wpAnyH_take (i := 30) (oi := { dst := some 99, op := Op.move (Operand.tmp 1), type := 22, pos := "more.go:23", after := #[{ on := 23, ground := Ground.guard }], guard := some (23, true) }) (v := .slice b f.length d) rfl (by kernel_rfl) (by kernel_rfl) (by kernel_rfl) (fun _ _ _ h => h) (Or.inl ⟨by rfl, fun wx hS => ?_⟩) hH ?_
          · go_simp
          simp only [Act.put, List.setIfInBounds_toArray, List.set_cons_zero, List.set_cons_succ]
          refine wpAnyH_take (i := 33) (oi := { dst := some 102, op := Op.move (Operand.tmp 7), type := 22, pos := "more.go:23", after := #[{ on := 23, ground := Ground.guard }], guard := some (23, true) }) (v := .slice a K.length c) rfl (by kernel_rfl) (by kernel_rfl) (by kernel_rfl) (fun _ _ _ h => h) (Or.inl ⟨by rfl, fun wx hS => ?_⟩) hH ?_
          · go_simp
          simp only [Act.put, List.setIfInBounds_toArray, List.set_cons_zero, List.set_cons_succ]
          refine wpAnyH_take (i := 34) (oi := { dst := some 103, op := Op.move (Operand.tmp 1), type := 22, pos := "more.go:23", after := #[{ on := 23, ground := Ground.guard }], guard := some (23, true) }) (v := .slice b f.length d) rfl (by kernel_rfl) (by kernel_rfl) (by kernel_rfl) (fun _ _ _ h => h) (Or.inl ⟨by rfl, fun wx hS => ?_⟩) hH ?_
          · go_simp
          simp only [Act.put, List.setIfInBounds_toArray, List.set_cons_zero, List.set_cons_succ]
          revert hH
          refine join3 (Q := ?Q3) (H := fun gx gy wx => Below w8.heap.size w8 wx ∧ cellsAt wx gy [.slice b f.length d]) (fun REST => ?main3) ?rest3
          case main3 =>
            intro hH
            refine wpAnyH_ready (rs := [31, 35]) (by kernel_rfl) (by simp) ?_
            refine AllReadyH.cons (o := { dst := some 100, op := Op.buildSlice 37 1 #[(0, Operand.tmp 99)], type := 37, pos := "more.go:23", after := #[{ on := 30, ground := Ground.data }, { on := 23, ground := Ground.guard }], guard := some (23, true) }) rfl (fun KK hKK => ?_) ?_
            ·
              have q1 := cellsAt.new w6 #[.slice b f.length d] w6.heap.size 22 [.slice b f.length d] rfl rfl
              have hN := below_alloc' hH (.cells #[.slice b f.length d] 22 (0, 0))
              clear hH
              go_simp
              refine hKK.out _ _ hN (fun hH => ?_)
              clear hKK KK hN
              try simp only [Act.put, List.setIfInBounds_toArray, List.set_cons_zero, List.set_cons_succ]
              generalize w6.alloc (.cells #[.slice b f.length d] 22 (0, 0)) = wa3 at *
              generalize w6.heap.size = gx at *
              refine wpAnyH_ready (rs := [32, 35]) (by kernel_rfl) (by simp) ?_
              refine AllReadyH.cons (o := { dst := some 101, op := Op.call { callee := Callee.value (Operand.func 16), args := #[Operand.tmp 98, Operand.tmp 100], argTypes := #[22, 37] }, type := 28, pos := "more.go:23", after := #[{ on := 29, ground := Ground.data }, { on := 31, ground := Ground.data }, { on := 23, ground := Ground.chain }, { on := 23, ground := Ground.guard }], guard := some (23, true) }) rfl (fun KK hKK => ?_) ?_
              ·
                go_simp
                refine (P4.out _ _ hH q1).mono ?_
                rintro e wb3 ⟨rfl, k5, kq⟩
                clear hH q1 kq
                refine hKK.out _ _ k5 (fun hH => ?_)
                clear hKK KK k5
                try simp only [Act.put, List.setIfInBounds_toArray, List.set_cons_zero, List.set_cons_succ]
                refine wpAnyH_ready (rs := [35]) (by kernel_rfl) (by simp) ?_
                refine AllReadyH.cons (o := { dst := some 104, op := Op.buildSlice 37 1 #[(0, Operand.tmp 103)], type := 37, pos := "more.go:23", after := #[{ on := 34, ground := Ground.data }, { on := 23, ground := Ground.guard }], guard := some (23, true) }) rfl (fun KK hKK => ?_) AllReadyH.nil
                have q2 := cellsAt.new wb3 #[.slice b f.length d] wb3.heap.size 22 [.slice b f.length d] rfl rfl
                have hN := below_alloc' hH (.cells #[.slice b f.length d] 22 (0, 0))
                clear hH
                go_simp
                refine hKK.out _ _ hN (fun hH => ?_)
                clear hKK KK hN
                try simp only [Act.put, List.setIfInBounds_toArray, List.set_cons_zero, List.set_cons_succ]
                generalize wb3.alloc (.cells #[.slice b f.length d] 22 (0, 0)) = wc3 at *
                generalize wb3.heap.size = gy at *
                refine wpAnyH_listed (L2 := #[true, true, true, true, true, true, true, true, true, true, true, true, true, true, true, true, true, true, true, true, true, true, true, true, true, true, true, true, true, true, true, true, true, true, true, true, false, false, false, false]) (by kernel_rfl) ?_
                exact REST gx gy wc3 ⟨hH, q2⟩
              refine AllReadyH.cons (o := { dst := some 104, op := Op.buildSlice 37 1 #[(0, Operand.tmp 103)], type := 37, pos := "more.go:23", after := #[{ on := 34, ground := Ground.data }, { on := 23, ground := Ground.guard }], guard := some (23, true) }) rfl (fun KK hKK => ?_) AllReadyH.nil
              have q2 := cellsAt.new wa3 #[.slice b f.length d] wa3.heap.size 22 [.slice b f.length d] rfl rfl
              replace q1 := q1.old (.cells #[.slice b f.length d] 22 (0, 0))
              have hN := below_alloc' hH (.cells #[.slice b f.length d] 22 (0, 0))
              clear hH
              go_simp
              refine hKK.out _ _ hN (fun hH => ?_)
              clear hKK KK hN
              try simp only [Act.put, List.setIfInBounds_toArray, List.set_cons_zero, List.set_cons_succ]
              generalize wa3.alloc (.cells #[.slice b f.length d] 22 (0, 0)) = wb3 at *
              generalize wa3.heap.size = gy at *
              refine wpAnyH_ready (rs := [32]) (by kernel_rfl) (by simp) ?_
              refine AllReadyH.cons (o := { dst := some 101, op := Op.call { callee := Callee.value (Operand.func 16), args := #[Operand.tmp 98, Operand.tmp 100], argTypes := #[22, 37] }, type := 28, pos := "more.go:23", after := #[{ on := 29, ground := Ground.data }, { on := 31, ground := Ground.data }, { on := 23, ground := Ground.chain }, { on := 23, ground := Ground.guard }], guard := some (23, true) }) rfl (fun KK hKK => ?_) AllReadyH.nil
              go_simp
              refine (P4.out _ _ hH q1).mono ?_
              rintro e wc3 ⟨rfl, k5, kq⟩
              replace q2 := q2.keep kq
              clear hH q1 kq
              refine hKK.out _ _ k5 (fun hH => ?_)
              clear hKK KK k5
              try simp only [Act.put, List.setIfInBounds_toArray, List.set_cons_zero, List.set_cons_succ]
              refine wpAnyH_listed (L2 := #[true, true, true, true, true, true, true, true, true, true, true, true, true, true, true, true, true, true, true, true, true, true, true, true, true, true, true, true, true, true, true, true, true, true, true, true, false, false, false, false]) (by kernel_rfl) ?_
              exact REST gx gy wc3 ⟨hH, q2⟩
            refine AllReadyH.cons (o := { dst := some 104, op := Op.buildSlice 37 1 #[(0, Operand.tmp 103)], type := 37, pos := "more.go:23", after := #[{ on := 34, ground := Ground.data }, { on := 23, ground := Ground.guard }], guard := some (23, true) }) rfl (fun KK hKK => ?_) AllReadyH.nil
            have q2 := cellsAt.new w6 #[.slice b f.length d] w6.heap.size 22 [.slice b f.length d] rfl rfl
            have hN := below_alloc' hH (.cells #[.slice b f.length d] 22 (0, 0))
            clear hH
            go_simp
            refine hKK.out _ _ hN (fun hH => ?_)
            clear hKK KK hN
            try simp only [Act.put, List.setIfInBounds_toArray, List.set_cons_zero, List.set_cons_succ]
            generalize w6.alloc (.cells #[.slice b f.length d] 22 (0, 0)) = wa3 at *
            generalize w6.heap.size = gy at *
            refine wpAnyH_ready (rs := [31]) (by kernel_rfl) (by simp) ?_
            refine AllReadyH.cons (o := { dst := some 100, op := Op.buildSlice 37 1 #[(0, Operand.tmp 99)], type := 37, pos := "more.go:23", after := #[{ on := 30, ground := Ground.data }, { on := 23, ground := Ground.guard }], guard := some (23, true) }) rfl (fun KK hKK => ?_) AllReadyH.nil
            have q1 := cellsAt.new wa3 #[.slice b f.length d] wa3.heap.size 22 [.slice b f.length d] rfl rfl
            replace q2 := q2.old (.cells #[.slice b f.length d] 22 (0, 0))
            have hN := below_alloc' hH (.cells #[.slice b f.length d] 22 (0, 0))
            clear hH
            go_simp
            refine hKK.out _ _ hN (fun hH => ?_)
            clear hKK KK hN
            try simp only [Act.put, List.setIfInBounds_toArray, List.set_cons_zero, List.set_cons_succ]
            generalize wa3.alloc (.cells #[.slice b f.length d] 22 (0, 0)) = wb3 at *
            generalize wa3.heap.size = gx at *
            refine wpAnyH_ready (rs := [32]) (by kernel_rfl) (by simp) ?_
            refine AllReadyH.cons (o := { dst := some 101, op := Op.call { callee := Callee.value (Operand.func 16), args := #[Operand.tmp 98, Operand.tmp 100], argTypes := #[22, 37] }, type := 28, pos := "more.go:23", after := #[{ on := 29, ground := Ground.data }, { on := 31, ground := Ground.data }, { on := 23, ground := Ground.chain }, { on := 23, ground := Ground.guard }], guard := some (23, true) }) rfl (fun KK hKK => ?_) AllReadyH.nil
            go_simp
            refine (P4.out _ _ hH q1).mono ?_
            rintro e wc3 ⟨rfl, k5, kq⟩
            replace q2 := q2.keep kq
            clear hH q1 kq
            refine hKK.out _ _ k5 (fun hH => ?_)
            clear hKK KK k5
            try simp only [Act.put, List.setIfInBounds_toArray, List.set_cons_zero, List.set_cons_succ]
            refine wpAnyH_listed (L2 := #[true, true, true, true, true, true, true, true, true, true, true, true, true, true, true, true, true, true, true, true, true, true, true, true, true, true, true, true, true, true, true, true, true, true, true, true, false, false, false, false]) (by kernel_rfl) ?_
            exact REST gx gy wc3 ⟨hH, q2⟩
          case rest3 =>
            rintro gx3 gy3 wx3 ⟨hH, q2⟩
            refine wpAnyH_ready (rs := [36]) (by kernel_rfl) (by simp) ?_
            refine AllReadyH.cons (o := { dst := some 105, op := Op.call { callee := Callee.value (Operand.func 16), args := #[Operand.tmp 102, Operand.tmp 104], argTypes := #[22, 37] }, type := 28, pos := "more.go:23", after := #[{ on := 33, ground := Ground.data }, { on := 35, ground := Ground.data }, { on := 32, ground := Ground.chain }, { on := 23, ground := Ground.guard }], guard := some (23, true) }) rfl (fun KK hKK => ?_) AllReadyH.nil
            go_simp
            refine (P1.out _ _ hH q2).mono ?_
            rintro e w6 ⟨rfl, k6, -⟩
            clear hH q2
            refine hKK.out _ _ k6 (fun hH => ?_)
            clear hKK KK k6
            try simp only [Act.put, List.setIfInBounds_toArray, List.set_cons_zero, List.set_cons_succ]
            refine wpAnyH_take (i := 37) (oi := { dst := some 106, op := Op.binOp BinOp.eql 28 (Operand.tmp 101) (Operand.tmp 105) 28, type := 4, pos := "more.go:23", after := #[{ on := 32, ground := Ground.data }, { on := 36, ground := Ground.data }, { on := 23, ground := Ground.guard }], guard := some (23, true) }) (v := .bool true) rfl (by kernel_rfl) (by kernel_rfl) (by kernel_rfl) (fun _ _ _ h => h) (Or.inl ⟨by rfl, fun wx hS => ?_⟩) hH ?_
            · exact eql_op _ _ _ _ H1 rfl rfl rfl HL1.out wx
            simp only [Act.put, List.setIfInBounds_toArray, List.set_cons_zero, List.set_cons_succ]
            refine wpAnyH_take (i := 38) (oi := { dst := some 107, op := Op.pick (Operand.tmp 92) (Operand.tmp 106) (Operand.const (Value.bool false)), type := 4, pos := "more.go:23", after := #[{ on := 23, ground := Ground.data }, { on := 37, ground := Ground.data }], guard := none }) (v := .bool true) rfl (by kernel_rfl) (by kernel_rfl) (by kernel_rfl) (fun _ _ _ h => h) (Or.inl ⟨by rfl, fun wx hS => ?_⟩) hH ?_
            · go_simp
            simp only [Act.put, List.setIfInBounds_toArray, List.set_cons_zero, List.set_cons_succ]
            refine wpAnyH_take (i := 39) (oi := { dst := some 6, op := Op.assign (Operand.tmp 107), type := 4, pos := "more.go:23", after := #[{ on := 38, ground := Ground.data }, { on := 36, ground := Ground.chain }, { on := 0, ground := Ground.phase }, { on := 1, ground := Ground.phase }, { on := 2, ground := Ground.phase }, { on := 3, ground := Ground.phase }, { on := 4, ground := Ground.phase }, { on := 5, ground := Ground.phase }, { on := 6, ground := Ground.phase }, { on := 7, ground := Ground.phase }, { on := 8, ground := Ground.phase }, { on := 9, ground := Ground.phase }, { on := 10, ground := Ground.phase }, { on := 11, ground := Ground.phase }, { on := 12, ground := Ground.phase }, { on := 13, ground := Ground.phase }, { on := 14, ground := Ground.phase }, { on := 15, ground := Ground.phase }, { on := 16, ground := Ground.phase }, { on := 17, ground := Ground.phase }, { on := 18, ground := Ground.phase }, { on := 19, ground := Ground.phase }, { on := 20, ground := Ground.phase }, { on := 21, ground := Ground.phase }, { on := 22, ground := Ground.phase }, { on := 23, ground := Ground.phase }, { on := 24, ground := Ground.phase }, { on := 25, ground := Ground.phase }, { on := 26, ground := Ground.phase }, { on := 27, ground := Ground.phase }, { on := 28, ground := Ground.phase }, { on := 29, ground := Ground.phase }, { on := 30, ground := Ground.phase }, { on := 31, ground := Ground.phase }, { on := 32, ground := Ground.phase }, { on := 33, ground := Ground.phase }, { on := 34, ground := Ground.phase }, { on := 35, ground := Ground.phase }, { on := 36, ground := Ground.phase }, { on := 37, ground := Ground.phase }, { on := 38, ground := Ground.phase }], guard := none }) (v := .bool true) rfl (by kernel_rfl) (by kernel_rfl) (by kernel_rfl) (fun _ _ _ h => h) (Or.inl ⟨by rfl, fun wx hS => ?_⟩) hH ?_
            · go_simp
            simp only [Act.put, List.setIfInBounds_toArray, List.set_cons_zero, List.set_cons_succ]
            refine wpAnyH_done (by kernel_rfl) ?_ _
            refine NoPanic.normal ?_
            clear hq1 hq2 hgt g1 es1 es2
            go_wp2_with fail
            go_ret
            exact ⟨rfl, FW.out.trans (hH.mono FW.out.size)⟩
end Go.Proofs.YthgmebdbccjmlaaDoor
