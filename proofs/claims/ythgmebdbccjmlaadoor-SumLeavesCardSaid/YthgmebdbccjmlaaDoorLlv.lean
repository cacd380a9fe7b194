/- The law SumLeaves: its walk. -/
import Derived.Test.YthgmebdbccjmlaaDoorRoom
import Derived.Test.YthgmebdbccjmlaaDoorCat
import Derived.Test.YthgmebdbccjmlaaDoorEq
import Derived.Test.YthgmebdbccjmlaaDoorLsm
import Derived.Deep.DeepCutAuto
namespace Go.Proofs.YthgmebdbccjmlaaDoor
open Go.RowKit Sha

theorem zeros_get (l : List UInt8) (n m : Nat) (h1 : l.length ≤ m) (h2 : m < l.length + n) : (byteCells l ++ byteCells (List.replicate n 0))[m]? = some (.int .u8 0) := by
  rw [List.getElem?_append_right (by rw [byteCells_length]; exact h1), byteCells_length, byteCells_get _ _ (by rw [List.length_replicate]; omega)]
  have e : (List.replicate n (0 : UInt8)).getD (m - l.length) 0 = 0 := by
    rw [List.getD_eq_getElem?_getD, List.getElem?_replicate]
    split <;> rfl
  rw [e]
  rfl

set_option maxRecDepth 100000 in
set_option maxHeartbeats 4000000 in
theorem law_sumLeaves (a : Option Addr) (c : Nat) (K0 : List UInt8) (b : Option Addr) (d : Nat) (B : List UInt8) (w : World) (hK : K0.length ≤ c) (hc : c ≤ 140737488355328) (hink : bytesIn w a K0) (hB : B.length ≤ d) (hd : d ≤ 140737488355328) (hin : bytesIn w b B) (ht : tables w) :
    Calls Tryd.prog 8 #[.slice a K0.length c, .slice b B.length d] w fun e w' => e = .returned (.bool true) ∧ Below w.heap.size w w' := by
  have hc := Nat.le_trans hc (show 140737488355328 ≤ 9223372036854775807 by omega)
  have hd := Nat.le_trans hd (show 140737488355328 ≤ 9223372036854775807 by omega)
  have HT := Lib.hid ht
  have HK := Lib.hid (hink.take 200)
  have HF := Lib.hid (hin.take 3000)
  have e2 : min B.length 3000 = (B.take 3000).length := by rw [List.length_take]; omega
  have e3 : (K0.take 200).length ≤ c := by rw [List.length_take]; omega
  have e4 : (K0.take 200).length ≤ 200 := by rw [List.length_take]; omega
  have e5 : (B.take 3000).length ≤ d := by rw [List.length_take]; omega
  have e6 : (B.take 3000).length ≤ 3000 := by rw [List.length_take]; omega
  have E2 := Lib.hid e2
  clear ht hink hin e2
  go_enter Tryd.func8, Tryd.ntmps8
  go_upto_region 1 with fail
  go_cut [0, 1] (fun s0 s1 wx => s0 = .slice a (K0.take 200).length c ∧ s1 = .slice b (B.take 3000).length d ∧ Hid (Below w.heap.size w wx))
  case first =>
    go_quiet (first | (go_at_call 10; exact Calls.quiet_of_same ((bytes_any _ _ _ _ (by omega) (by omega)).mono fun _ _ h => ⟨h.1, h.2.symm⟩)))
    go_wp2_with fail
    all_goals
      go_meet
      case rel => exact ⟨slice_len (by rw [List.length_take]; omega), slice_len (by rw [List.length_take]; omega), Lib.hid (below_drewN' (Below.refl _ _) _)⟩
  obtain ⟨rfl, rfl, B0⟩ := hcut
  clear hK hB E2
  have Q1 := Lib.hid (HK.out.below B0.out)
  have Q2 := Lib.hid (HF.out.below B0.out)
  have Q3 := Lib.hid (HT.out.below B0.out HT.out.2.2.1 HT.out.2.2.2)
  generalize K0.take 200 = K at *
  generalize B.take 3000 = f at *
  clear HK HF HT
  generalize wc = w2 at *
  have s1 : IntKind.i64.wrap ((K.length : Int) + 70) = ((K.length + 70 : Nat) : Int) := by rw [IntWalk.i64_in _ (by omega)]; omega
  have s2 : IntKind.i64.wrap ((f.length : Int) + 70) = ((f.length + 70 : Nat) : Int) := by rw [IntWalk.i64_in _ (by omega)]; omega
  have t1 : (K.length : Int) + 70 = ((K.length + 70 : Nat) : Int) := by omega
  have t2 : (f.length : Int) + 70 = ((f.length + 70 : Nat) : Int) := by omega
  have m1 := fun wx => make_room (K.length + 70) wx (by omega)
  have m2 := fun wx => make_room (f.length + 70) wx (by omega)
  obtain ⟨kn, hkn⟩ : ∃ kn, kn = K.length + 70 := ⟨_, rfl⟩
  obtain ⟨fn, hfn⟩ : ∃ fn, fn = f.length + 70 := ⟨_, rfl⟩
  rw [← hkn] at s1 t1 m1
  rw [← hfn] at s2 t2 m2
  have hkl : K.length ≤ kn := by omega
  have hfl : f.length ≤ fn := by omega
  have hk2 : kn ≤ 270 := by omega
  have hf2 : fn ≤ 3070 := by omega
  have HKN := Lib.hid hkn
  have HFN := Lib.hid hfn
  clear hkn hfn
  have G1 := Lib.hid (blockIs.new w2 (byteCells (List.replicate kn 0)) 5)
  have A1 := Lib.hid (alloc_below w2 (.cells (byteCells (List.replicate kn 0)).toArray 5 (0, 0)))
  go_wp2_with (refine append_room rfl _ _ rfl w2.heap.size kn _ rfl G1.out (by rw [byteCells_length, List.length_replicate]) _ K.length c K rfl rfl (Q1.out.below A1.out) hkl ?_)
  intro w3 h1 h2 h3
  have D1 : Hid ((byteCells (List.replicate kn 0)).drop K.length = byteCells (List.replicate 70 0)) := Lib.hid (by
    unfold byteCells
    rw [← List.map_drop, List.drop_replicate, HKN.out]
    congr 2
    omega)
  have h1 := h1.out
  rw [D1.out] at h1
  have B3 : Hid (Below w2.heap.size w2 w3) := Lib.hid (A1.out.trans (h2.out.below (Nat.le_refl _) A1.out.size))
  have GK := Lib.hid h1
  have SZ : Hid (w2.heap.size < w3.heap.size) := Lib.hid h1.lt
  have F3 := Lib.hid (B0.out.trans (B3.out.mono B0.out.size))
  have X1 := Lib.hid (Q1.out.below B3.out)
  have X2 := Lib.hid (Q2.out.below B3.out)
  have X3 := Lib.hid (Q3.out.below B3.out Q3.out.2.2.1 Q3.out.2.2.2)
  clear h1 h2 h3 G1 A1 D1 s1 t1 m1 Q1 Q2 Q3 B3 B0
  generalize w2.heap.size = kg at *
  have G1 := Lib.hid (blockIs.new w3 (byteCells (List.replicate fn 0)) 5)
  have A1 := Lib.hid (alloc_below w3 (.cells (byteCells (List.replicate fn 0)).toArray 5 (0, 0)))
  go_wp2_with (refine append_room rfl _ _ rfl w3.heap.size fn _ rfl G1.out (by rw [byteCells_length, List.length_replicate]) _ f.length d f rfl rfl (X2.out.below A1.out) hfl ?_)
  intro w4 h1 h2 h3
  have D1 : Hid ((byteCells (List.replicate fn 0)).drop f.length = byteCells (List.replicate 70 0)) := Lib.hid (by
    unfold byteCells
    rw [← List.map_drop, List.drop_replicate, HFN.out]
    congr 2
    omega)
  have h1 := h1.out
  rw [D1.out] at h1
  have B4 : Hid (Below w3.heap.size w3 w4) := Lib.hid (A1.out.trans (h2.out.below (Nat.le_refl _) A1.out.size))
  have GC := Lib.hid h1
  have GK := Lib.hid (GK.out.below B4.out SZ.out)
  have F4 := Lib.hid (F3.out.trans (B4.out.mono F3.out.size))
  have X1 := Lib.hid (X1.out.below B4.out)
  have X2 := Lib.hid (X2.out.below B4.out)
  have X3 := Lib.hid (X3.out.below B4.out X3.out.2.2.1 X3.out.2.2.2)
  clear h1 h2 h3 G1 A1 D1 s2 t2 m2 B4 SZ F3
  generalize w3.heap.size = cg at *
  -- the parts
  have IK : Hid (bytesIn w4 (some ⟨kg, 0, none⟩) K) := Lib.hid (Or.inr ⟨_, _, rfl, fun j hj => by
    rw [Nat.zero_add, GK.out.cell, List.getElem?_append_left (by rw [byteCells_length]; exact hj)]
    exact byteCells_get _ _ hj⟩)
  have IC : Hid (bytesIn w4 (some ⟨cg, 0, none⟩) f) := Lib.hid (Or.inr ⟨_, _, rfl, fun j hj => by
    rw [Nat.zero_add, GC.out.cell, List.getElem?_append_left (by rw [byteCells_length]; exact hj)]
    exact byteCells_get _ _ hj⟩)
  obtain ⟨h, hh⟩ : ∃ h, h = f.length / 2 := ⟨_, rfl⟩
  have hq : (f.length : Int) / 2 = (h : Int) := by omega
  have hhl : h ≤ f.length := by omega
  clear hh
  have pk : (⟨some ⟨kg, 0, none⟩, kn, K⟩ : Pt).ok w4 := ⟨hkl, by show kn ≤ 9223372036854775807; omega, IK.out⟩
  have pc : (⟨some ⟨cg, 0, none⟩, fn, f⟩ : Pt).ok w4 := ⟨hfl, by show fn ≤ 9223372036854775807; omega, IC.out⟩
  have pk' : (⟨a, c, K⟩ : Pt).ok w4 := ⟨e3, hc, X1.out⟩
  have pc' : (⟨b, d, f⟩ : Pt).ok w4 := ⟨e5, hd, X2.out⟩
  have ph := Pt.sub_ok pc 0 h (by omega) hhl
  have ph' := Pt.sub_ok pc' 0 h (by omega) hhl
  have g1 := fun wx => (⟨some ⟨cg, 0, none⟩, fn, f⟩ : Pt).run_h h hhl hfl wx
  have g2 := fun wx => (⟨b, d, f⟩ : Pt).run_h h hhl e5 wx
  have hflat : [f, (f.take h).drop 0, f].flatten = f ++ (f.take h ++ f) := by simp
  have hflen : (f ++ (f.take h ++ f)).length ≤ 900000 := by simp only [List.length_append, List.length_take]; omega
  have ky1 := kf_at w4 [⟨some ⟨cg, 0, none⟩, fn, f⟩, (⟨some ⟨cg, 0, none⟩, fn, f⟩ : Pt).sub 0 h, ⟨some ⟨cg, 0, none⟩, fn, f⟩] _ rfl X3.out (by simp only [List.mem_cons, List.not_mem_nil, or_false]; rintro p (rfl | rfl | rfl) <;> assumption) (f ++ (f.take h ++ f)) hflat hflen 3 rfl (by omega) ⟨some ⟨kg, 0, none⟩, kn, K⟩ pk (by show K.length ≤ _; omega)
  have st1 := stretch_at w4 ⟨some ⟨kg, 0, none⟩, kn, K⟩ ⟨some ⟨cg, 0, none⟩, fn, f⟩ X3.out pk pc (by show K.length ≤ _; omega) (by show f.length ≤ _; omega) 2 (by omega)
  simp only [List.map_cons, List.map_nil, Pt.val] at ky1
  dsimp only at ky1 st1 g1 g2
  have KY1 := Lib.hid ky1
  have ST1 := Lib.hid st1
  have HXl : Hid ((hmac K (f ++ (f.take h ++ f))).length = 32) := Lib.hid (hmac_length _ _)
  have HYl : Hid ((stretch K f (2 : Int).toNat).length = 32) := Lib.hid (stretch_length _ _ _)
  have HFL := Lib.hid hflat
  have HFN2 := Lib.hid hflen
  have HHL := Lib.hid hhl
  have HQ := Lib.hid hq
  clear ky1 st1 pk pc pk' pc' ph ph' hflat hflen hhl
  generalize hHX : hmac K (f ++ (f.take h ++ f)) = HX at *
  generalize hHY : stretch K f (2 : Int).toNat = HY at *
  have EX := Lib.hid hHX
  have EY := Lib.hid hHY
  clear hHX hHY
  generalize (⟨some ⟨cg, 0, none⟩, fn, f⟩ : Pt).sub 0 h = u at *
  have EU : Hid ((⟨b, d, f⟩ : Pt).sub 0 h = (⟨b, d, f⟩ : Pt).sub 0 h) := Lib.hid rfl
  clear g2 EU
  have BB := Lib.hid (Below.refl w4.heap.size w4)
  go_wp2_with fail
  refine (KY1.out _ _ (below_alloc' BB.out _) (cellsAt.new _ _ _ _ _ rfl rfl)).mono ?_
  rintro e w5 ⟨rfl, k5, -⟩
  have K5 := Lib.hid k5
  clear k5
  go_wp2_with fail
  refine (ST1.out _ K5.out).mono ?_
  rintro e w6 ⟨rfl, k6⟩
  have K6 := Lib.hid k6
  clear k6
  have hz28 := zero28
  have N1 := Lib.hid ((blockIs.new w6 (zeros 32) 28).alloc (.cells (zeros 32).toArray 28 (0, 0)))
  have N2 := Lib.hid (blockIs.last (w6.alloc (.cells (zeros 32).toArray 28 (0, 0))) (zeros 32) 28 (w6.heap.size + 1) (by simp))
  have N3 : Hid (Below w6.heap.size w6 ((w6.alloc (.cells (zeros 32).toArray 28 (0, 0))).alloc (.cells (zeros 32).toArray 28 (0, 0)))) := Lib.hid ((alloc_below w6 _).alloc (by simp) _)
  go_wp2_with (refine wpList_store_block rfl 28 _ _ rfl w6.heap.size 0 (byteCells HX) rfl rfl (zeros 32) 28 N1.out (by rw [info28, byteCells_length, HXl.out]) (by simp [zeros, byteCells_length, HXl.out]) (byteCells_one _) ?_)
  intro w7 h1 h2 h3
  have h1 := h1.out
  rw [splice_all _ _ (by simp [zeros, byteCells_length, HXl.out])] at h1
  have R1 := Lib.hid h1
  have N2 := Lib.hid (h2.out.is N2.out (by omega))
  have N3 : Hid (Below w6.heap.size w6 w7) := Lib.hid (N3.out.trans (h2.out.below (Nat.le_refl _) N3.out.size))
  clear h1 h2 h3 N1
  go_wp2_with (refine wpList_store_block rfl 28 _ _ rfl (w6.heap.size + 1) 0 (byteCells HY) rfl rfl (zeros 32) 28 N2.out (by rw [info28, byteCells_length, HYl.out]) (by simp [zeros, byteCells_length, HYl.out]) (byteCells_one _) ?_)
  intro w8 h1 h2 h3
  have h1 := h1.out
  rw [splice_all _ _ (by simp [zeros, byteCells_length, HYl.out])] at h1
  have R2 := Lib.hid h1
  have R1 := Lib.hid (h2.out.is R1.out (by omega))
  have N3 : Hid (Below w6.heap.size w6 w8) := Lib.hid (N3.out.trans (h2.out.below (by omega) N3.out.size))
  have F0 : Hid (Below w4.heap.size w4 w8) := Lib.hid (K6.out.trans (N3.out.mono K6.out.size))
  clear h1 h2 h3 N2 N3 KY1 ST1 K5 K6 hz28 BB g1 hq IK IC
  have GK := Lib.hid (GK.out.below F0.out GK.out.lt)
  have GC := Lib.hid (GC.out.below F0.out GC.out.lt)
  have X1 := Lib.hid (X1.out.below F0.out)
  have X2 := Lib.hid (X2.out.below F0.out)
  have X3 := Lib.hid (X3.out.below F0.out X3.out.2.2.1 X3.out.2.2.2)
  have FW := Lib.hid (F4.out.trans (F0.out.mono F4.out.size))
  clear F0 F4
  generalize w6.heap.size = xb at *
  have hkz : ¬ kn = 0 := by have := HKN.out; omega
  have hfz : ¬ fn = 0 := by have := HFN.out; omega
  go_upto_region 5 with fail
  go_cut [9, 10] (fun u v wx => u = .slice (some ⟨kg, 0, none⟩) kn kn ∧ v = .slice (some ⟨cg, 0, none⟩) fn fn ∧ Hid (Below w8.heap.size w8 wx))
  case first =>
    go_quiet (fail)
    go_wp2_with fail
    all_goals
      go_meet
      case rel => exact ⟨rfl, rfl, Lib.hid (below_drewN' (Below.refl _ _) _)⟩
  obtain ⟨rfl, rfl, F0⟩ := hcut
  have GK := Lib.hid (GK.out.below F0.out GK.out.lt)
  have GC := Lib.hid (GC.out.below F0.out GC.out.lt)
  have R1 := Lib.hid (R1.out.below F0.out R1.out.lt)
  have R2 := Lib.hid (R2.out.below F0.out R2.out.lt)
  have X1 := Lib.hid (X1.out.below F0.out)
  have X2 := Lib.hid (X2.out.below F0.out)
  have X3 := Lib.hid (X3.out.below F0.out X3.out.2.2.1 X3.out.2.2.2)
  have FW := Lib.hid (FW.out.trans (F0.out.mono FW.out.size))
  clear F0 hkz hfz
  generalize wc = w9 at *
  go_wp2_with fail
  go_loopw [11] (fun i wr => ∃ m : Nat, K.length ≤ m ∧ m ≤ kn ∧ i = .int .i64 (m : Int) ∧ w9 = wr) (fun i _ => kn - (intOf i).toNat)
  case atStart => exact ⟨K.length, Nat.le_refl _, hkl, rfl, rfl⟩
  case round =>
    obtain ⟨m, hm1, hm2, rfl, rfl⟩ := hrel
    by_cases hlt : m < kn
    · have c1 : w9.cell? ⟨kg, m, none⟩ = some (.int .u8 0) := by rw [GK.out.cell]; exact zeros_get K 70 m hm1 (by have := HKN.out; omega)
      have p : 0 ≤ (m : Int) := by omega
      have q : (m : Int) < (kn : Int) := by omega
      go_wp2_with fail
      go_roundw
      case rel => exact ⟨m + 1, by omega, by omega, by go_num, by first | trivial | rfl⟩
      case measure => simp [intOf]; omega
    · obtain rfl : m = kn := by omega
      go_wp2_with fail
      go_loopw [12] (fun i wr => ∃ m : Nat, f.length ≤ m ∧ m ≤ fn ∧ i = .int .i64 (m : Int) ∧ w9 = wr) (fun i _ => fn - (intOf i).toNat)
      case atStart => exact ⟨f.length, Nat.le_refl _, hfl, rfl, rfl⟩
      case round =>
        obtain ⟨j, hj1, hj2, rfl, rfl⟩ := hrel
        by_cases hlt2 : j < fn
        · have c1 : w9.cell? ⟨cg, j, none⟩ = some (.int .u8 0) := by rw [GC.out.cell]; exact zeros_get f 70 j hj1 (by have := HFN.out; omega)
          have p : 0 ≤ (j : Int) := by omega
          have q : (j : Int) < (fn : Int) := by omega
          go_wp2_with fail
          go_roundw
          case rel => exact ⟨j + 1, by omega, by omega, by go_num, by first | trivial | rfl⟩
          case measure => simp [intOf]; omega
        · obtain rfl : j = fn := by omega
          have IK : bytesIn w9 (some ⟨kg, 0, none⟩) K := Or.inr ⟨_, _, rfl, fun q hq => by
            rw [Nat.zero_add, GK.out.cell, List.getElem?_append_left (by rw [byteCells_length]; exact hq)]
            exact byteCells_get _ _ hq⟩
          have IC : bytesIn w9 (some ⟨cg, 0, none⟩) f := Or.inr ⟨_, _, rfl, fun q hq => by
            rw [Nat.zero_add, GC.out.cell, List.getElem?_append_left (by rw [byteCells_length]; exact hq)]
            exact byteCells_get _ _ hq⟩
          have cv1 : ∀ wx : World, Below w9.heap.size w9 wx → (convert 22 9 (.slice (some ⟨kg, 0, none⟩) K.length m)).run Tryd.prog wx = .ok (.string (str K)) wx := fun wx hx => conv_string wx _ K m (IK.below hx)
          have cv2 : ∀ wx : World, Below w9.heap.size w9 wx → (convert 22 9 (.slice a K.length c)).run Tryd.prog wx = .ok (.string (str K)) wx := fun wx hx => conv_string wx _ K c (X1.out.below hx)
          have cv3 : ∀ wx : World, Below w9.heap.size w9 wx → (convert 22 9 (.slice (some ⟨cg, 0, none⟩) f.length j)).run Tryd.prog wx = .ok (.string (str f)) wx := fun wx hx => conv_string wx _ f j (IC.below hx)
          have cv4 : ∀ wx : World, Below w9.heap.size w9 wx → (convert 22 9 (.slice b f.length d)).run Tryd.prog wx = .ok (.string (str f)) wx := fun wx hx => conv_string wx _ f d (X2.out.below hx)
          have pk : (⟨a, c, K⟩ : Pt).ok w9 := ⟨e3, hc, X1.out⟩
          have pc : (⟨b, d, f⟩ : Pt).ok w9 := ⟨e5, hd, X2.out⟩
          have ph := Pt.sub_ok pc 0 h (by omega) HHL.out
          have g2 := fun wx => (⟨b, d, f⟩ : Pt).run_h h HHL.out e5 wx
          have ky := kf_at w9 [⟨b, d, f⟩, (⟨b, d, f⟩ : Pt).sub 0 h, ⟨b, d, f⟩] _ rfl X3.out (by simp only [List.mem_cons, List.not_mem_nil, or_false]; rintro p (rfl | rfl | rfl) <;> assumption) (f ++ (f.take h ++ f)) HFL.out HFN2.out 3 rfl (by omega) ⟨a, c, K⟩ pk (by show K.length ≤ _; omega)
          have st := stretch_at w9 ⟨a, c, K⟩ ⟨b, d, f⟩ X3.out pk pc (by show K.length ≤ _; omega) (by show f.length ≤ _; omega) 2 (by omega)
          simp only [List.map_cons, List.map_nil, Pt.val] at ky
          dsimp only at ky st g2
          rw [EX.out] at ky
          rw [EY.out] at st
          have KY := Lib.hid ky
          have ST := Lib.hid st
          have PS := Lib.hid (sums_at w9 X3.out)
          have hq : (f.length : Int) / 2 = (h : Int) := HQ.out
          have hqt : (f.length : Int).tdiv 2 = (h : Int) := by rw [Int.tdiv_eq_ediv_of_nonneg (by omega)]; exact HQ.out
          have hw1 : IntKind.i64.wrap (h : Int) = (h : Int) := IntWalk.i64_in _ (by have := HHL.out; omega)
          have hw2 : wrap64 (h : Int) = (h : Int) := by unfold wrap64; have := HHL.out; omega
          have hu := Tryd.underlying28
          have hi1 : (Tryd.prog.info? 28).map (·.size) = some (byteCells HX).length := by rw [info28, byteCells_length, HXl.out]
          have hi2 : (Tryd.prog.info? 28).map (·.size) = some (byteCells HY).length := by rw [info28, byteCells_length, HYl.out]
          have hq1 := eql_sums HX HXl.out
          have hq2 := eql_sums HY HYl.out
          have hgt := egt28
          have KP : Hid (∀ w', Below w9.heap.size w9 w' → Below w9.heap.size w9 w' ∧ w'.rangeAt xb 0 (byteCells HX) ∧ w'.rangeAt (xb + 1) 0 (byteCells HY)) := Lib.hid fun w' hb => ⟨hb, range_of (R1.out.below hb R1.out.lt), range_of (R2.out.below hb R2.out.lt)⟩
          clear ky st pk pc ph IK IC EX EY HFL HFN2 HHL HQ hlt hlt2 hm1 hm2 hj1 hj2
          generalize (⟨b, d, f⟩ : Pt).sub 0 h = u' at *
          have BB := Below.refl w9.heap.size w9
          go_wp2_with fail
          refine wp_region_noPanic ?_
          refine wp_region_held_drew (S := fun w' => Below w9.heap.size w9 w' ∧ w'.rangeAt xb 0 (byteCells HX) ∧ w'.rangeAt (xb + 1) 0 (byteCells HY)) (by kernel_rfl) (KP.out _ (below_drew' BB)) (fun hH => ?_)
          refine wpAnyH_ready (rs := [0]) (by kernel_rfl) (by simp) ?_
          refine AllReadyH.cons (o := { dst := some 79, op := Op.call { callee := Callee.value (Operand.func 12), args := #[], argTypes := #[] }, type := 4, pos := "law.go:90", after := #[], guard := none }) rfl (fun KK hKK => ?_) AllReadyH.nil
          go_simp
          refine (PS.out _ hH.1).mono ?_
          rintro e w13 ⟨rfl, k13⟩
          clear hH
          refine hKK.out _ _ (KP.out _ k13) (fun hH => ?_)
          clear hKK KK k13
          try simp only [Act.put, List.setIfInBounds_toArray, List.set_cons_zero, List.set_cons_succ]
          refine wpAnyH_take (i := 1) (oi := { dst := some 80, op := Op.move (Operand.tmp 79), type := 4, pos := "law.go:90", after := #[{ on := 0, ground := Ground.data }, { on := 0, ground := Ground.chain }], guard := none }) (v := .bool true) rfl (by kernel_rfl) (by kernel_rfl) (by kernel_rfl) (fun _ _ _ h => h) (Or.inl ⟨by rfl, fun wx hS => ?_⟩) hH ?_
          · obtain ⟨x1, x2, x3⟩ := hS; go_simp
          simp only [Act.put, List.setIfInBounds_toArray, List.set_cons_zero, List.set_cons_succ]
          refine wpAnyH_take (i := 2) (oi := { dst := some 81, op := Op.move (Operand.tmp 5), type := 22, pos := "law.go:90", after := #[{ on := 1, ground := Ground.guard }], guard := some (1, true) }) (v := .slice (some ⟨kg, 0, none⟩) K.length m) rfl (by kernel_rfl) (by kernel_rfl) (by kernel_rfl) (fun _ _ _ h => h) (Or.inl ⟨by rfl, fun wx hS => ?_⟩) hH ?_
          · obtain ⟨x1, x2, x3⟩ := hS; go_simp
          simp only [Act.put, List.setIfInBounds_toArray, List.set_cons_zero, List.set_cons_succ]
          refine wpAnyH_take (i := 3) (oi := { dst := some 82, op := Op.convert 22 9 (Operand.tmp 81), type := 9, pos := "law.go:90", after := #[{ on := 2, ground := Ground.data }, { on := 1, ground := Ground.guard }], guard := some (1, true) }) (v := .string (str K)) rfl (by kernel_rfl) (by kernel_rfl) (by kernel_rfl) (fun _ _ _ h => h) (Or.inl ⟨by rfl, fun wx hS => ?_⟩) hH ?_
          · obtain ⟨x1, x2, x3⟩ := hS; go_simp
          simp only [Act.put, List.setIfInBounds_toArray, List.set_cons_zero, List.set_cons_succ]
          refine wpAnyH_take (i := 4) (oi := { dst := some 83, op := Op.move (Operand.tmp 0), type := 22, pos := "law.go:90", after := #[{ on := 1, ground := Ground.guard }], guard := some (1, true) }) (v := .slice a K.length c) rfl (by kernel_rfl) (by kernel_rfl) (by kernel_rfl) (fun _ _ _ h => h) (Or.inl ⟨by rfl, fun wx hS => ?_⟩) hH ?_
          · obtain ⟨x1, x2, x3⟩ := hS; go_simp
          simp only [Act.put, List.setIfInBounds_toArray, List.set_cons_zero, List.set_cons_succ]
          refine wpAnyH_take (i := 5) (oi := { dst := some 84, op := Op.convert 22 9 (Operand.tmp 83), type := 9, pos := "law.go:90", after := #[{ on := 4, ground := Ground.data }, { on := 1, ground := Ground.guard }], guard := some (1, true) }) (v := .string (str K)) rfl (by kernel_rfl) (by kernel_rfl) (by kernel_rfl) (fun _ _ _ h => h) (Or.inl ⟨by rfl, fun wx hS => ?_⟩) hH ?_
          · obtain ⟨x1, x2, x3⟩ := hS; go_simp
          simp only [Act.put, List.setIfInBounds_toArray, List.set_cons_zero, List.set_cons_succ]
          refine wpAnyH_take (i := 6) (oi := { dst := some 85, op := Op.binOp BinOp.eql 9 (Operand.tmp 82) (Operand.tmp 84) 9, type := 4, pos := "law.go:90", after := #[{ on := 3, ground := Ground.data }, { on := 5, ground := Ground.data }, { on := 1, ground := Ground.guard }], guard := some (1, true) }) (v := .bool true) rfl (by kernel_rfl) (by kernel_rfl) (by kernel_rfl) (fun _ _ _ h => h) (Or.inl ⟨by rfl, fun wx hS => ?_⟩) hH ?_
          · obtain ⟨x1, x2, x3⟩ := hS; go_simp
          simp only [Act.put, List.setIfInBounds_toArray, List.set_cons_zero, List.set_cons_succ]
          refine wpAnyH_take (i := 7) (oi := { dst := some 86, op := Op.pick (Operand.tmp 80) (Operand.tmp 85) (Operand.const (Value.bool false)), type := 4, pos := "law.go:90", after := #[{ on := 1, ground := Ground.data }, { on := 6, ground := Ground.data }], guard := none }) (v := .bool true) rfl (by kernel_rfl) (by kernel_rfl) (by kernel_rfl) (fun _ _ _ h => h) (Or.inl ⟨by rfl, fun wx hS => ?_⟩) hH ?_
          · obtain ⟨x1, x2, x3⟩ := hS; go_simp
          simp only [Act.put, List.setIfInBounds_toArray, List.set_cons_zero, List.set_cons_succ]
          refine wpAnyH_take (i := 8) (oi := { dst := some 87, op := Op.move (Operand.tmp 86), type := 4, pos := "law.go:90", after := #[{ on := 7, ground := Ground.data }, { on := 1, ground := Ground.chain }], guard := none }) (v := .bool true) rfl (by kernel_rfl) (by kernel_rfl) (by kernel_rfl) (fun _ _ _ h => h) (Or.inl ⟨by rfl, fun wx hS => ?_⟩) hH ?_
          · obtain ⟨x1, x2, x3⟩ := hS; go_simp
          simp only [Act.put, List.setIfInBounds_toArray, List.set_cons_zero, List.set_cons_succ]
          refine wpAnyH_take (i := 9) (oi := { dst := some 88, op := Op.move (Operand.tmp 6), type := 22, pos := "law.go:90", after := #[{ on := 8, ground := Ground.guard }], guard := some (8, true) }) (v := .slice (some ⟨cg, 0, none⟩) f.length j) rfl (by kernel_rfl) (by kernel_rfl) (by kernel_rfl) (fun _ _ _ h => h) (Or.inl ⟨by rfl, fun wx hS => ?_⟩) hH ?_
          · obtain ⟨x1, x2, x3⟩ := hS; go_simp
          simp only [Act.put, List.setIfInBounds_toArray, List.set_cons_zero, List.set_cons_succ]
          refine wpAnyH_take (i := 10) (oi := { dst := some 89, op := Op.convert 22 9 (Operand.tmp 88), type := 9, pos := "law.go:90", after := #[{ on := 9, ground := Ground.data }, { on := 8, ground := Ground.guard }], guard := some (8, true) }) (v := .string (str f)) rfl (by kernel_rfl) (by kernel_rfl) (by kernel_rfl) (fun _ _ _ h => h) (Or.inl ⟨by rfl, fun wx hS => ?_⟩) hH ?_
          · obtain ⟨x1, x2, x3⟩ := hS; go_simp
          simp only [Act.put, List.setIfInBounds_toArray, List.set_cons_zero, List.set_cons_succ]
          refine wpAnyH_take (i := 11) (oi := { dst := some 90, op := Op.move (Operand.tmp 1), type := 22, pos := "law.go:90", after := #[{ on := 8, ground := Ground.guard }], guard := some (8, true) }) (v := .slice b f.length d) rfl (by kernel_rfl) (by kernel_rfl) (by kernel_rfl) (fun _ _ _ h => h) (Or.inl ⟨by rfl, fun wx hS => ?_⟩) hH ?_
          · obtain ⟨x1, x2, x3⟩ := hS; go_simp
          simp only [Act.put, List.setIfInBounds_toArray, List.set_cons_zero, List.set_cons_succ]
          refine wpAnyH_take (i := 12) (oi := { dst := some 91, op := Op.convert 22 9 (Operand.tmp 90), type := 9, pos := "law.go:90", after := #[{ on := 11, ground := Ground.data }, { on := 8, ground := Ground.guard }], guard := some (8, true) }) (v := .string (str f)) rfl (by kernel_rfl) (by kernel_rfl) (by kernel_rfl) (fun _ _ _ h => h) (Or.inl ⟨by rfl, fun wx hS => ?_⟩) hH ?_
          · obtain ⟨x1, x2, x3⟩ := hS; go_simp
          simp only [Act.put, List.setIfInBounds_toArray, List.set_cons_zero, List.set_cons_succ]
          refine wpAnyH_take (i := 13) (oi := { dst := some 92, op := Op.binOp BinOp.eql 9 (Operand.tmp 89) (Operand.tmp 91) 9, type := 4, pos := "law.go:90", after := #[{ on := 10, ground := Ground.data }, { on := 12, ground := Ground.data }, { on := 8, ground := Ground.guard }], guard := some (8, true) }) (v := .bool true) rfl (by kernel_rfl) (by kernel_rfl) (by kernel_rfl) (fun _ _ _ h => h) (Or.inl ⟨by rfl, fun wx hS => ?_⟩) hH ?_
          · obtain ⟨x1, x2, x3⟩ := hS; go_simp
          simp only [Act.put, List.setIfInBounds_toArray, List.set_cons_zero, List.set_cons_succ]
          refine wpAnyH_take (i := 14) (oi := { dst := some 93, op := Op.pick (Operand.tmp 87) (Operand.tmp 92) (Operand.const (Value.bool false)), type := 4, pos := "law.go:90", after := #[{ on := 8, ground := Ground.data }, { on := 13, ground := Ground.data }], guard := none }) (v := .bool true) rfl (by kernel_rfl) (by kernel_rfl) (by kernel_rfl) (fun _ _ _ h => h) (Or.inl ⟨by rfl, fun wx hS => ?_⟩) hH ?_
          · obtain ⟨x1, x2, x3⟩ := hS; go_simp
          simp only [Act.put, List.setIfInBounds_toArray, List.set_cons_zero, List.set_cons_succ]
          refine wpAnyH_take (i := 15) (oi := { dst := some 94, op := Op.move (Operand.tmp 93), type := 4, pos := "law.go:90", after := #[{ on := 14, ground := Ground.data }, { on := 8, ground := Ground.chain }], guard := none }) (v := .bool true) rfl (by kernel_rfl) (by kernel_rfl) (by kernel_rfl) (fun _ _ _ h => h) (Or.inl ⟨by rfl, fun wx hS => ?_⟩) hH ?_
          · obtain ⟨x1, x2, x3⟩ := hS; go_simp
          simp only [Act.put, List.setIfInBounds_toArray, List.set_cons_zero, List.set_cons_succ]
          refine wpAnyH_take (i := 16) (oi := { dst := some 95, op := Op.move (Operand.tmp 0), type := 22, pos := "law.go:90", after := #[{ on := 15, ground := Ground.guard }], guard := some (15, true) }) (v := .slice a K.length c) rfl (by kernel_rfl) (by kernel_rfl) (by kernel_rfl) (fun _ _ _ h => h) (Or.inl ⟨by rfl, fun wx hS => ?_⟩) hH ?_
          · obtain ⟨x1, x2, x3⟩ := hS; go_simp
          simp only [Act.put, List.setIfInBounds_toArray, List.set_cons_zero, List.set_cons_succ]
          refine wpAnyH_take (i := 17) (oi := { dst := some 96, op := Op.move (Operand.tmp 1), type := 22, pos := "law.go:90", after := #[{ on := 15, ground := Ground.guard }], guard := some (15, true) }) (v := .slice b f.length d) rfl (by kernel_rfl) (by kernel_rfl) (by kernel_rfl) (fun _ _ _ h => h) (Or.inl ⟨by rfl, fun wx hS => ?_⟩) hH ?_
          · obtain ⟨x1, x2, x3⟩ := hS; go_simp
          simp only [Act.put, List.setIfInBounds_toArray, List.set_cons_zero, List.set_cons_succ]
          refine wpAnyH_take (i := 18) (oi := { dst := some 97, op := Op.move (Operand.tmp 1), type := 22, pos := "law.go:90", after := #[{ on := 15, ground := Ground.guard }], guard := some (15, true) }) (v := .slice b f.length d) rfl (by kernel_rfl) (by kernel_rfl) (by kernel_rfl) (fun _ _ _ h => h) (Or.inl ⟨by rfl, fun wx hS => ?_⟩) hH ?_
          · obtain ⟨x1, x2, x3⟩ := hS; go_simp
          simp only [Act.put, List.setIfInBounds_toArray, List.set_cons_zero, List.set_cons_succ]
          refine wpAnyH_take (i := 19) (oi := { dst := some 98, op := Op.move (Operand.tmp 1), type := 22, pos := "law.go:90", after := #[{ on := 15, ground := Ground.guard }], guard := some (15, true) }) (v := .slice b f.length d) rfl (by kernel_rfl) (by kernel_rfl) (by kernel_rfl) (fun _ _ _ h => h) (Or.inl ⟨by rfl, fun wx hS => ?_⟩) hH ?_
          · obtain ⟨x1, x2, x3⟩ := hS; go_simp
          simp only [Act.put, List.setIfInBounds_toArray, List.set_cons_zero, List.set_cons_succ]
          refine wpAnyH_take (i := 20) (oi := { dst := some 99, op := Op.call { callee := Callee.builtin Builtin.len, args := #[Operand.tmp 98], argTypes := #[22] }, type := 3, pos := "law.go:90", after := #[{ on := 19, ground := Ground.data }, { on := 15, ground := Ground.guard }], guard := some (15, true) }) (v := .int .i64 (f.length : Int)) rfl (by kernel_rfl) (by kernel_rfl) (by kernel_rfl) (fun _ _ _ h => h) (Or.inl ⟨by rfl, fun wx hS => ?_⟩) hH ?_
          · obtain ⟨x1, x2, x3⟩ := hS; go_simp
          simp only [Act.put, List.setIfInBounds_toArray, List.set_cons_zero, List.set_cons_succ]
          refine wpAnyH_take (i := 21) (oi := { dst := some 100, op := Op.binOp BinOp.quo 3 (Operand.tmp 99) (Operand.const (Value.int IntKind.i64 2)) 3, type := 3, pos := "law.go:90", after := #[{ on := 20, ground := Ground.data }, { on := 15, ground := Ground.guard }], guard := some (15, true) }) (v := .int .i64 (h : Int)) rfl (by kernel_rfl) (by kernel_rfl) (by kernel_rfl) (fun _ _ _ h => h) (Or.inl ⟨by rfl, fun wx hS => ?_⟩) hH ?_
          · obtain ⟨x1, x2, x3⟩ := hS; go_simp
          simp only [Act.put, List.setIfInBounds_toArray, List.set_cons_zero, List.set_cons_succ]
          refine wpAnyH_take (i := 22) (oi := { dst := some 101, op := Op.slice 22 (Operand.tmp 97) none (some (Operand.tmp 100)) none, type := 22, pos := "law.go:90", after := #[{ on := 18, ground := Ground.data }, { on := 21, ground := Ground.data }, { on := 15, ground := Ground.guard }], guard := some (15, true) }) (v := (.slice u'.a u'.l.length u'.c)) rfl (by kernel_rfl) (by kernel_rfl) (by kernel_rfl) (fun _ _ _ h => h) (Or.inl ⟨by rfl, fun wx hS => ?_⟩) hH ?_
          · obtain ⟨x1, x2, x3⟩ := hS; go_simp
          simp only [Act.put, List.setIfInBounds_toArray, List.set_cons_zero, List.set_cons_succ]
          refine wpAnyH_take (i := 23) (oi := { dst := some 102, op := Op.move (Operand.tmp 1), type := 22, pos := "law.go:90", after := #[{ on := 15, ground := Ground.guard }], guard := some (15, true) }) (v := .slice b f.length d) rfl (by kernel_rfl) (by kernel_rfl) (by kernel_rfl) (fun _ _ _ h => h) (Or.inl ⟨by rfl, fun wx hS => ?_⟩) hH ?_
          · obtain ⟨x1, x2, x3⟩ := hS; go_simp
          simp only [Act.put, List.setIfInBounds_toArray, List.set_cons_zero, List.set_cons_succ]
          refine wpAnyH_take (i := 26) (oi := { dst := some 105, op := Op.load 28 (Operand.tmp 7), type := 28, pos := "law.go:90", after := #[{ on := 15, ground := Ground.guard }], guard := some (15, true) }) (v := .agg (byteCells HX).toArray) rfl (by kernel_rfl) (by kernel_rfl) (by kernel_rfl) (fun _ _ _ h => h) (yieldsIf_load_mid (by rfl) 28 _ rfl (xb) 0 rfl (byteCells HX) _ (fun wx hx => hx.2.1) Tryd.underlying28 rfl hi1) hH ?_
          simp only [Act.put, List.setIfInBounds_toArray, List.set_cons_zero, List.set_cons_succ]
          refine wpAnyH_ready (rs := [24]) (by kernel_rfl) (by simp) ?_
          refine AllReadyH.cons (o := { dst := some 103, op := Op.buildSlice 37 3 #[(0, Operand.tmp 96), (1, Operand.tmp 101), (2, Operand.tmp 102)], type := 37, pos := "law.go:90", after := #[{ on := 17, ground := Ground.data }, { on := 22, ground := Ground.data }, { on := 23, ground := Ground.data }, { on := 15, ground := Ground.guard }], guard := some (15, true) }) rfl (fun KK hKK => ?_) AllReadyH.nil
          go_simp
          refine hKK.out _ _ (KP.out _ (below_alloc' hH.1 _)) (fun hH2 => ?_)
          clear hKK KK
          try simp only [Act.put, List.setIfInBounds_toArray, List.set_cons_zero, List.set_cons_succ]
          refine wpAnyH_ready (rs := [25]) (by kernel_rfl) (by simp) ?_
          refine AllReadyH.cons (o := { dst := some 104, op := Op.call { callee := Callee.value (Operand.func 16), args := #[Operand.tmp 95, Operand.tmp 103], argTypes := #[22, 37] }, type := 28, pos := "law.go:90", after := #[{ on := 16, ground := Ground.data }, { on := 24, ground := Ground.data }, { on := 15, ground := Ground.chain }, { on := 15, ground := Ground.guard }], guard := some (15, true) }) rfl (fun KK hKK => ?_) AllReadyH.nil
          go_simp
          refine (KY.out _ _ hH2.1 (cellsAt.new _ _ _ _ _ (by simp) rfl)).mono ?_
          rintro e w14 ⟨rfl, k14, -⟩
          clear hH hH2
          refine hKK.out _ _ (KP.out _ k14) (fun hH => ?_)
          clear hKK KK k14
          try simp only [Act.put, List.setIfInBounds_toArray, List.set_cons_zero, List.set_cons_succ]
          refine wpAnyH_take (i := 27) (oi := { dst := some 106, op := Op.binOp BinOp.eql 28 (Operand.tmp 104) (Operand.tmp 105) 28, type := 4, pos := "law.go:90", after := #[{ on := 25, ground := Ground.data }, { on := 26, ground := Ground.data }, { on := 15, ground := Ground.guard }], guard := some (15, true) }) (v := .bool true) rfl (by kernel_rfl) (by kernel_rfl) (by kernel_rfl) (fun _ _ _ h => h) (Or.inl ⟨by rfl, fun wx hS => ?_⟩) hH ?_
          · exact eql_op _ _ _ _ HX rfl rfl rfl HXl.out wx
          simp only [Act.put, List.setIfInBounds_toArray, List.set_cons_zero, List.set_cons_succ]
          refine wpAnyH_take (i := 28) (oi := { dst := some 107, op := Op.pick (Operand.tmp 94) (Operand.tmp 106) (Operand.const (Value.bool false)), type := 4, pos := "law.go:90", after := #[{ on := 15, ground := Ground.data }, { on := 27, ground := Ground.data }], guard := none }) (v := .bool true) rfl (by kernel_rfl) (by kernel_rfl) (by kernel_rfl) (fun _ _ _ h => h) (Or.inl ⟨by rfl, fun wx hS => ?_⟩) hH ?_
          · obtain ⟨x1, x2, x3⟩ := hS; go_simp
          simp only [Act.put, List.setIfInBounds_toArray, List.set_cons_zero, List.set_cons_succ]
          refine wpAnyH_take (i := 29) (oi := { dst := some 108, op := Op.move (Operand.tmp 107), type := 4, pos := "law.go:90", after := #[{ on := 28, ground := Ground.data }, { on := 25, ground := Ground.chain }], guard := none }) (v := .bool true) rfl (by kernel_rfl) (by kernel_rfl) (by kernel_rfl) (fun _ _ _ h => h) (Or.inl ⟨by rfl, fun wx hS => ?_⟩) hH ?_
          · obtain ⟨x1, x2, x3⟩ := hS; go_simp
          simp only [Act.put, List.setIfInBounds_toArray, List.set_cons_zero, List.set_cons_succ]
          refine wpAnyH_take (i := 30) (oi := { dst := some 109, op := Op.move (Operand.tmp 0), type := 22, pos := "law.go:90", after := #[{ on := 29, ground := Ground.guard }], guard := some (29, true) }) (v := .slice a K.length c) rfl (by kernel_rfl) (by kernel_rfl) (by kernel_rfl) (fun _ _ _ h => h) (Or.inl ⟨by rfl, fun wx hS => ?_⟩) hH ?_
          · obtain ⟨x1, x2, x3⟩ := hS; go_simp
          simp only [Act.put, List.setIfInBounds_toArray, List.set_cons_zero, List.set_cons_succ]
          refine wpAnyH_take (i := 31) (oi := { dst := some 110, op := Op.move (Operand.tmp 1), type := 22, pos := "law.go:90", after := #[{ on := 29, ground := Ground.guard }], guard := some (29, true) }) (v := .slice b f.length d) rfl (by kernel_rfl) (by kernel_rfl) (by kernel_rfl) (fun _ _ _ h => h) (Or.inl ⟨by rfl, fun wx hS => ?_⟩) hH ?_
          · obtain ⟨x1, x2, x3⟩ := hS; go_simp
          simp only [Act.put, List.setIfInBounds_toArray, List.set_cons_zero, List.set_cons_succ]
          refine wpAnyH_take (i := 33) (oi := { dst := some 112, op := Op.load 28 (Operand.tmp 8), type := 28, pos := "law.go:90", after := #[{ on := 29, ground := Ground.guard }], guard := some (29, true) }) (v := .agg (byteCells HY).toArray) rfl (by kernel_rfl) (by kernel_rfl) (by kernel_rfl) (fun _ _ _ h => h) (yieldsIf_load_mid (by rfl) 28 _ rfl (xb + 1) 0 rfl (byteCells HY) _ (fun wx hx => hx.2.2) Tryd.underlying28 rfl hi2) hH ?_
          simp only [Act.put, List.setIfInBounds_toArray, List.set_cons_zero, List.set_cons_succ]
          refine wpAnyH_ready (rs := [32]) (by kernel_rfl) (by simp) ?_
          refine AllReadyH.cons (o := { dst := some 111, op := Op.call { callee := Callee.value (Operand.func 21), args := #[Operand.tmp 109, Operand.tmp 110, Operand.const (Value.int IntKind.i64 2)], argTypes := #[22, 22, 3] }, type := 28, pos := "law.go:90", after := #[{ on := 30, ground := Ground.data }, { on := 31, ground := Ground.data }, { on := 29, ground := Ground.chain }, { on := 29, ground := Ground.guard }], guard := some (29, true) }) rfl (fun KK hKK => ?_) AllReadyH.nil
          go_simp
          refine (ST.out _ hH.1).mono ?_
          rintro e w15 ⟨rfl, k15⟩
          clear hH
          refine hKK.out _ _ (KP.out _ k15) (fun hH => ?_)
          clear hKK KK k15
          try simp only [Act.put, List.setIfInBounds_toArray, List.set_cons_zero, List.set_cons_succ]
          refine wpAnyH_take (i := 34) (oi := { dst := some 113, op := Op.binOp BinOp.eql 28 (Operand.tmp 111) (Operand.tmp 112) 28, type := 4, pos := "law.go:90", after := #[{ on := 32, ground := Ground.data }, { on := 33, ground := Ground.data }, { on := 29, ground := Ground.guard }], guard := some (29, true) }) (v := .bool true) rfl (by kernel_rfl) (by kernel_rfl) (by kernel_rfl) (fun _ _ _ h => h) (Or.inl ⟨by rfl, fun wx hS => ?_⟩) hH ?_
          · exact eql_op _ _ _ _ HY rfl rfl rfl HYl.out wx
          simp only [Act.put, List.setIfInBounds_toArray, List.set_cons_zero, List.set_cons_succ]
          refine wpAnyH_take (i := 35) (oi := { dst := some 114, op := Op.pick (Operand.tmp 108) (Operand.tmp 113) (Operand.const (Value.bool false)), type := 4, pos := "law.go:90", after := #[{ on := 29, ground := Ground.data }, { on := 34, ground := Ground.data }], guard := none }) (v := .bool true) rfl (by kernel_rfl) (by kernel_rfl) (by kernel_rfl) (fun _ _ _ h => h) (Or.inl ⟨by rfl, fun wx hS => ?_⟩) hH ?_
          · obtain ⟨x1, x2, x3⟩ := hS; go_simp
          simp only [Act.put, List.setIfInBounds_toArray, List.set_cons_zero, List.set_cons_succ]
          refine wpAnyH_take (i := 36) (oi := { dst := some 4, op := Op.assign (Operand.tmp 114), type := 4, pos := "law.go:90", after := #[{ on := 35, ground := Ground.data }, { on := 32, ground := Ground.chain }, { on := 0, ground := Ground.phase }, { on := 1, ground := Ground.phase }, { on := 2, ground := Ground.phase }, { on := 3, ground := Ground.phase }, { on := 4, ground := Ground.phase }, { on := 5, ground := Ground.phase }, { on := 6, ground := Ground.phase }, { on := 7, ground := Ground.phase }, { on := 8, ground := Ground.phase }, { on := 9, ground := Ground.phase }, { on := 10, ground := Ground.phase }, { on := 11, ground := Ground.phase }, { on := 12, ground := Ground.phase }, { on := 13, ground := Ground.phase }, { on := 14, ground := Ground.phase }, { on := 15, ground := Ground.phase }, { on := 16, ground := Ground.phase }, { on := 17, ground := Ground.phase }, { on := 18, ground := Ground.phase }, { on := 19, ground := Ground.phase }, { on := 20, ground := Ground.phase }, { on := 21, ground := Ground.phase }, { on := 22, ground := Ground.phase }, { on := 23, ground := Ground.phase }, { on := 24, ground := Ground.phase }, { on := 25, ground := Ground.phase }, { on := 26, ground := Ground.phase }, { on := 27, ground := Ground.phase }, { on := 28, ground := Ground.phase }, { on := 29, ground := Ground.phase }, { on := 30, ground := Ground.phase }, { on := 31, ground := Ground.phase }, { on := 32, ground := Ground.phase }, { on := 33, ground := Ground.phase }, { on := 34, ground := Ground.phase }, { on := 35, ground := Ground.phase }], guard := none }) (v := .bool true) rfl (by kernel_rfl) (by kernel_rfl) (by kernel_rfl) (fun _ _ _ h => h) (Or.inl ⟨by rfl, fun wx hS => ?_⟩) hH ?_
          · obtain ⟨x1, x2, x3⟩ := hS; go_simp
          simp only [Act.put, List.setIfInBounds_toArray, List.set_cons_zero, List.set_cons_succ]
          refine wpAnyH_done (by kernel_rfl) ?_ _
          refine NoPanic.normal ?_
          clear cv1 cv2 cv3 cv4 g2 hq hqt hw1 hw2 hu hi1 hi2 hq1 hq2 hgt
          go_wp2_with fail
          go_ret
          exact ⟨rfl, FW.out.trans (hH.1.mono FW.out.size)⟩
end Go.Proofs.YthgmebdbccjmlaaDoor
