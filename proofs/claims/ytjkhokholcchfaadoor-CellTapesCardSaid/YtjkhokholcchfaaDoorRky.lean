/- The document's own Keyed: HMAC of texts. -/
import Derived.Test.YtjkhokholcchfaaDoorGf
import Derived.Test.YtjkhokholcchfaaDoorGg
import Derived.Laws.MakeOwn
import Derived.Deep.RegionLaw
import Derived.Deep.DeepCutAuto
namespace Go.Proofs.YtjkhokholcchfaaDoor
open Go.RowKit Sha

theorem sha_len (l : List UInt8) : (sha l).length = 32 := sha_length l
theorem str_append (a b : List UInt8) : str a ++ str b = str (a ++ b) := by
  unfold str
  apply ByteArray.ext
  simp
theorem zero64 : madeCells (Value.int .u8 0).cells (64 * 1) = (cells8 (fun _ => 0) 64).toArray := by kernel_rfl
theorem make64 (w : World) : (Instr.makeSlice 22 (.int .i64 64) (.int .i64 64)).run Tryd.prog w = .ok (.slice (some ⟨w.heap.size, 0, none⟩) 64 64) (w.alloc (.cells (cells8 (fun _ => 0) 64).toArray 5 (0, 0))) := by
  obtain ⟨i0, hi, hz0, hz1, hz2⟩ := info_parts info_u8
  have := run_make (P := Tryd.prog) w 22 5 i0 (.int .u8 0) Tryd.underlying22 hi hz0 .i64 .i64 64 64 (by omega) (by omega) (by rw [hz2]; omega) (by omega)
  rw [hz1] at this
  rw [← zero64]
  exact this
/-- A key with noughts, its first k put together with x. -/
def keyF (K : List UInt8) (x : UInt8) (k j : Nat) : UInt8 := if j < k then K.getD j 0 ^^^ x else 0
theorem keyF_zero (K : List UInt8) (x : UInt8) : (fun _ => 0) = keyF K x 0 := by
  funext j
  unfold keyF
  rw [if_neg (by omega)]
theorem keyF_succ (K : List UInt8) (x : UInt8) (k : Nat) (h : k < 64) (y : Value) : ((cells8 (keyF K x k) 64).set k y).set k (.int .u8 (V (K.getD k 0 ^^^ x))) = cells8 (keyF K x (k + 1)) 64 := by
  rw [List.set_set, cells8_set _ _ _ h]
  congr 1
  funext j
  unfold keyF
  by_cases e : j = k
  · rw [if_pos e, if_pos (by omega), e]
  · rw [if_neg e]
    by_cases h2 : j < k
    · rw [if_pos h2, if_pos (by omega)]
    · rw [if_neg h2, if_neg (by omega)]
theorem keyF_one (K : List UInt8) (x : UInt8) (k : Nat) (h : k < 64) : (cells8 (keyF K x k) 64).set k (.int .u8 (V (K.getD k 0 ^^^ x))) = cells8 (keyF K x (k + 1)) 64 := by
  rw [← keyF_succ K x k h (.int .u8 (V (K.getD k 0 ^^^ x))), List.set_set]
theorem keyF_all (K : List UInt8) (x : UInt8) : cells8 (keyF K x 64) 64 = byteCells (padKey K x) := by
  unfold cells8 byteCells padKey
  rw [List.map_map]
  apply List.map_congr_left
  intro j hj
  have := List.mem_range.1 hj
  simp [keyF, this]
theorem index_str (l : List UInt8) (i : Nat) (h : i < l.length) (w : World) : (Instr.index 9 (.string (str l)) (.int .i64 (i : Int))).run Tryd.prog w = .ok (.int .u8 (V (l.getD i 0))) w := by
  have hs := str_size l
  rw [run_index_string w 9 (str l) .i64 (i : Int) Tryd.underlying9]
  have hb : ∀ (j : Nat) (hj : j < (str l).size), j = i → ((str l)[j]'hj) = l.getD i 0 := by
    rintro j hj rfl
    show (str l).data[j]'_ = _
    simp [str, h]
  rw [dif_pos ⟨by omega, by omega⟩, hb _ _ (Int.toNat_natCast i)]
  rfl
attribute [local go_sem] V_x36 V_x5c

set_option maxRecDepth 100000 in
set_option maxHeartbeats 2000000 in
theorem rky_any (K0 L : List UInt8) (w : World) (hK : K0.length ≤ 100000) (hL : L.length ≤ 90000) :
    Calls Tryd.prog 61 #[.string (str K0), .string (str L)] w fun e w' => e = .returned (.string (str (hmac K0 L))) ∧ Below w.heap.size w w' := by
  have hsz := str_size K0
  have HSZ := Lib.hid hsz
  go_enter Tryd.func61, Tryd.ntmps61
  go_upto_if 10 with fail
  clear hsz
  go_cut [0] (fun v wx => v = .string (str (shortKey K0)) ∧ Hid (Below w.heap.size w wx))
  case first =>
    by_cases h64 : K0.length ≤ 64
    · have hk1 : ¬ 64 < (K0.length : Int) := by omega
      have hs : Hid (shortKey K0 = K0) := Lib.hid (if_neg (by omega))
      have B0 := Lib.hid (Below.refl w.heap.size w)
      go_wp2_with fail
      go_meet
      case rel => exact ⟨by rw [hs.out], B0⟩
    · have hk1 : 64 < (K0.length : Int) := by omega
      have hs : Hid (shortKey K0 = sha K0) := Lib.hid (if_pos (by omega))
      go_wp2_with fail
      with_reducible refine (rof_any K0 w hK).mono ?_
      rintro e w2 ⟨rfl, k2⟩
      have K2 := Lib.hid k2
      clear k2
      go_wp2_with fail
      go_meet
      case rel => exact ⟨by rw [hs.out], K2⟩
  obtain ⟨rfl, B0⟩ := hcut
  have hK64 : (shortKey K0).length ≤ 64 := by
    unfold shortKey
    split
    · rw [sha_length]; omega
    · omega
  have HM : Hid (hmac K0 L = sha (padKey (shortKey K0) 0x5c ++ sha (padKey (shortKey K0) 0x36 ++ L))) := Lib.hid rfl
  generalize shortKey K0 = K at *
  have hsz := str_size K
  have hm := make64
  generalize wc = w0 at *
  have G1 : Hid (blockIs ((w0.drew.alloc (.cells (cells8 (fun _ => 0) 64).toArray 5 (0, 0))).alloc (.cells (cells8 (fun _ => 0) 64).toArray 5 (0, 0))) w0.heap.size (cells8 (fun _ => 0) 64) 5) := Lib.hid ((blockIs.new w0.drew _ _).alloc _)
  have G2 : Hid (blockIs ((w0.drew.alloc (.cells (cells8 (fun _ => 0) 64).toArray 5 (0, 0))).alloc (.cells (cells8 (fun _ => 0) 64).toArray 5 (0, 0))) (w0.heap.size + 1) (cells8 (fun _ => 0) 64) 5) := Lib.hid (blockIs.last _ _ _ _ (by simp))
  have G3 : Hid (Below w0.heap.size w0 ((w0.drew.alloc (.cells (cells8 (fun _ => 0) 64).toArray 5 (0, 0))).alloc (.cells (cells8 (fun _ => 0) 64).toArray 5 (0, 0)))) := Lib.hid ((drew_alloc_below w0 _).alloc (by simp) _)
  have G4 : Hid (((w0.drew.alloc (.cells (cells8 (fun _ => 0) 64).toArray 5 (0, 0))).alloc (.cells (cells8 (fun _ => 0) 64).toArray 5 (0, 0))).heap.size = w0.heap.size + 2) := Lib.hid (by simp)
  go_upto_region 3 with fail
  go_cut [5, 6] (fun u v wx => ∃ g h : Nat, u = .slice (some ⟨g, 0, none⟩) 64 64 ∧ v = .slice (some ⟨h, 0, none⟩) 64 64 ∧ Hid (g ≠ h ∧ w0.heap.size ≤ g ∧ w0.heap.size ≤ h) ∧ Hid (blockIs wx g (cells8 (fun _ => 0) 64) 5) ∧ Hid (blockIs wx h (cells8 (fun _ => 0) 64) 5) ∧ Hid (Below w0.heap.size w0 wx))
  case first =>
    go_region_law (go_simp)
    all_goals
      go_wp2_with fail
      go_meet
      case rel => first | exact ⟨w0.heap.size, w0.heap.size + 1, rfl, rfl, Lib.hid ⟨by omega, by omega, by omega⟩, G1, G2, G3⟩ | exact ⟨w0.heap.size + 1, w0.heap.size, rfl, rfl, Lib.hid ⟨by omega, by omega, by omega⟩, G2, G1, G3⟩
  clear G1 G2 G3 G4 hm
  obtain ⟨g, h, rfl, rfl, GH, G1, G2, G3⟩ := hcut
  rw [keyF_zero K 0x36] at G1
  rw [keyF_zero K 0x5c] at G2
  have hgh : ¬ g = h := GH.out.1
  have hhg : ¬ h = g := fun e => GH.out.1 e.symm
  go_wp2_with fail
  go_loopw [7] (fun i wr => ∃ k : Nat, k ≤ 64 ∧ i = .int .i64 (k : Int) ∧ Hid (blockIs wr g (cells8 (keyF K 0x36 k) 64) 5) ∧ Hid (blockIs wr h (cells8 (keyF K 0x5c k) 64) 5) ∧ Hid (Below w0.heap.size w0 wr)) (fun i _ => 64 - (intOf i).toNat)
  case atStart => exact ⟨0, by omega, rfl, G1, G2, G3⟩
  case round =>
    clear G1 G2 G3
    obtain ⟨k, hk, rfl, G1, G2, G3⟩ := hrel
    by_cases hlt : k < 64
    · have p : 0 ≤ (k : Int) := by omega
      have q : (k : Int) < 64 := by omega
      have c1 : wr.cell? ⟨g, k, none⟩ = some (.int .u8 (V (keyF K 0x36 k k))) := by rw [G1.out.cell]; exact cells8_get _ _ _ hlt
      have c2 : wr.cell? ⟨h, k, none⟩ = some (.int .u8 (V (keyF K 0x5c k k))) := by rw [G2.out.cell]; exact cells8_get _ _ _ hlt
      have f1 : wr.frozen? ⟨g, k, none⟩ = false := G1.out.free _
      have f2 : wr.frozen? ⟨h, k, none⟩ = false := G2.out.free _
      have N1 : Hid (∀ x, blockIs ((wr.setCell ⟨g, k, none⟩ (.int .u8 (V x))).setCell ⟨h, k, none⟩ (.int .u8 (V x))) g ((cells8 (keyF K 0x36 k) 64).set k (.int .u8 (V x))) 5) := Lib.hid fun x => (G1.out.set k _).other _ _ hgh
      have N2 : Hid (∀ x, blockIs ((wr.setCell ⟨g, k, none⟩ (.int .u8 (V x))).setCell ⟨h, k, none⟩ (.int .u8 (V x))) h ((cells8 (keyF K 0x5c k) 64).set k (.int .u8 (V x))) 5) := Lib.hid fun x => (G2.out.other _ _ hhg).set k _
      have N3 : Hid (∀ x, Below w0.heap.size w0 ((wr.setCell ⟨g, k, none⟩ (.int .u8 (V x))).setCell ⟨h, k, none⟩ (.int .u8 (V x)))) := Lib.hid fun x => (G3.out.setCell GH.out.2.1 _).setCell GH.out.2.2 _
      go_upto_if 22 with fail
      go_cut [] (fun wx => Hid (blockIs wx g ((cells8 (keyF K 0x36 k) 64).set k (.int .u8 (V (K.getD k 0)))) 5) ∧ Hid (blockIs wx h ((cells8 (keyF K 0x5c k) 64).set k (.int .u8 (V (K.getD k 0)))) 5) ∧ Hid (Below w0.heap.size w0 wx))
      case first =>
        by_cases hkl : k < K.length
        · have q2 : (k : Int) < (K.length : Int) := by omega
          have ix := index_str K k hkl
          generalize K.getD k 0 = x at *
          go_wp2_with fail
          go_region_law (go_simp)
          all_goals
            go_wp2_with fail
            go_meet
            case rel => exact ⟨Lib.hid (N1.out x), Lib.hid (N2.out x), Lib.hid (below_drewN' (N3.out x) 1)⟩
        · have q2 : ¬ (k : Int) < (K.length : Int) := by omega
          have hx : Hid (K.getD k 0 = 0) := Lib.hid (by simp [List.getElem?_eq_none (show K.length ≤ k by omega)])
          have e1 : ∀ x, Hid ((cells8 (keyF K x k) 64).set k (.int .u8 (V 0)) = cells8 (keyF K x k) 64) := fun x => Lib.hid (by
            rw [cells8_set _ _ _ hlt]
            congr 1
            funext j
            by_cases e : j = k
            · rw [if_pos e, e]; unfold keyF; rw [if_neg (by omega)]
            · rw [if_neg e])
          have E1 := e1 0x36
          have E2 := e1 0x5c
          clear e1
          go_wp2_with fail
          go_meet
          case rel => exact ⟨by rw [hx.out, E1.out]; exact G1, by rw [hx.out, E2.out]; exact G2, G3⟩
      clear c1 c2 f1 f2 N1 N2 N3 G1 G2 G3
      obtain ⟨G1, G2, G3⟩ := hcut
      have hks1 := keyF_succ K 0x36 k hlt (.int .u8 (V (K.getD k 0)))
      have hks2 := keyF_succ K 0x5c k hlt (.int .u8 (V (K.getD k 0)))
      have HS1 := Lib.hid hks1
      have HS2 := Lib.hid hks2
      clear hks1 hks2
      generalize K.getD k 0 = x at *
      generalize wc = w5 at *
      have c1 : w5.cell? ⟨g, k, none⟩ = some (.int .u8 (V x)) := by rw [G1.out.cell, List.getElem?_set_self (by rw [cells8_length]; exact hlt)]
      have c2 : w5.cell? ⟨h, k, none⟩ = some (.int .u8 (V x)) := by rw [G2.out.cell, List.getElem?_set_self (by rw [cells8_length]; exact hlt)]
      have f1 : w5.frozen? ⟨g, k, none⟩ = false := G1.out.free _
      have f2 : w5.frozen? ⟨h, k, none⟩ = false := G2.out.free _
      have N1 : Hid (blockIs ((w5.setCell ⟨g, k, none⟩ (.int .u8 (V (x ^^^ 0x36)))).setCell ⟨h, k, none⟩ (.int .u8 (V (x ^^^ 0x5c)))) g (cells8 (keyF K 0x36 (k + 1)) 64) 5) := Lib.hid (by rw [← HS1.out]; exact (G1.out.set k _).other _ _ hgh)
      have N2 : Hid (blockIs ((w5.setCell ⟨g, k, none⟩ (.int .u8 (V (x ^^^ 0x36)))).setCell ⟨h, k, none⟩ (.int .u8 (V (x ^^^ 0x5c)))) h (cells8 (keyF K 0x5c (k + 1)) 64) 5) := Lib.hid (by rw [← HS2.out]; exact (G2.out.other _ _ hhg).set k _)
      have N3 : Hid (Below w0.heap.size w0 ((w5.setCell ⟨g, k, none⟩ (.int .u8 (V (x ^^^ 0x36)))).setCell ⟨h, k, none⟩ (.int .u8 (V (x ^^^ 0x5c))))) := Lib.hid ((G3.out.setCell GH.out.2.1 _).setCell GH.out.2.2 _)
      clear HS1 HS2 G1 G2 G3
      go_upto_region 9 with fail
      go_region_law (go_simp)
      all_goals
        go_wp2_with fail
        go_roundw
        case rel => exact ⟨k + 1, by omega, by go_num, N1, N2, Lib.hid (below_drewN' N3.out 1)⟩
        case measure => simp [intOf]; omega
    · obtain rfl : k = 64 := by omega
      rw [show ((64 : Nat) : Int) = 64 from rfl]
      rw [keyF_all] at G1 G2
      have hA : (padKey K 0x36).length = 64 := by simp [padKey]
      have hB : (padKey K 0x5c).length = 64 := by simp [padKey]
      have hin1 : bytesIn wr (some ⟨g, 0, none⟩) (padKey K 0x36) := Or.inr ⟨_, _, rfl, fun j hj => by rw [Nat.zero_add, G1.out.cell]; exact byteCells_get _ _ hj⟩
      have hin2 : bytesIn wr (some ⟨h, 0, none⟩) (padKey K 0x5c) := Or.inr ⟨_, _, rfl, fun j hj => by rw [Nat.zero_add, G2.out.cell]; exact byteCells_get _ _ hj⟩
      have hm := HM.out
      generalize padKey K 0x36 = A at *
      generalize padKey K 0x5c = B at *
      have cv1 : ∀ wx : World, Below wr.heap.size wr wx → (convert 22 9 (.slice (some ⟨g, 0, none⟩) 64 64)).run Tryd.prog wx = .ok (.string (str A)) wx := fun wx hx => by
        have := conv_string wx (some ⟨g, 0, none⟩) A 64 (hin1.below hx)
        rwa [hA] at this
      have cv2 : ∀ wx : World, Below wr.heap.size wr wx → (convert 22 9 (.slice (some ⟨h, 0, none⟩) 64 64)).run Tryd.prog wx = .ok (.string (str B)) wx := fun wx hx => by
        have := conv_string wx (some ⟨h, 0, none⟩) B 64 (hin2.below hx)
        rwa [hB] at this
      have P1 : Hid (∀ X : World, Below wr.heap.size wr X → Calls Tryd.prog 18 #[.string (str (A ++ L))] X fun e w' => e = .returned (.string (str (sha (A ++ L)))) ∧ Below wr.heap.size wr w') := Lib.hid fun X hX =>
        (rof_any (A ++ L) X (by rw [List.length_append, hA]; omega)).mono fun e w' ⟨h1, h2⟩ => ⟨h1, hX.trans (h2.mono hX.size)⟩
      have hM1 := sha_len (A ++ L)
      have ap1 : str A ++ str L = str (A ++ L) := str_append _ _
      have q1 : ¬ 9223372036854775807 < (str A).size + (str L).size := by rw [str_size, str_size, hA]; omega
      generalize hm1 : sha (A ++ L) = M1 at *
      have ap2 : str B ++ str M1 = str (B ++ M1) := str_append _ _
      have q2 : ¬ 9223372036854775807 < (str B).size + (str M1).size := by rw [str_size, str_size, hB, hM1]; omega
      have P2 : Hid (∀ X : World, Below wr.heap.size wr X → Calls Tryd.prog 18 #[.string (str (B ++ M1))] X fun e w' => e = .returned (.string (str (sha (B ++ M1)))) ∧ Below wr.heap.size wr w') := Lib.hid fun X hX =>
        (rof_any (B ++ M1) X (by rw [List.length_append, hB, hM1]; omega)).mono fun e w' ⟨h1, h2⟩ => ⟨h1, hX.trans (h2.mono hX.size)⟩
      have HMM := Lib.hid hm
      clear hm hm1 hM1 hA hB hin1 hin2 G1 G2 HM
      generalize sha (B ++ M1) = M2 at *
      have BB := Below.refl wr.heap.size wr
      have B3 := Lib.hid (B0.out.trans (G3.out.mono B0.out.size))
      clear G3
      go_wp2_with fail
      go_region_held3 (fun w' => Below wr.heap.size wr w')
        (first | assumption | exact below_drew' (by assumption))
        (first
        | (go_at_call 18
           with_reducible refine (P1.out _ (by assumption)).mono ?_
           rintro e w6 ⟨rfl, k6⟩)
        | (go_at_call 18
           with_reducible refine (P2.out _ (by assumption)).mono ?_
           rintro e w6 ⟨rfl, k6⟩))
      clear cv1 cv2 ap1 ap2
      go_wp2_with fail
      go_ret
      exact ⟨by rw [HMM.out]; rfl, B3.out.trans (k6.mono B3.out.size)⟩
end Go.Proofs.YtjkhokholcchfaaDoor
