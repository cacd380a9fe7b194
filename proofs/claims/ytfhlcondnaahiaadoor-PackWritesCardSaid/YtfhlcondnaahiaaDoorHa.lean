/- The document's own Keyed: HMAC of texts. -/
import Derived.Test.YtfhlcondnaahiaaDoorGf
import Derived.Test.YtfhlcondnaahiaaDoorGg
import Derived.Laws.MakeOwn
import Derived.Deep.RegionLaw
import Derived.Deep.DeepCutAuto
import Derived.Test.YtfhlcondnaahiaaDoorGh
import Derived.Test.YtfhlcondnaahiaaDoorCiMkk
import Derived.Laws.BitsAllLaws
import Derived.Deep.CutBlock
import Derived.BigQuiet
import Derived.StillTailTactics
import Derived.Test.YtfhlcondnaahiaaDoorTk
import Derived.Deep.RegionHeld3
import Derived.Test.YtfhlcondnaahiaaDoorGk
import Derived.Test.YtfhlcondnaahiaaDoorGj
section
namespace Go.Proofs.YtfhlcondnaahiaaDoor
open Go.RowKit Sha

theorem sha_len (l : List UInt8) : (sha l).length = 32 := sha_length l
theorem str_append (a b : List UInt8) : str a ++ str b = str (a ++ b) := by
  unfold str
  apply ByteArray.ext
  simp
theorem zero64 : madeCells (Value.int .u8 0).cells (64 * 1) = (cells8 (fun _ => 0) 64).toArray := by kernel_rfl
theorem make64 (w : World) : (Instr.makeSlice 30 (.int .i64 64) (.int .i64 64)).run Tryd.prog w = .ok (.slice (some ⟨w.heap.size, 0, none⟩) 64 64) (w.alloc (.cells (cells8 (fun _ => 0) 64).toArray 5 (0, 0))) := by
  obtain ⟨i0, hi, hz0, hz1, hz2⟩ := info_parts info_u8
  have := run_make (P := Tryd.prog) w 30 5 i0 (.int .u8 0) Tryd.underlying30 hi hz0 .i64 .i64 64 64 (by omega) (by omega) (by rw [hz2]; omega) (by omega)
  rw [hz1] at this
  rw [← zero64]
  exact this
def keyF (K : List UInt8) (x : UInt8) (k j : Nat) : UInt8 := if j < k then K.getD j 0 ^^^ x else 0
theorem keyF_zero (K : List UInt8) (x : UInt8) : (fun _ => 0) = keyF K x 0 := by
  funext j
  unfold keyF
  rw [if_neg (by omega)]
theorem keyF_succ (K : List UInt8) (x : UInt8) (k : Nat) (h : k < 64) (y : Value) : ((cells8 (keyF K x k) 64).set k y).set k (.int .u8 (V (K.getD k 0 ^^^ x))) = cells8 (keyF K x (k + 1)) 64 := by
  rw [List.set_set, cells8_set _ _ _ h]
  congr 1
  funext j
  unfold keyF
  by_cases e : j = k
  · rw [if_pos e, if_pos (by omega), e]
  · rw [if_neg e]
    by_cases h2 : j < k
    · rw [if_pos h2, if_pos (by omega)]
    · rw [if_neg h2, if_neg (by omega)]
theorem keyF_all (K : List UInt8) (x : UInt8) : cells8 (keyF K x 64) 64 = byteCells (padKey K x) := by
  unfold cells8 byteCells padKey
  rw [List.map_map]
  apply List.map_congr_left
  intro j hj
  have := List.mem_range.1 hj
  simp [keyF, this]
theorem index_str (l : List UInt8) (i : Nat) (h : i < l.length) (w : World) : (Instr.index 9 (.string (str l)) (.int .i64 (i : Int))).run Tryd.prog w = .ok (.int .u8 (V (l.getD i 0))) w := by
  have hs := str_size l
  rw [run_index_string w 9 (str l) .i64 (i : Int) Tryd.underlying9]
  have hb : ∀ (j : Nat) (hj : j < (str l).size), j = i → ((str l)[j]'hj) = l.getD i 0 := by
    rintro j hj rfl
    show (str l).data[j]'_ = _
    simp [str, h]
  rw [dif_pos ⟨by omega, by omega⟩, hb _ _ (Int.toNat_natCast i)]
  rfl
attribute [local go_sem] V_x36 V_x5c

set_option maxRecDepth 100000 in
set_option maxHeartbeats 2000000 in
theorem rky_any (K0 L : List UInt8) (w : World) (hK : K0.length ≤ 100000) (hL : L.length ≤ 90000) :
    Calls Tryd.prog 59 #[.string (str K0), .string (str L)] w fun e w' => e = .returned (.string (str (hmac K0 L))) ∧ Below w.heap.size w w' := by
  have hsz := str_size K0
  have HSZ := Lib.hid hsz
  go_enter Tryd.func59, Tryd.ntmps59
  go_upto_if 10 with fail
  clear hsz
  go_cut [0] (fun v wx => v = .string (str (shortKey K0)) ∧ Hid (Below w.heap.size w wx))
  case first =>
    by_cases h64 : K0.length ≤ 64
    · have hk1 : ¬ 64 < (K0.length : Int) := by omega
      have hs : Hid (shortKey K0 = K0) := Lib.hid (if_neg (by omega))
      have B0 := Lib.hid (Below.refl w.heap.size w)
      go_wp2_with fail
      go_meet
      case rel => exact ⟨by rw [hs.out], B0⟩
    · have hk1 : 64 < (K0.length : Int) := by omega
      have hs : Hid (shortKey K0 = sha K0) := Lib.hid (if_pos (by omega))
      go_wp2_with fail
      with_reducible refine (rof_any K0 w hK).mono ?_
      rintro e w2 ⟨rfl, k2⟩
      have K2 := Lib.hid k2
      clear k2
      go_wp2_with fail
      go_meet
      case rel => exact ⟨by rw [hs.out], K2⟩
  obtain ⟨rfl, B0⟩ := hcut
  have hK64 : (shortKey K0).length ≤ 64 := by
    unfold shortKey
    split
    · rw [sha_length]; omega
    · omega
  have HM : Hid (hmac K0 L = sha (padKey (shortKey K0) 0x5c ++ sha (padKey (shortKey K0) 0x36 ++ L))) := Lib.hid rfl
  generalize shortKey K0 = K at *
  have hsz := str_size K
  have hm := make64
  generalize wc = w0 at *
  have G1 : Hid (blockIs ((w0.drew.alloc (.cells (cells8 (fun _ => 0) 64).toArray 5 (0, 0))).alloc (.cells (cells8 (fun _ => 0) 64).toArray 5 (0, 0))) w0.heap.size (cells8 (fun _ => 0) 64) 5) := Lib.hid ((blockIs.new w0.drew _ _).alloc _)
  have G2 : Hid (blockIs ((w0.drew.alloc (.cells (cells8 (fun _ => 0) 64).toArray 5 (0, 0))).alloc (.cells (cells8 (fun _ => 0) 64).toArray 5 (0, 0))) (w0.heap.size + 1) (cells8 (fun _ => 0) 64) 5) := Lib.hid (blockIs.last _ _ _ _ (by simp))
  have G3 : Hid (Below w0.heap.size w0 ((w0.drew.alloc (.cells (cells8 (fun _ => 0) 64).toArray 5 (0, 0))).alloc (.cells (cells8 (fun _ => 0) 64).toArray 5 (0, 0)))) := Lib.hid ((drew_alloc_below w0 _).alloc (by simp) _)
  have G4 : Hid (((w0.drew.alloc (.cells (cells8 (fun _ => 0) 64).toArray 5 (0, 0))).alloc (.cells (cells8 (fun _ => 0) 64).toArray 5 (0, 0))).heap.size = w0.heap.size + 2) := Lib.hid (by simp)
  go_upto_region 3 with fail
  go_cut [5, 6] (fun u v wx => ∃ g h : Nat, u = .slice (some ⟨g, 0, none⟩) 64 64 ∧ v = .slice (some ⟨h, 0, none⟩) 64 64 ∧ Hid (g ≠ h ∧ w0.heap.size ≤ g ∧ w0.heap.size ≤ h) ∧ Hid (blockIs wx g (cells8 (fun _ => 0) 64) 5) ∧ Hid (blockIs wx h (cells8 (fun _ => 0) 64) 5) ∧ Hid (Below w0.heap.size w0 wx))
  case first =>
    go_region_law (go_simp)
    all_goals
      go_wp2_with fail
      go_meet
      case rel => first | exact ⟨w0.heap.size, w0.heap.size + 1, rfl, rfl, Lib.hid ⟨by omega, by omega, by omega⟩, G1, G2, G3⟩ | exact ⟨w0.heap.size + 1, w0.heap.size, rfl, rfl, Lib.hid ⟨by omega, by omega, by omega⟩, G2, G1, G3⟩
  clear G1 G2 G3 G4 hm
  obtain ⟨g, h, rfl, rfl, GH, G1, G2, G3⟩ := hcut
  rw [keyF_zero K 0x36] at G1
  rw [keyF_zero K 0x5c] at G2
  have hgh : ¬ g = h := GH.out.1
  have hhg : ¬ h = g := fun e => GH.out.1 e.symm
  go_wp2_with fail
  go_loopw [7] (fun i wr => ∃ k : Nat, k ≤ 64 ∧ i = .int .i64 (k : Int) ∧ Hid (blockIs wr g (cells8 (keyF K 0x36 k) 64) 5) ∧ Hid (blockIs wr h (cells8 (keyF K 0x5c k) 64) 5) ∧ Hid (Below w0.heap.size w0 wr)) (fun i _ => 64 - (intOf i).toNat)
  case atStart => exact ⟨0, by omega, rfl, G1, G2, G3⟩
  case round =>
    clear G1 G2 G3
    obtain ⟨k, hk, rfl, G1, G2, G3⟩ := hrel
    by_cases hlt : k < 64
    · have p : 0 ≤ (k : Int) := by omega
      have q : (k : Int) < 64 := by omega
      have c1 : wr.cell? ⟨g, k, none⟩ = some (.int .u8 (V (keyF K 0x36 k k))) := by rw [G1.out.cell]; exact cells8_get _ _ _ hlt
      have c2 : wr.cell? ⟨h, k, none⟩ = some (.int .u8 (V (keyF K 0x5c k k))) := by rw [G2.out.cell]; exact cells8_get _ _ _ hlt
      have f1 : wr.frozen? ⟨g, k, none⟩ = false := G1.out.free _
      have f2 : wr.frozen? ⟨h, k, none⟩ = false := G2.out.free _
      have N1 : Hid (∀ x, blockIs ((wr.setCell ⟨g, k, none⟩ (.int .u8 (V x))).setCell ⟨h, k, none⟩ (.int .u8 (V x))) g ((cells8 (keyF K 0x36 k) 64).set k (.int .u8 (V x))) 5) := Lib.hid fun x => (G1.out.set k _).other _ _ hgh
      have N2 : Hid (∀ x, blockIs ((wr.setCell ⟨g, k, none⟩ (.int .u8 (V x))).setCell ⟨h, k, none⟩ (.int .u8 (V x))) h ((cells8 (keyF K 0x5c k) 64).set k (.int .u8 (V x))) 5) := Lib.hid fun x => (G2.out.other _ _ hhg).set k _
      have N3 : Hid (∀ x, Below w0.heap.size w0 ((wr.setCell ⟨g, k, none⟩ (.int .u8 (V x))).setCell ⟨h, k, none⟩ (.int .u8 (V x)))) := Lib.hid fun x => (G3.out.setCell GH.out.2.1 _).setCell GH.out.2.2 _
      go_upto_if 22 with fail
      go_cut [] (fun wx => Hid (blockIs wx g ((cells8 (keyF K 0x36 k) 64).set k (.int .u8 (V (K.getD k 0)))) 5) ∧ Hid (blockIs wx h ((cells8 (keyF K 0x5c k) 64).set k (.int .u8 (V (K.getD k 0)))) 5) ∧ Hid (Below w0.heap.size w0 wx))
      case first =>
        by_cases hkl : k < K.length
        · have q2 : (k : Int) < (K.length : Int) := by omega
          have ix := index_str K k hkl
          generalize K.getD k 0 = x at *
          go_wp2_with fail
          go_region_law (go_simp)
          all_goals
            go_wp2_with fail
            go_meet
            case rel => exact ⟨Lib.hid (N1.out x), Lib.hid (N2.out x), Lib.hid (below_drewN' (N3.out x) 1)⟩
        · have q2 : ¬ (k : Int) < (K.length : Int) := by omega
          have hx : Hid (K.getD k 0 = 0) := Lib.hid (by simp [List.getElem?_eq_none (show K.length ≤ k by omega)])
          have e1 : ∀ x, Hid ((cells8 (keyF K x k) 64).set k (.int .u8 (V 0)) = cells8 (keyF K x k) 64) := fun x => Lib.hid (by
            rw [cells8_set _ _ _ hlt]
            congr 1
            funext j
            by_cases e : j = k
            · rw [if_pos e, e]; unfold keyF; rw [if_neg (by omega)]
            · rw [if_neg e])
          have E1 := e1 0x36
          have E2 := e1 0x5c
          clear e1
          go_wp2_with fail
          go_meet
          case rel => exact ⟨by rw [hx.out, E1.out]; exact G1, by rw [hx.out, E2.out]; exact G2, G3⟩
      clear c1 c2 f1 f2 N1 N2 N3 G1 G2 G3
      obtain ⟨G1, G2, G3⟩ := hcut
      have hks1 := keyF_succ K 0x36 k hlt (.int .u8 (V (K.getD k 0)))
      have hks2 := keyF_succ K 0x5c k hlt (.int .u8 (V (K.getD k 0)))
      have HS1 := Lib.hid hks1
      have HS2 := Lib.hid hks2
      clear hks1 hks2
      generalize K.getD k 0 = x at *
      generalize wc = w5 at *
      have c1 : w5.cell? ⟨g, k, none⟩ = some (.int .u8 (V x)) := by rw [G1.out.cell, List.getElem?_set_self (by rw [cells8_length]; exact hlt)]
      have c2 : w5.cell? ⟨h, k, none⟩ = some (.int .u8 (V x)) := by rw [G2.out.cell, List.getElem?_set_self (by rw [cells8_length]; exact hlt)]
      have f1 : w5.frozen? ⟨g, k, none⟩ = false := G1.out.free _
      have f2 : w5.frozen? ⟨h, k, none⟩ = false := G2.out.free _
      have N1 : Hid (blockIs ((w5.setCell ⟨g, k, none⟩ (.int .u8 (V (x ^^^ 0x36)))).setCell ⟨h, k, none⟩ (.int .u8 (V (x ^^^ 0x5c)))) g (cells8 (keyF K 0x36 (k + 1)) 64) 5) := Lib.hid (by rw [← HS1.out]; exact (G1.out.set k _).other _ _ hgh)
      have N2 : Hid (blockIs ((w5.setCell ⟨g, k, none⟩ (.int .u8 (V (x ^^^ 0x36)))).setCell ⟨h, k, none⟩ (.int .u8 (V (x ^^^ 0x5c)))) h (cells8 (keyF K 0x5c (k + 1)) 64) 5) := Lib.hid (by rw [← HS2.out]; exact (G2.out.other _ _ hhg).set k _)
      have N3 : Hid (Below w0.heap.size w0 ((w5.setCell ⟨g, k, none⟩ (.int .u8 (V (x ^^^ 0x36)))).setCell ⟨h, k, none⟩ (.int .u8 (V (x ^^^ 0x5c))))) := Lib.hid ((G3.out.setCell GH.out.2.1 _).setCell GH.out.2.2 _)
      clear HS1 HS2 G1 G2 G3
      go_upto_region 9 with fail
      go_region_law (go_simp)
      all_goals
        go_wp2_with fail
        go_roundw
        case rel => exact ⟨k + 1, by omega, by go_num, N1, N2, Lib.hid (below_drewN' N3.out 1)⟩
        case measure => simp [intOf]; omega
    · obtain rfl : k = 64 := by omega
      rw [show ((64 : Nat) : Int) = 64 from rfl]
      rw [keyF_all] at G1 G2
      have hA : (padKey K 0x36).length = 64 := by simp [padKey]
      have hB : (padKey K 0x5c).length = 64 := by simp [padKey]
      have hin1 : bytesIn wr (some ⟨g, 0, none⟩) (padKey K 0x36) := Or.inr ⟨_, _, rfl, fun j hj => by rw [Nat.zero_add, G1.out.cell]; exact byteCells_get _ _ hj⟩
      have hin2 : bytesIn wr (some ⟨h, 0, none⟩) (padKey K 0x5c) := Or.inr ⟨_, _, rfl, fun j hj => by rw [Nat.zero_add, G2.out.cell]; exact byteCells_get _ _ hj⟩
      have hm := HM.out
      generalize padKey K 0x36 = A at *
      generalize padKey K 0x5c = B at *
      have cv1 : ∀ wx : World, Below wr.heap.size wr wx → (convert 30 9 (.slice (some ⟨g, 0, none⟩) 64 64)).run Tryd.prog wx = .ok (.string (str A)) wx := fun wx hx => by
        have := conv_string wx (some ⟨g, 0, none⟩) A 64 (hin1.below hx)
        rwa [hA] at this
      have cv2 : ∀ wx : World, Below wr.heap.size wr wx → (convert 30 9 (.slice (some ⟨h, 0, none⟩) 64 64)).run Tryd.prog wx = .ok (.string (str B)) wx := fun wx hx => by
        have := conv_string wx (some ⟨h, 0, none⟩) B 64 (hin2.below hx)
        rwa [hB] at this
      have P1 : Hid (∀ X : World, Below wr.heap.size wr X → Calls Tryd.prog 57 #[.string (str (A ++ L))] X fun e w' => e = .returned (.string (str (sha (A ++ L)))) ∧ Below wr.heap.size wr w') := Lib.hid fun X hX =>
        (rof_any (A ++ L) X (by rw [List.length_append, hA]; omega)).mono fun e w' ⟨h1, h2⟩ => ⟨h1, hX.trans (h2.mono hX.size)⟩
      have hM1 := sha_len (A ++ L)
      have ap1 : str A ++ str L = str (A ++ L) := str_append _ _
      have q1 : ¬ 9223372036854775807 < (str A).size + (str L).size := by rw [str_size, str_size, hA]; omega
      generalize hm1 : sha (A ++ L) = M1 at *
      have ap2 : str B ++ str M1 = str (B ++ M1) := str_append _ _
      have q2 : ¬ 9223372036854775807 < (str B).size + (str M1).size := by rw [str_size, str_size, hB, hM1]; omega
      have P2 : Hid (∀ X : World, Below wr.heap.size wr X → Calls Tryd.prog 57 #[.string (str (B ++ M1))] X fun e w' => e = .returned (.string (str (sha (B ++ M1)))) ∧ Below wr.heap.size wr w') := Lib.hid fun X hX =>
        (rof_any (B ++ M1) X (by rw [List.length_append, hB, hM1]; omega)).mono fun e w' ⟨h1, h2⟩ => ⟨h1, hX.trans (h2.mono hX.size)⟩
      have HMM := Lib.hid hm
      clear hm hm1 hM1 hA hB hin1 hin2 G1 G2 HM
      generalize sha (B ++ M1) = M2 at *
      have BB := Below.refl wr.heap.size wr
      have B3 := Lib.hid (B0.out.trans (G3.out.mono B0.out.size))
      clear G3
      go_wp2_with fail
      go_region_held3 (fun w' => Below wr.heap.size wr w')
        (first | assumption | exact below_drew' (by assumption))
        (first
        | (go_at_call 57
           with_reducible refine (P1.out _ (by assumption)).mono ?_
           rintro e w6 ⟨rfl, k6⟩)
        | (go_at_call 57
           with_reducible refine (P2.out _ (by assumption)).mono ?_
           rintro e w6 ⟨rfl, k6⟩))
      clear cv1 cv2 ap1 ap2
      go_wp2_with fail
      go_ret
      exact ⟨by rw [HMM.out]; rfl, B3.out.trans (k6.mono B3.out.size)⟩
end Go.Proofs.YtfhlcondnaahiaaDoor
end
section
/- The document's AES-256 in plain functions: products by adding up, the inverse by trying, columns of bytes; and that these are the words' ones. -/
section
namespace Go.Proofs.YtfhlcondnaahiaaDoor.Ci.Aes
open Go Sha

def s1 (a b k p : Nat) : Nat := Nat.xor p (Nat.mul (Nat.land (Nat.shiftRight b k) 1) (Nat.shiftLeft a k))
def s2 (i c q : Nat) : Nat := Nat.xor q (Nat.mul (Nat.land (Nat.shiftRight q i) 1) c)
def tA (a b : Nat) : Nat → Nat
  | 0 => 0
  | k + 1 => s1 a b k (tA a b k)
def tB (p : Nat) : Nat → Nat
  | 0 => p
  | k + 1 => s2 (14 - k) (Nat.shiftLeft 0x11B (6 - k)) (tB p k)
def tm (a b : Nat) : Nat := tB (tA a b 8) 7
def tmF (a b : Nat) : Nat := s2 8 0x11B (s2 9 566 (s2 10 1132 (s2 11 2264 (s2 12 4528 (s2 13 9056 (s2 14 18112 (s1 a b 7 (s1 a b 6 (s1 a b 5 (s1 a b 4 (s1 a b 3 (s1 a b 2 (s1 a b 1 (s1 a b 0 0))))))))))))))
theorem tm_fast (a b : Nat) : tm a b = tmF a b := rfl
def invL : List Nat := [0, 1, 141, 246, 203, 82, 123, 209, 232, 79, 41, 192, 176, 225, 229, 199, 116, 180, 170, 75, 153, 43, 96, 95, 88, 63, 253, 204, 255, 64, 238, 178, 58, 110, 90, 241, 85, 77, 168, 201, 193, 10, 152, 21, 48, 68, 162, 194, 44, 69, 146, 108, 243, 57, 102, 66, 242, 53, 32, 111, 119, 187, 89, 25, 29, 254, 55, 103, 45, 49, 245, 105, 167, 100, 171, 19, 84, 37, 233, 9, 237, 92, 5, 202, 76, 36, 135, 191, 24, 62, 34, 240, 81, 236, 97, 23, 22, 94, 175, 211, 73, 166, 54, 67, 244, 71, 145, 223, 51, 147, 33, 59, 121, 183, 151, 133, 16, 181, 186, 60, 182, 112, 208, 6, 161, 250, 129, 130, 131, 126, 127, 128, 150, 115, 190, 86, 155, 158, 149, 217, 247, 2, 185, 164, 222, 106, 50, 109, 216, 138, 132, 114, 42, 20, 159, 136, 249, 220, 137, 154, 251, 124, 46, 195, 143, 184, 101, 72, 38, 200, 18, 74, 206, 231, 210, 98, 12, 224, 31, 239, 17, 117, 120, 113, 165, 142, 118, 61, 189, 188, 134, 87, 11, 40, 47, 163, 218, 212, 228, 15, 169, 39, 83, 4, 27, 252, 172, 230, 122, 7, 174, 99, 197, 219, 226, 234, 148, 139, 196, 213, 157, 248, 144, 107, 177, 13, 214, 235, 198, 14, 207, 173, 8, 78, 215, 227, 93, 80, 30, 179, 91, 35, 56, 52, 104, 70, 3, 140, 221, 156, 125, 160, 205, 26, 65, 28]
def noneBelow (x : Nat) : Nat → Bool
  | 0 => true
  | y + 1 => noneBelow x y && !(Nat.beq (tmF x y) 1)
theorem noneBelow_at (x : Nat) : ∀ n y, noneBelow x n = true → y < n → tm x y ≠ 1
  | 0, y, _, h => absurd h (Nat.not_lt_zero y)
  | n + 1, y, h, hy => by
    rw [noneBelow, Bool.and_eq_true] at h
    rcases Nat.lt_succ_iff_lt_or_eq.1 hy with h1 | h1
    · exact noneBelow_at x n y h.1 h1
    · subst h1
      rw [tm_fast]
      intro e
      rw [e] at h
      exact absurd h.2 (by decide)
set_option maxRecDepth 100000 in
theorem inv_chk : (List.range 256).all (fun x => Nat.beq x 0 || (noneBelow x (invL.getD x 0) && (Nat.beq (tmF x (invL.getD x 0)) 1 && (Nat.ble 1 (invL.getD x 0) && Nat.ble (invL.getD x 0) 255)))) = true := by decide +kernel
def inv (x : Nat) : Nat := invL.getD x 0
theorem inv_facts (x : Nat) (hx : x < 256) (h0 : 0 < x) : (∀ y, y < inv x → tm x y ≠ 1) ∧ tm x (inv x) = 1 ∧ 1 ≤ inv x ∧ inv x < 256 := by
  have h := List.all_eq_true.1 inv_chk x (List.mem_range.2 hx)
  have h1 : Nat.beq x 0 = false := by cases x with | zero => omega | succ n => rfl
  rw [h1, Bool.false_or, Bool.and_eq_true, Bool.and_eq_true, Bool.and_eq_true] at h
  obtain ⟨a, b, c, d⟩ := h
  exact ⟨fun y hy => noneBelow_at x _ y a hy, Nat.eq_of_beq_eq_true b, Nat.le_of_ble_eq_true c, Nat.lt_succ_of_le (Nat.le_of_ble_eq_true d)⟩
def bit (v i : Nat) : Nat := (((((v >>> i) ^^^ (v >>> ((i + 4) % 8))) ^^^ (v >>> ((i + 5) % 8))) ^^^ (v >>> ((i + 6) % 8))) ^^^ (v >>> ((i + 7) % 8))) ^^^ (0x63 >>> i)
def bx (v : Nat) : Nat → Nat
  | 0 => 0
  | i + 1 => bx v i + (bit v i % 2) <<< i
set_option maxRecDepth 100000 in
theorem bx_chk : (List.range 256).all (fun x => Nat.beq (bx (inv x) 8) (sbox.getD x 0).toNat) = true := by decide +kernel
theorem bx_box (x : Nat) (hx : x < 256) : bx (inv x) 8 = (sbox.getD x 0).toNat := Nat.eq_of_beq_eq_true (List.all_eq_true.1 bx_chk x (List.mem_range.2 hx))
def xt (x : UInt8) : UInt8 := (x <<< 1) ^^^ (if x.toBitVec.getLsbD 7 then 0x1b else 0)
theorem byteOf_bv (x : W) (n : Nat) : (byteOf x n).toBitVec = (x >>> n).setWidth 8 := by
  unfold byteOf
  apply BitVec.eq_of_toNat_eq
  simp
theorem byteOf_bit (x : W) (n i : Nat) (h : i < 8) : (byteOf x n).toBitVec.getLsbD i = x.getLsbD (n + i) := by
  rw [byteOf_bv]; simp [h]
theorem u8_ext {x y : UInt8} (h : ∀ i, i < 8 → x.toBitVec.getLsbD i = y.toBitVec.getLsbD i) : x = y := by
  apply UInt8.toBitVec_inj.1
  exact BitVec.eq_of_getLsbD_eq fun i hi => h i hi
theorem ofB_bit (a : UInt8) (i : Nat) : (BitVec.ofNat 32 a.toNat).getLsbD i = a.toBitVec.getLsbD i := by
  have : BitVec.ofNat 32 a.toNat = a.toBitVec.setWidth 32 := by
    apply BitVec.eq_of_toNat_eq; simp
  rw [this]
  by_cases h : i < 32
  · simp [h]
  · simp only [BitVec.getLsbD_setWidth, h, decide_false, Bool.false_and]
    exact (BitVec.getLsbD_of_ge _ _ (by omega)).symm
theorem u8_high (a : UInt8) (i : Nat) (h : 8 ≤ i) : a.toBitVec.getLsbD i = false := BitVec.getLsbD_of_ge _ _ h
theorem word_bit (a b c d : UInt8) (i : Nat) (h : i < 32) : (word a b c d).getLsbD i = if 24 ≤ i then a.toBitVec.getLsbD (i - 24) else if 16 ≤ i then b.toBitVec.getLsbD (i - 16) else if 8 ≤ i then c.toBitVec.getLsbD (i - 8) else d.toBitVec.getLsbD i := by
  unfold word
  simp only [BitVec.getLsbD_or, BitVec.getLsbD_shiftLeft, ofB_bit, h, decide_true, Bool.true_and]
  by_cases h1 : 24 ≤ i
  · rw [if_pos h1, u8_high b (i - 16) (by omega), u8_high c (i - 8) (by omega), u8_high d i (by omega)]
    simp [show ¬ i < 24 by omega]
  · by_cases h2 : 16 ≤ i
    · rw [if_neg h1, if_pos h2, u8_high c (i - 8) (by omega), u8_high d i (by omega)]
      simp [show i < 24 by omega, show ¬ i < 16 by omega]
    · by_cases h3 : 8 ≤ i
      · rw [if_neg h1, if_neg h2, if_pos h3, u8_high d i (by omega)]
        simp [show i < 24 by omega, show i < 16 by omega, show ¬ i < 8 by omega]
      · rw [if_neg h1, if_neg h2, if_neg h3]
        simp [show i < 24 by omega, show i < 16 by omega, show i < 8 by omega]
theorem byteOf_word24 (a b c d : UInt8) : byteOf (word a b c d) 24 = a := u8_ext fun i hi => by
  rw [byteOf_bit _ _ _ hi, word_bit _ _ _ _ _ (by omega), if_pos (by omega)]; congr 1; omega
theorem byteOf_word16 (a b c d : UInt8) : byteOf (word a b c d) 16 = b := u8_ext fun i hi => by
  rw [byteOf_bit _ _ _ hi, word_bit _ _ _ _ _ (by omega), if_neg (by omega), if_pos (by omega)]; congr 1; omega
theorem byteOf_word8 (a b c d : UInt8) : byteOf (word a b c d) 8 = c := u8_ext fun i hi => by
  rw [byteOf_bit _ _ _ hi, word_bit _ _ _ _ _ (by omega), if_neg (by omega), if_neg (by omega), if_pos (by omega)]; congr 1; omega
theorem byteOf_word0 (a b c d : UInt8) : byteOf (word a b c d) 0 = d := u8_ext fun i hi => by
  rw [byteOf_bit _ _ _ hi, word_bit _ _ _ _ _ (by omega), if_neg (by omega), if_neg (by omega), if_neg (by omega)]; congr 1; omega
theorem byteOf_xor (x y : W) (n : Nat) : byteOf (x ^^^ y) n = byteOf x n ^^^ byteOf y n := u8_ext fun i hi => by
  rw [byteOf_bit _ _ _ hi, UInt8.toBitVec_xor, BitVec.getLsbD_xor, BitVec.getLsbD_xor, byteOf_bit _ _ _ hi, byteOf_bit _ _ _ hi]
theorem rol_bit (x : W) (n i : Nat) (hn : n ≤ 32) (h : i < 32) : (rol x n).getLsbD i = if i < n then x.getLsbD (32 - n + i) else x.getLsbD (i - n) := by
  unfold rol
  simp only [BitVec.getLsbD_or, BitVec.getLsbD_shiftLeft, BitVec.getLsbD_ushiftRight, h, decide_true, Bool.true_and]
  by_cases h1 : i < n
  · simp [h1]
  · rw [if_neg h1, BitVec.getLsbD_of_ge x (32 - n + i) (by omega)]; simp [h1]
theorem byteOf_rol (x : W) (n m k : Nat) (hn : n ≤ 32) (hk : k + 8 ≤ 32) (hm : if k + 8 ≤ n then m = 32 - n + k else n ≤ k ∧ m = k - n) : byteOf (rol x n) k = byteOf x m := u8_ext fun i hi => by
  rw [byteOf_bit _ _ _ hi, byteOf_bit _ _ _ hi, rol_bit _ _ _ hn (by omega)]
  split at hm
  · rw [if_pos (by omega)]; congr 1; omega
  · rw [if_neg (by omega)]; congr 1; omega
def tops (a b c d : Bool) : W := (if a then 0x01000000 else 0) ||| (if b then 0x00010000 else 0) ||| (if c then 0x00000100 else 0) ||| (if d then 1 else 0)
def twos (a b c d : Bool) : W := (if a then 0x1b000000 else 0) ||| (if b then 0x001b0000 else 0) ||| (if c then 0x00001b00 else 0) ||| (if d then 0x1b else 0)
theorem tops_mul (a b c d : Bool) : tops a b c d * 0x1b = twos a b c d := by cases a <;> cases b <;> cases c <;> cases d <;> decide
theorem twos_word (a b c d : Bool) : twos a b c d = word (if a then 0x1b else 0) (if b then 0x1b else 0) (if c then 0x1b else 0) (if d then 0x1b else 0) := by cases a <;> cases b <;> cases c <;> cases d <;> decide
theorem tops_word (a b c d : Bool) : tops a b c d = word (if a then 1 else 0) (if b then 1 else 0) (if c then 1 else 0) (if d then 1 else 0) := by cases a <;> cases b <;> cases c <;> cases d <;> decide
theorem tops_of (w : W) : (w >>> 7) &&& 0x01010101 = tops (w.getLsbD 31) (w.getLsbD 23) (w.getLsbD 15) (w.getLsbD 7) := by
  have e : ∀ i, i < 8 → ∀ c : Bool, (if c then (1 : UInt8) else 0).toBitVec.getLsbD i = (c && decide (i = 0)) := by
    intro i hi c
    cases c
    · simp
    · match i, hi with
      | 0, _ => decide
      | 1, _ => decide
      | 2, _ => decide
      | 3, _ => decide
      | 4, _ => decide
      | 5, _ => decide
      | 6, _ => decide
      | 7, _ => decide
  have m : ∀ i : Fin 32, (0x01010101 : W).getLsbD i = decide (i.val % 8 = 0) := by decide
  apply BitVec.eq_of_getLsbD_eq
  intro i hi
  rw [tops_word, word_bit _ _ _ _ _ hi, BitVec.getLsbD_and, BitVec.getLsbD_ushiftRight, m ⟨i, hi⟩]
  by_cases h1 : 24 ≤ i
  · rw [if_pos h1, e _ (by omega)]
    by_cases h : i = 24
    · subst h; simp
    · simp [show ¬ i % 8 = 0 by omega, show ¬ i - 24 = 0 by omega]
  · by_cases h2 : 16 ≤ i
    · rw [if_neg h1, if_pos h2, e _ (by omega)]
      by_cases h : i = 16
      · subst h; simp
      · simp [show ¬ i % 8 = 0 by omega, show ¬ i - 16 = 0 by omega]
    · by_cases h3 : 8 ≤ i
      · rw [if_neg h1, if_neg h2, if_pos h3, e _ (by omega)]
        by_cases h : i = 8
        · subst h; simp
        · simp [show ¬ i % 8 = 0 by omega, show ¬ i - 8 = 0 by omega]
      · rw [if_neg h1, if_neg h2, if_neg h3, e _ (by omega)]
        by_cases h : i = 0
        · subst h; simp
        · simp [show ¬ i % 8 = 0 by omega, h]
theorem low7 (w : W) (k : Nat) (hk : k = 0 ∨ k = 8 ∨ k = 16 ∨ k = 24) : byteOf ((w &&& 0x7f7f7f7f) <<< 1) k = byteOf w k <<< 1 := u8_ext fun i hi => by
  have m : ∀ i : Fin 32, (0x7f7f7f7f : W).getLsbD i = decide (i.val % 8 ≠ 7) := by decide
  rw [byteOf_bit _ _ _ hi, BitVec.getLsbD_shiftLeft, BitVec.getLsbD_and]
  have h1 : (byteOf w k <<< (1 : UInt8)).toBitVec = (byteOf w k).toBitVec <<< 1 := by rw [UInt8.toBitVec_shiftLeft]; rfl
  rw [h1, BitVec.getLsbD_shiftLeft]
  by_cases h0 : i = 0
  · subst h0
    by_cases hk0 : k = 0
    · subst hk0; simp
    · have mm := m ⟨k + 0 - 1, by omega⟩
      simp only at mm
      rw [mm]
      simp [show (k - 1) % 8 = 7 by omega]
  · have mm := m ⟨k + i - 1, by omega⟩
    simp only at mm
    rw [mm, byteOf_bit _ _ _ (by omega)]
    simp [show k + i < 32 by omega, hi, h0, show k + i - 1 = k + (i - 1) by omega, show ¬ k + i < 1 by omega]
    omega
theorem byteOf_twice24 (w : W) : byteOf (twice w) 24 = xt (byteOf w 24) := by
  unfold twice xt
  rw [byteOf_xor, low7 w 24 (by omega), tops_of, tops_mul, twos_word, byteOf_word24, byteOf_bit _ _ _ (by decide)]
theorem byteOf_twice16 (w : W) : byteOf (twice w) 16 = xt (byteOf w 16) := by
  unfold twice xt
  rw [byteOf_xor, low7 w 16 (by omega), tops_of, tops_mul, twos_word, byteOf_word16, byteOf_bit _ _ _ (by decide)]
theorem byteOf_twice8 (w : W) : byteOf (twice w) 8 = xt (byteOf w 8) := by
  unfold twice xt
  rw [byteOf_xor, low7 w 8 (by omega), tops_of, tops_mul, twos_word, byteOf_word8, byteOf_bit _ _ _ (by decide)]
theorem byteOf_twice0 (w : W) : byteOf (twice w) 0 = xt (byteOf w 0) := by
  unfold twice xt
  rw [byteOf_xor, low7 w 0 (by omega), tops_of, tops_mul, twos_word, byteOf_word0, byteOf_bit _ _ _ (by decide)]
def mx (a b c d : UInt8) : UInt8 := ((xt a ^^^ (xt b ^^^ b)) ^^^ c) ^^^ d
theorem byteOf_mix24 (w : W) : byteOf (mix w) 24 = mx (byteOf w 24) (byteOf w 16) (byteOf w 8) (byteOf w 0) := by
  unfold mix mx
  rw [byteOf_xor, byteOf_xor, byteOf_xor, byteOf_rol _ 8 16 24 (by decide) (by decide) (by decide), byteOf_rol _ 16 8 24 (by decide) (by decide) (by decide), byteOf_rol _ 24 0 24 (by decide) (by decide) (by decide), byteOf_xor, byteOf_twice24, byteOf_twice16]
theorem byteOf_mix16 (w : W) : byteOf (mix w) 16 = mx (byteOf w 16) (byteOf w 8) (byteOf w 0) (byteOf w 24) := by
  unfold mix mx
  rw [byteOf_xor, byteOf_xor, byteOf_xor, byteOf_rol _ 8 8 16 (by decide) (by decide) (by decide), byteOf_rol _ 16 0 16 (by decide) (by decide) (by decide), byteOf_rol _ 24 24 16 (by decide) (by decide) (by decide), byteOf_xor, byteOf_twice16, byteOf_twice8]
theorem byteOf_mix8 (w : W) : byteOf (mix w) 8 = mx (byteOf w 8) (byteOf w 0) (byteOf w 24) (byteOf w 16) := by
  unfold mix mx
  rw [byteOf_xor, byteOf_xor, byteOf_xor, byteOf_rol _ 8 0 8 (by decide) (by decide) (by decide), byteOf_rol _ 16 24 8 (by decide) (by decide) (by decide), byteOf_rol _ 24 16 8 (by decide) (by decide) (by decide), byteOf_xor, byteOf_twice8, byteOf_twice0]
theorem byteOf_mix0 (w : W) : byteOf (mix w) 0 = mx (byteOf w 0) (byteOf w 24) (byteOf w 16) (byteOf w 8) := by
  unfold mix mx
  rw [byteOf_xor, byteOf_xor, byteOf_xor, byteOf_rol _ 8 24 0 (by decide) (by decide) (by decide), byteOf_rol _ 16 16 0 (by decide) (by decide) (by decide), byteOf_rol _ 24 8 0 (by decide) (by decide) (by decide), byteOf_xor, byteOf_twice0, byteOf_twice24]

set_option maxRecDepth 100000 in
theorem tm2_chk : (List.range 256).all (fun x => Nat.beq (tmF x 2) (xt (UInt8.ofNat x)).toNat && Nat.beq (tmF x 3) (xt (UInt8.ofNat x) ^^^ UInt8.ofNat x).toNat) = true := by decide +kernel
theorem tm_two (x : UInt8) : tm x.toNat 2 = (xt x).toNat := by
  have h := List.all_eq_true.1 tm2_chk x.toNat (List.mem_range.2 x.toNat_lt)
  rw [Bool.and_eq_true, UInt8.ofNat_toNat] at h
  exact Nat.eq_of_beq_eq_true h.1
theorem tm_three (x : UInt8) : tm x.toNat 3 = (xt x ^^^ x).toNat := by
  have h := List.all_eq_true.1 tm2_chk x.toNat (List.mem_range.2 x.toNat_lt)
  rw [Bool.and_eq_true, UInt8.ofNat_toNat] at h
  exact Nat.eq_of_beq_eq_true h.2
theorem tm_con (k : Nat) (hk : k < 7) : tm (2 ^ k) 2 = 2 ^ (k + 1) := by
  have : (List.range 7).all (fun k => Nat.beq (tmF (2 ^ k) 2) (2 ^ (k + 1))) = true := by decide +kernel
  exact Nat.eq_of_beq_eq_true (List.all_eq_true.1 this k (List.mem_range.2 hk))

def st4 (s : St) : List UInt8 := bytes4 s.p ++ (bytes4 s.q ++ (bytes4 s.r ++ bytes4 s.t))
def lane (w : W) (j : Nat) : UInt8 := byteOf w (24 - 8 * j)
def shiftR (s : List UInt8) : List UInt8 := (List.range 16).map fun i => sub (s.getD (4 * ((i / 4 + i % 4) % 4) + i % 4) 0)
def mixR (u : List UInt8) : List UInt8 := (List.range 16).map fun i => mx (u.getD i 0) (u.getD (4 * (i / 4) + (i % 4 + 1) % 4) 0) (u.getD (4 * (i / 4) + (i % 4 + 2) % 4) 0) (u.getD (4 * (i / 4) + (i % 4 + 3) % 4) 0)
def addR (ws : List W) (n : Nat) (t : List UInt8) : List UInt8 := (List.range 16).map fun i => t.getD i 0 ^^^ lane (ws.getD (4 * n + i / 4) 0) (i % 4)
def roundR (ws : List W) (n : Nat) (s : List UInt8) : List UInt8 := addR ws n (if n < 14 then mixR (shiftR s) else shiftR s)
def roundsR (ws : List W) : Nat → List UInt8 → List UInt8
  | 0, s => s
  | n + 1, s => roundR ws (n + 1) (roundsR ws n s)
def turnR (ws : List W) (b : List UInt8) : List UInt8 := roundsR ws 14 (addR ws 0 b)
theorem addR_st (ws : List W) (n : Nat) (s : St) : addR ws n (st4 s) = st4 ⟨s.p ^^^ ws.getD (4 * n) 0, s.q ^^^ ws.getD (4 * n + 1) 0, s.r ^^^ ws.getD (4 * n + 2) 0, s.t ^^^ ws.getD (4 * n + 3) 0⟩ := by
  unfold st4 bytes4
  simp only [byteOf_xor]
  rfl
theorem bytes4_pick (a b c d : W) : bytes4 (pick a b c d) = [sub (byteOf a 24), sub (byteOf b 16), sub (byteOf c 8), sub (byteOf d 0)] := by
  unfold bytes4 pick
  rw [byteOf_word24, byteOf_word16, byteOf_word8, byteOf_word0]
theorem shiftR_st (s : St) : shiftR (st4 s) = st4 ⟨pick s.p s.q s.r s.t, pick s.q s.r s.t s.p, pick s.r s.t s.p s.q, pick s.t s.p s.q s.r⟩ := by
  unfold st4
  simp only [bytes4_pick]
  rfl
theorem bytes4_mix (w : W) : bytes4 (mix w) = [mx (byteOf w 24) (byteOf w 16) (byteOf w 8) (byteOf w 0), mx (byteOf w 16) (byteOf w 8) (byteOf w 0) (byteOf w 24), mx (byteOf w 8) (byteOf w 0) (byteOf w 24) (byteOf w 16), mx (byteOf w 0) (byteOf w 24) (byteOf w 16) (byteOf w 8)] := by
  unfold bytes4
  rw [byteOf_mix24, byteOf_mix16, byteOf_mix8, byteOf_mix0]
theorem mixR_st (s : St) : mixR (st4 s) = st4 ⟨mix s.p, mix s.q, mix s.r, mix s.t⟩ := by
  unfold st4
  simp only [bytes4_mix]
  rfl
theorem roundR_st (ws : List W) (n : Nat) (h : n < 14) (s : St) : roundR ws n (st4 s) = st4 (round ws (4 * n) s) := by
  unfold roundR
  rw [if_pos h, shiftR_st, mixR_st, addR_st]
  rfl
theorem roundR_last (ws : List W) (s : St) : roundR ws 14 (st4 s) = st4 (last ws s) := by
  unfold roundR
  rw [if_neg (by decide), shiftR_st, addR_st]
  rfl
theorem roundsR_st (ws : List W) (s : St) : ∀ n, n < 14 → roundsR ws n (st4 s) = st4 (rounds ws n s)
  | 0, _ => rfl
  | n + 1, h => by rw [roundsR, roundsR_st ws s n (by omega), roundR_st _ _ h, rounds]
theorem st4_word (b : List UInt8) (h : b.length = 16) : st4 ⟨wordAt b 0, wordAt b 1, wordAt b 2, wordAt b 3⟩ = b := by
  unfold st4 bytes4 wordAt
  simp only [byteOf_word24, byteOf_word16, byteOf_word8, byteOf_word0]
  match b, h with
  | [_, _, _, _, _, _, _, _, _, _, _, _, _, _, _, _], _ => rfl
theorem turnR_eq (ws : List W) (b : List UInt8) (h : b.length = 16) : turnR ws b = turn ws b := by
  have e : addR ws 0 b = st4 (start ws b) := by
    have := addR_st ws 0 ⟨wordAt b 0, wordAt b 1, wordAt b 2, wordAt b 3⟩
    rw [st4_word b h] at this
    exact this
  unfold turnR
  rw [e]
  show roundR ws 14 (roundsR ws 13 (st4 (start ws b))) = _
  rw [roundsR_st ws _ 13 (by decide), roundR_last]
  rfl
theorem addR_len (ws : List W) (n : Nat) (t : List UInt8) : (addR ws n t).length = 16 := by simp [addR]
theorem roundsR_len (ws : List W) (b : List UInt8) (n : Nat) : (roundsR ws n (addR ws 0 b)).length = 16 := by
  cases n with
  | zero => exact addR_len ..
  | succ n => exact addR_len ..
theorem lane_xor (x y : W) (j : Nat) : lane (x ^^^ y) j = lane x j ^^^ lane y j := byteOf_xor x y _
theorem lane_wordAt (l : List UInt8) (i j : Nat) (hj : j < 4) : lane (wordAt l i) j = l.getD (4 * i + j) 0 := by
  match j, hj with
  | 0, _ => exact byteOf_word24 ..
  | 1, _ => exact byteOf_word16 ..
  | 2, _ => exact byteOf_word8 ..
  | 3, _ => exact byteOf_word0 ..
theorem lane_pick (x : W) (j : Nat) (hj : j < 4) : lane (pick x x x x) j = sub (lane x j) := by
  match j, hj with
  | 0, _ => exact byteOf_word24 ..
  | 1, _ => exact byteOf_word16 ..
  | 2, _ => exact byteOf_word8 ..
  | 3, _ => exact byteOf_word0 ..
theorem lane_rol (x : W) (j : Nat) (hj : j < 4) : lane (rol x 8) j = lane x ((j + 1) % 4) := by
  match j, hj with
  | 0, _ => exact byteOf_rol _ 8 16 24 (by decide) (by decide) (by decide)
  | 1, _ => exact byteOf_rol _ 8 8 16 (by decide) (by decide) (by decide)
  | 2, _ => exact byteOf_rol _ 8 0 8 (by decide) (by decide) (by decide)
  | 3, _ => exact byteOf_rol _ 8 24 0 (by decide) (by decide) (by decide)
theorem lane_con (k j : Nat) (hk : k < 7) (hj : j < 4) : lane ((1 : W) <<< (k + 24)) j = if j = 0 then UInt8.ofNat (2 ^ k) else 0 := by
  match k, hk, j, hj with
  | 0, _, 0, _ | 0, _, 1, _ | 0, _, 2, _ | 0, _, 3, _ => decide
  | 1, _, 0, _ | 1, _, 1, _ | 1, _, 2, _ | 1, _, 3, _ => decide
  | 2, _, 0, _ | 2, _, 1, _ | 2, _, 2, _ | 2, _, 3, _ => decide
  | 3, _, 0, _ | 3, _, 1, _ | 3, _, 2, _ | 3, _, 3, _ => decide
  | 4, _, 0, _ | 4, _, 1, _ | 4, _, 2, _ | 4, _, 3, _ => decide
  | 5, _, 0, _ | 5, _, 1, _ | 5, _, 2, _ | 5, _, 3, _ => decide
  | 6, _, 0, _ | 6, _, 1, _ | 6, _, 2, _ | 6, _, 3, _ => decide
def nextLane (s : List W) (i j : Nat) : UInt8 :=
  if i % 8 = 0 then (if j = 0 then sub (lane (s.getD (i - 1) 0) ((j + 1) % 4)) ^^^ UInt8.ofNat (2 ^ (i / 8 - 1)) else sub (lane (s.getD (i - 1) 0) ((j + 1) % 4)))
  else if i % 8 = 4 then sub (lane (s.getD (i - 1) 0) j) else lane (s.getD (i - 1) 0) j
theorem lane_next (s : List W) (i j : Nat) (h8 : 8 ≤ i) (hi : i < 60) (hj : j < 4) : lane (nextWord s i) j = nextLane s i j := by
  unfold nextWord nextLane
  split
  · rename_i h0
    have e : i / 8 + 23 = (i / 8 - 1) + 24 := by omega
    rw [lane_xor, lane_pick _ _ hj, lane_rol _ _ hj, e, lane_con _ _ (by omega) hj]
    split
    · rfl
    · exact UInt8.xor_zero
  · split
    · exact lane_pick _ _ hj
    · rfl
end Go.Proofs.YtfhlcondnaahiaaDoor.Ci.Aes
end
section
/- hypogeumref02.times: the product of two bytes. -/
namespace Go.Proofs.YtfhlcondnaahiaaDoor.Ci
open Go.RowKit Sha Aes

theorem i64_and_nat (a b : Nat) (ha : a < 9223372036854775808) (hb : b < 9223372036854775808) : bits .and .i64 (a : Int) (b : Int) = ((a &&& b : Nat) : Int) := by
  have hx : a &&& b < 2 ^ 63 := Nat.and_lt_two_pow _ (by omega)
  show IntKind.i64.wrap ((BitVec.ofInt 64 (a : Int) &&& BitVec.ofInt 64 (b : Int)).toNat : Int) = _
  rw [BitVec.toNat_and, ofInt_u64 a (by omega), ofInt_u64 b (by omega), IntWalk.i64_in _ (by omega)]
theorem i64_xor_nat (a b : Nat) (ha : a < 9223372036854775808) (hb : b < 9223372036854775808) : bits .xor .i64 (a : Int) (b : Int) = ((a ^^^ b : Nat) : Int) := by
  have hx : a ^^^ b < 2 ^ 63 := Nat.xor_lt_two_pow (by omega) (by omega)
  show IntKind.i64.wrap ((BitVec.ofInt 64 (a : Int) ^^^ BitVec.ofInt 64 (b : Int)).toNat : Int) = _
  rw [BitVec.toNat_xor, ofInt_u64 a (by omega), ofInt_u64 b (by omega), IntWalk.i64_in _ (by omega)]
theorem int_shr (a k : Nat) : (a : Int) / 2 ^ k = ((a >>> k : Nat) : Int) := by
  rw [Nat.shiftRight_eq_div_pow, Int.natCast_ediv, Int.natCast_pow]
  rfl
theorem int_shl (a k : Nat) (h : a * 2 ^ k < 9223372036854775808) : IntKind.i64.wrap ((a : Int) * 2 ^ k) = ((a <<< k : Nat) : Int) := by
  have e : (a : Int) * 2 ^ k = ((a * 2 ^ k : Nat) : Int) := by rw [Int.natCast_mul, Int.natCast_pow]; rfl
  rw [Nat.shiftLeft_eq, e]
  generalize a * 2 ^ k = x at *
  exact IntWalk.i64_in _ (by omega)
theorem shl_le (a k m : Nat) (ha : a < 2 ^ m) : a <<< k < 2 ^ (m + k) := by
  rw [Nat.shiftLeft_eq, Nat.pow_add]
  exact Nat.mul_lt_mul_of_pos_right ha (Nat.pow_pos (by decide))
theorem land_one (x : Nat) : x &&& 1 = x % 2 := by rw [Nat.and_one_is_mod]
theorem s1_def (a b k p : Nat) : s1 a b k p = p ^^^ ((b >>> k) % 2) * (a <<< k) := by
  rw [← land_one]; rfl
theorem s2_def (i c q : Nat) : s2 i c q = q ^^^ ((q >>> i) % 2) * c := by
  rw [← land_one]; rfl
theorem tA_lt (a b : Nat) (ha : a < 256) : ∀ k, k ≤ 8 → tA a b k < 2 ^ 16
  | 0, _ => by show 0 < 2 ^ 16; decide
  | k + 1, h => by
    rw [tA, s1_def]
    refine Nat.xor_lt_two_pow (tA_lt a b ha k (by omega)) ?_
    have h1 := shl_le a k 8 ha
    have h2 : 2 ^ (8 + k) ≤ 2 ^ 16 := Nat.pow_le_pow_right (by decide) (by omega)
    rcases Nat.mod_two_eq_zero_or_one (b >>> k) with e | e <;> rw [e] <;> omega
theorem tB_lt (p : Nat) (hp : p < 2 ^ 16) : ∀ k, k ≤ 7 → tB p k < 2 ^ 16
  | 0, _ => hp
  | k + 1, h => by
    rw [tB, s2_def]
    refine Nat.xor_lt_two_pow (tB_lt p hp k (by omega)) ?_
    have h1 : 0x11B <<< (6 - k) < 2 ^ (9 + (6 - k)) := shl_le 0x11B (6 - k) 9 (by decide)
    have h2 : 2 ^ (9 + (6 - k)) ≤ 2 ^ 16 := Nat.pow_le_pow_right (by decide) (by omega)
    have h3 : Nat.shiftLeft 0x11B (6 - k) = 0x11B <<< (6 - k) := rfl
    rw [h3]
    rcases Nat.mod_two_eq_zero_or_one (tB p k >>> (14 - k)) with e | e <;> rw [e] <;> omega

set_option maxRecDepth 100000 in
set_option maxHeartbeats 2000000 in
theorem times_any (a b : Nat) (w : World) (ha : a < 256) (hb : b < 256) :
    Calls Tryd.prog 92 #[.int .i64 a, .int .i64 b] w fun e w' => e = .returned (.int .i64 (tm a b : Nat)) ∧ w = w' := by
  go_enter Tryd.func92, Tryd.ntmps92
  go_wp2_with fail
  go_loopw [6, 5] (fun i p wr => ∃ k : Nat, k ≤ 8 ∧ i = .int .i64 k ∧ p = .int .i64 (tA a b k : Nat) ∧ w = wr) (fun i _ _ => (8 - intOf i).toNat)
  case atStart => exact ⟨0, by omega, rfl, rfl, rfl⟩
  case round =>
    obtain ⟨k, hk, rfl, rfl, rfl⟩ := hrel
    by_cases hlt : k < 8
    · have q : (k : Int) < 8 := by omega
      have HP := Lib.hid (tA_lt a b ha k hk)
      have HN : Hid (tA a b (k + 1) = tA a b k ^^^ ((b >>> k) % 2) * (a <<< k)) := Lib.hid (s1_def a b k _)
      generalize tA a b k = p at *
      have HS := Lib.hid (shl_le a k 8 ha)
      have HS2 : Hid (2 ^ (8 + k) ≤ 2 ^ 16) := Lib.hid (Nat.pow_le_pow_right (by decide) (by omega))
      have HB : Hid (b >>> k < 256) := Lib.hid (Nat.lt_of_le_of_lt (by rw [Nat.shiftRight_eq_div_pow]; exact Nat.div_le_self _ _) hb)
      have e1 : bits .and .i64 ((b : Int) / 2 ^ k) 1 = ((b >>> k % 2 : Nat) : Int) := by
        rw [int_shr, ← land_one]
        exact i64_and_nat _ 1 (by have := HB.out; omega) (by decide)
      have e2 : IntKind.i64.wrap ((a : Int) * 2 ^ k) = ((a <<< k : Nat) : Int) := int_shl a k (by
        have := HS.out; have := HS2.out; rw [Nat.shiftLeft_eq] at *; omega)
      have e3 : bits .xor .i64 (p : Int) ((a <<< k : Nat) : Int) = ((p ^^^ a <<< k : Nat) : Int) := i64_xor_nat _ _ (by have := HP.out; omega) (by have := HS.out; have := HS2.out; omega)
      rcases Nat.mod_two_eq_zero_or_one (b >>> k) with e | e
      · rw [e] at e1 HN
        have HN := HN.out
        rw [Nat.zero_mul, Nat.xor_zero] at HN
        have HN := Lib.hid HN
        clear e2 e3 e
        go_wp2_with fail
        go_roundw
        case rel => exact ⟨k + 1, by omega, by go_num, by rw [HN.out], by trivial⟩
        case measure => simp [intOf]; omega
      · rw [e] at e1 HN
        have HN := HN.out
        rw [Nat.one_mul] at HN
        have HN := Lib.hid HN
        clear e
        generalize a <<< k = s at *
        generalize p ^^^ s = x at *
        go_wp2_with fail
        go_roundw
        case rel => exact ⟨k + 1, by omega, by go_num, by rw [HN.out], by trivial⟩
        case measure => simp [intOf]; omega
    · obtain rfl : k = 8 := by omega
      have HP := Lib.hid (tA_lt a b ha 8 (Nat.le_refl _))
      have HT : Hid (tm a b = tB (tA a b 8) 7) := Lib.hid rfl
      generalize tA a b 8 = P at *
      go_wp2_with fail
      go_loopw [7, 5] (fun i p wr => ∃ n : Nat, 7 ≤ n ∧ n ≤ 14 ∧ i = .int .i64 n ∧ p = .int .i64 (tB P (14 - n) : Nat) ∧ w = wr) (fun i _ _ => (intOf i).toNat)
      case atStart => exact ⟨14, by omega, by omega, rfl, rfl, rfl⟩
      case round =>
        obtain ⟨n, hn7, hn, rfl, rfl, rfl⟩ := hrel
        by_cases hlt : 8 ≤ n
        · have q : 8 ≤ (n : Int) := by omega
          have HQ := Lib.hid (tB_lt P HP.out (14 - n) (by omega))
          have HN : Hid (tB P (14 - (n - 1)) = tB P (14 - n) ^^^ ((tB P (14 - n) >>> n) % 2) * (0x11B <<< (n - 8))) := Lib.hid (by
            rw [show 14 - (n - 1) = (14 - n) + 1 by omega, tB, s2_def, show 14 - (14 - n) = n by omega, show 6 - (14 - n) = n - 8 by omega]; rfl)
          generalize tB P (14 - n) = p at *
          have HS : Hid (0x11B <<< (n - 8) < 2 ^ (9 + (n - 8))) := Lib.hid (shl_le 0x11B (n - 8) 9 (by decide))
          have HS2 : Hid (2 ^ (9 + (n - 8)) ≤ 2 ^ 16) := Lib.hid (Nat.pow_le_pow_right (by decide) (by omega))
          have HB : Hid (p >>> n < 2 ^ 16) := Lib.hid (Nat.lt_of_le_of_lt (by rw [Nat.shiftRight_eq_div_pow]; exact Nat.div_le_self _ _) HQ.out)
          have e1 : bits .and .i64 ((p : Int) / 2 ^ n) 1 = ((p >>> n % 2 : Nat) : Int) := by
            rw [int_shr, ← land_one]
            exact i64_and_nat _ 1 (by have := HB.out; omega) (by decide)
          have t8 : ((n : Int) - 8).toNat = n - 8 := by omega
          have w8 : IntKind.i64.wrap ((n : Int) - 8) = (n : Int) - 8 := IntWalk.i64_in _ (by omega)
          have g8 : 0 ≤ (n : Int) - 8 := by omega
          have w1 : IntKind.i64.wrap ((n : Int) - 1) = (n : Int) - 1 := IntWalk.i64_in _ (by omega)
          have e2 : IntKind.i64.wrap (283 * 2 ^ (n - 8)) = ((0x11B <<< (n - 8) : Nat) : Int) := int_shl 283 (n - 8) (by
            have := HS.out; have := HS2.out; rw [Nat.shiftLeft_eq] at *; omega)
          have e3 : bits .xor .i64 (p : Int) ((0x11B <<< (n - 8) : Nat) : Int) = ((p ^^^ 0x11B <<< (n - 8) : Nat) : Int) := i64_xor_nat _ _ (by have := HQ.out; omega) (by have := HS.out; have := HS2.out; omega)
          rcases Nat.mod_two_eq_zero_or_one (p >>> n) with e | e
          · rw [e] at e1 HN
            have HN := HN.out
            rw [Nat.zero_mul, Nat.xor_zero] at HN
            have HN := Lib.hid HN
            clear e2 e3 e
            go_wp2_with fail
            go_roundw
            case rel => exact ⟨n - 1, by omega, by omega, by go_num; try omega, by rw [HN.out], by trivial⟩
            case measure => simp [intOf]; omega
          · rw [e] at e1 HN
            have HN := HN.out
            rw [Nat.one_mul] at HN
            have HN := Lib.hid HN
            clear e
            generalize 0x11B <<< (n - 8) = s at *
            generalize p ^^^ s = x at *
            go_wp2_with fail
            go_roundw
            case rel => exact ⟨n - 1, by omega, by omega, by go_num; try omega, by rw [HN.out], by trivial⟩
            case measure => simp [intOf]; omega
        · obtain rfl : n = 7 := by omega
          have HT := HT.out
          rw [show 14 - 7 = 7 from rfl]
          generalize tB P 7 = r at *
          go_wp2_with fail
          go_ret
          exact ⟨by rw [HT]; rfl, rfl⟩
end Go.Proofs.YtfhlcondnaahiaaDoor.Ci
end
section
/- hypogeumref02.box: the table, by trying. -/
namespace Go.Proofs.YtfhlcondnaahiaaDoor.Ci
open Go.RowKit Sha Aes

def cellsI (f : Nat → Nat) (n : Nat) : List Value := (List.range n).map fun j => .int .i64 ((f j : Nat) : Int)
theorem cellsI_length (f : Nat → Nat) (n : Nat) : (cellsI f n).length = n := by simp [cellsI]
theorem cellsI_get (f : Nat → Nat) (n k : Nat) (h : k < n) : (cellsI f n)[k]? = some (.int .i64 ((f k : Nat) : Int)) := by simp [cellsI, h]
theorem cellsI_set (f : Nat → Nat) (n k : Nat) (h : k < n) (x : Nat) : (cellsI f n).set k (.int .i64 (x : Int)) = cellsI (fun j => if j = k then x else f j) n := by
  unfold cellsI
  rw [range_set _ _ _ h]
  apply List.map_congr_left
  intro j _
  by_cases e : j = k <;> simp [e]
theorem cellsI_congr (f g : Nat → Nat) (n : Nat) (h : ∀ j, j < n → f j = g j) : cellsI f n = cellsI g n := by
  unfold cellsI
  apply List.map_congr_left
  intro j hj
  rw [h j (List.mem_range.1 hj)]
theorem mkBox (w : World) : (Instr.makeSlice 145 (.int .i64 256) (.int .i64 256)).run Tryd.prog w = .ok (.slice (some ⟨w.heap.size, 0, none⟩) 256 256) (w.alloc (.cells (cellsI (fun _ => 0) 256).toArray 3 (0, 0))) := by kernel_rfl
def boxF (x : Nat) : Nat → Nat := fun j => if j < x then (sbox.getD j 0).toNat else 0
theorem boxF_next (x : Nat) (hx : x < 256) : (cellsI (boxF x) 256).set x (.int .i64 (((sbox.getD x 0).toNat : Nat) : Int)) = cellsI (boxF (x + 1)) 256 := by
  rw [cellsI_set _ _ _ hx]
  apply cellsI_congr
  intro j hj
  unfold boxF
  by_cases e : j = x
  · subst e; simp
  · by_cases h : j < x
    · simp [e, h, show j < x + 1 by omega]
    · simp [e, h, show ¬ j < x + 1 by omega]
theorem shr_lt (v n m : Nat) (h : v < 2 ^ m) : v >>> n < 2 ^ m := Nat.lt_of_le_of_lt (by rw [Nat.shiftRight_eq_div_pow]; exact Nat.div_le_self _ _) h
theorem bx_lt (v : Nat) : ∀ k, bx v k < 2 ^ k
  | 0 => by show 0 < 1; decide
  | k + 1 => by
    have := bx_lt v k
    rw [bx, Nat.shiftLeft_eq, Nat.pow_succ]
    rcases Nat.mod_two_eq_zero_or_one (bit v k) with e | e <;> rw [e] <;> omega
theorem inv_lt (x : Nat) (hx : x < 256) : inv x < 256 := by
  by_cases h : 0 < x
  · exact (inv_facts x hx h).2.2.2
  · obtain rfl : x = 0 := by omega
    decide

set_option maxRecDepth 100000 in
set_option maxHeartbeats 4000000 in
theorem box_any (w : World) : Calls Tryd.prog 91 #[] w fun e w' => e = .returned (.slice (some ⟨w.heap.size, 0, none⟩) 256 256) ∧ blockIs w' w.heap.size (cellsI (boxF 256) 256) 3 ∧ Below w.heap.size w w' := by
  have hmk := mkBox
  have G0 := Lib.hid (blockIs.new w (cellsI (fun _ => 0) 256) 3)
  have A0 := Lib.hid (alloc_below w (.cells (cellsI (fun _ => 0) 256).toArray 3 (0, 0)))
  go_enter Tryd.func91, Tryd.ntmps91
  go_wp2_with fail
  generalize w.alloc (.cells (cellsI (fun _ => 0) 256).toArray 3 (0, 0)) = w1 at *
  clear hmk
  have E0 : cellsI (fun _ => 0) 256 = cellsI (boxF 0) 256 := cellsI_congr _ _ _ fun j _ => by simp [boxF]
  rw [E0] at G0
  clear E0
  go_loopw [2] (fun i wr => ∃ x : Nat, x ≤ 256 ∧ i = .int .i64 x ∧ blockIs wr w.heap.size (cellsI (boxF x) 256) 3 ∧ Below w.heap.size w wr) (fun i _ => (256 - intOf i).toNat)
  case atStart => exact ⟨0, by omega, rfl, G0.out, A0.out⟩
  case round =>
    obtain ⟨x, hx, rfl, h1, h2⟩ := hrel
    have H1 := Lib.hid h1
    have H2 := Lib.hid h2
    clear h1 h2
    by_cases hlt : x < 256
    · have q : (x : Int) < 256 := by omega
      have FX := Lib.hid (inv_facts x hlt)
      go_upto_block 2 with fail
      go_cut [3] (fun v wx => v = .int .i64 (inv x : Nat) ∧ wr = wx)
      case first =>
        go_wp2_with fail
        go_loopw [4, 3] (fun y v wx => ∃ k : Nat, 1 ≤ k ∧ k ≤ 256 ∧ y = .int .i64 k ∧ v = .int .i64 0 ∧ (0 < x → k ≤ inv x) ∧ wr = wx) (fun y _ _ => (256 - intOf y).toNat)
        case atStart => exact ⟨1, by omega, by omega, rfl, rfl, fun h => (FX.out h).2.2.1, rfl⟩
        case round =>
          obtain ⟨k, hk1, hk, rfl, rfl, hle, rfl⟩ := hrel
          by_cases h0 : 0 < x
          · have hle := hle h0
            have := (FX.out h0).2.2.2
            have q0 : 0 < (x : Int) := by omega
            have q1 : (k : Int) < 256 := by omega
            have TM := Lib.hid (times_any x k wr hlt (by omega))
            by_cases he : k = inv x
            · have e1 : tm x k = 1 := by rw [he]; exact (FX.out h0).2.1
              rw [e1] at TM
              have HE := Lib.hid he
              clear e1 he
              go_wp2_with fail
              with_reducible refine TM.out.mono ?_
              rintro e w1 ⟨rfl, rfl⟩
              go_wp2_with fail
              go_meet
              case rel => exact ⟨by rw [HE.out], rfl⟩
            · have e1 : tm x k ≠ 1 := (FX.out h0).1 k (by omega)
              generalize tm x k = t at *
              have e2 : ((t : Int) == 1) = false := by simp; omega
              go_wp2_with fail
              with_reducible refine TM.out.mono ?_
              rintro e w1 ⟨rfl, rfl⟩
              go_wp2_with fail
              go_roundw
              case rel => exact ⟨k + 1, by omega, by omega, by go_num, rfl, fun _ => by omega, by trivial⟩
              case measure => simp [intOf]; omega
          · have hz := Lib.hid (show inv x = 0 by rw [show x = 0 by omega]; rfl)
            have q0 : ¬ 0 < (x : Int) := by omega
            by_cases hk2 : k < 256
            · have q1 : (k : Int) < 256 := by omega
              go_wp2_with fail
              go_meet
              case rel => exact ⟨by rw [hz.out]; rfl, rfl⟩
            · have q1 : ¬ (k : Int) < 256 := by omega
              go_wp2_with fail
              go_meet
              case rel => exact ⟨by rw [hz.out]; rfl, rfl⟩
      case rest =>
      obtain ⟨rfl, rfl⟩ := hcut
      have HV := Lib.hid (inv_lt x hlt)
      have HB : Hid (bx (inv x) 8 = (sbox.getD x 0).toNat) := Lib.hid (bx_box x hlt)
      generalize inv x = v at *
      clear FX
      go_wp2_with fail
      go_loopw [6, 5] (fun i s wr => ∃ k : Nat, k ≤ 8 ∧ i = .int .i64 k ∧ s = .int .i64 (bx v k : Nat) ∧ blockIs wr w.heap.size (cellsI (boxF x) 256) 3 ∧ Below w.heap.size w wr) (fun i _ _ => (8 - intOf i).toNat)
      case atStart => exact ⟨0, by omega, rfl, rfl, H1.out, H2.out⟩
      case round =>
        obtain ⟨k, hk, rfl, rfl, h1, h2⟩ := hrel
        have H1 := Lib.hid h1
        have H2 := Lib.hid h2
        clear h1 h2
        by_cases hlt8 : k < 8
        · have q8 : (k : Int) < 8 := by omega
          have hv := HV.out
          have s0 := shr_lt v k 8 hv
          have s4 := shr_lt v ((k + 4) % 8) 8 hv
          have s5 := shr_lt v ((k + 5) % 8) 8 hv
          have s6 := shr_lt v ((k + 6) % 8) 8 hv
          have s7 := shr_lt v ((k + 7) % 8) 8 hv
          have s9 := shr_lt 0x63 k 8 (by decide)
          have HN : Hid (bx v (k + 1) = bx v k + (bit v k % 2) <<< k) := Lib.hid rfl
          have HBT : Hid (bit v k = (((((v >>> k) ^^^ (v >>> ((k + 4) % 8))) ^^^ (v >>> ((k + 5) % 8))) ^^^ (v >>> ((k + 6) % 8))) ^^^ (v >>> ((k + 7) % 8))) ^^^ (0x63 >>> k)) := Lib.hid rfl
          have HL := Lib.hid (bx_lt v k)
          have HP : Hid (2 ^ k ≤ 2 ^ 7) := Lib.hid (Nat.pow_le_pow_right (by decide) (by omega))
          have x1 := Nat.xor_lt_two_pow s0 s4
          have x2 := Nat.xor_lt_two_pow x1 s5
          have x3 := Nat.xor_lt_two_pow x2 s6
          have x4 := Nat.xor_lt_two_pow x3 s7
          have x5 := Nat.xor_lt_two_pow x4 s9
          have d0 := int_shr v k
          have d4 := int_shr v ((k + 4) % 8)
          have d5 := int_shr v ((k + 5) % 8)
          have d6 := int_shr v ((k + 6) % 8)
          have d7 := int_shr v ((k + 7) % 8)
          have d9 : (99 : Int) / (2 : Int) ^ k = ((99 >>> k : Nat) : Int) := int_shr 99 k
          generalize bx v k = bk at *
          generalize bit v k = bt at *
          generalize v >>> k = y0 at *
          generalize v >>> ((k + 4) % 8) = y4 at *
          generalize v >>> ((k + 5) % 8) = y5 at *
          generalize v >>> ((k + 6) % 8) = y6 at *
          generalize v >>> ((k + 7) % 8) = y7 at *
          generalize 99 >>> k = y9 at *
          have g1 := i64_xor_nat y0 y4 (by omega) (by omega)
          have g2 := i64_xor_nat (y0 ^^^ y4) y5 (by omega) (by omega)
          have g3 := i64_xor_nat (y0 ^^^ y4 ^^^ y5) y6 (by omega) (by omega)
          have g4 := i64_xor_nat (y0 ^^^ y4 ^^^ y5 ^^^ y6) y7 (by omega) (by omega)
          have g5 := i64_xor_nat (y0 ^^^ y4 ^^^ y5 ^^^ y6 ^^^ y7) y9 (by omega) (by omega)
          generalize y0 ^^^ y4 = z1 at *
          generalize z1 ^^^ y5 = z2 at *
          generalize z2 ^^^ y6 = z3 at *
          generalize z3 ^^^ y7 = z4 at *
          generalize z4 ^^^ y9 = z5 at *
          obtain rfl : bt = z5 := HBT.out
          clear HBT s0 s4 s5 s6 s7 s9 x1 x2 x3 x4 x5 hv
          have m4 : ((k : Int) + 4) % 8 = (((k + 4) % 8 : Nat) : Int) := by omega
          have m5 : ((k : Int) + 5) % 8 = (((k + 5) % 8 : Nat) : Int) := by omega
          have m6 : ((k : Int) + 6) % 8 = (((k + 6) % 8 : Nat) : Int) := by omega
          have m7 : ((k : Int) + 7) % 8 = (((k + 7) % 8 : Nat) : Int) := by omega
          generalize (k + 4) % 8 = k4 at *
          generalize (k + 5) % 8 = k5 at *
          generalize (k + 6) % 8 = k6 at *
          generalize (k + 7) % 8 = k7 at *
          have w4 : IntKind.i64.wrap ((k : Int) + 4) = (k : Int) + 4 := IntWalk.i64_in _ (by omega)
          have w5 : IntKind.i64.wrap ((k : Int) + 5) = (k : Int) + 5 := IntWalk.i64_in _ (by omega)
          have w6 : IntKind.i64.wrap ((k : Int) + 6) = (k : Int) + 6 := IntWalk.i64_in _ (by omega)
          have w7 : IntKind.i64.wrap ((k : Int) + 7) = (k : Int) + 7 := IntWalk.i64_in _ (by omega)
          have p4 : 0 ≤ (k : Int) + 4 := by omega
          have p5 : 0 ≤ (k : Int) + 5 := by omega
          have p6 : 0 ≤ (k : Int) + 6 := by omega
          have p7 : 0 ≤ (k : Int) + 7 := by omega
          obtain ⟨t, ht⟩ : ∃ t, t = bt % 2 := ⟨_, rfl⟩
          have b2 : (bt : Int) % 2 = (t : Int) := by omega
          have t2 : t < 2 := by omega
          rw [← ht] at HN
          clear ht
          have HT2 : t <<< k < 2 ^ (1 + k) := shl_le t k 1 t2
          have HP2 : 2 ^ (1 + k) ≤ 2 ^ 8 := Nat.pow_le_pow_right (by decide) (by omega)
          have c1 : IntKind.i64.wrap ((t : Int) * 2 ^ k) = ((t <<< k : Nat) : Int) := int_shl t k (by rw [Nat.shiftLeft_eq] at HT2; omega)
          have hL := HL.out
          have hP := HP.out
          have hT : t <<< k < 256 := Nat.lt_of_lt_of_le HT2 HP2
          have hK : bk < 128 := Nat.lt_of_lt_of_le hL hP
          clear hL hP HL HP HT2 HP2 t2
          generalize t <<< k = tk at *
          have c2 : IntKind.i64.wrap ((bk : Int) + ((tk : Nat) : Int)) = ((bk + tk : Nat) : Int) := by
            clear c1
            rw [IntWalk.i64_in _ (by omega)]; rfl
          generalize bk + tk = nb at *
          go_wp2_with fail
          go_quiet (fail)
          go_wp2_with fail
          go_roundw
          case rel => exact ⟨k + 1, by omega, by go_num, by rw [HN.out], H1.out, below_drewN H2.out _⟩
          case measure => simp [intOf]; omega
        · obtain rfl : k = 8 := by omega
          have HB' := HB.out
          generalize bx v 8 = b8 at *
          have HB2 := Lib.hid HB'
          clear HB' HB
          have p0 : 0 ≤ (x : Int) := by omega
          have c4 : wr.frozen? ⟨w.heap.size, x, none⟩ = false := H1.out.free x
          obtain ⟨z, c5⟩ : ∃ z, wr.cell? ⟨w.heap.size, x, none⟩ = some z := ⟨_, H1.out.at x (by rw [cellsI_length]; omega)⟩
          go_wp2_with fail
          go_roundw
          case rel =>
            refine ⟨x + 1, by omega, by go_num, ?_, H2.out.setCell (Nat.le_refl _) _⟩
            have := H1.out.set x (.int .i64 (((sbox.getD x 0).toNat : Nat) : Int))
            rw [boxF_next x hlt] at this
            rw [HB2.out]
            exact this
          case measure => simp [intOf]; omega
    · obtain rfl : x = 256 := by omega
      go_wp2_with fail
      go_ret
      exact ⟨rfl, H1.out, H2.out⟩
end Go.Proofs.YtfhlcondnaahiaaDoor.Ci
end
section
/- hypogeumref02.Make: the document's round keys. -/
namespace Go.Proofs.YtfhlcondnaahiaaDoor.Ci
open Go.RowKit Sha Aes

theorem index_str (l : List UInt8) (i : Nat) (h : i < l.length) (w : World) : (Instr.index 9 (.string (str l)) (.int .i64 (i : Int))).run Tryd.prog w = .ok (.int .u8 (V (l.getD i 0))) w := by
  have hs := str_size l
  rw [run_index_string w 9 (str l) .i64 (i : Int) Tryd.underlying9]
  have hb : ∀ (j : Nat) (hj : j < (str l).size), j = i → ((str l)[j]'hj) = l.getD i 0 := by
    rintro j hj rfl
    show (str l).data[j]'_ = _
    simp [str, h]
  rw [dif_pos ⟨by omega, by omega⟩, hb _ _ (Int.toNat_natCast i)]
  rfl
def wd (K : List UInt8) (i : Nat) : W := (Aes.words K 60).getD i 0
theorem words_pre (K : List UInt8) (n : Nat) : ∀ m, n ≤ m → ∀ j, j < n → (Aes.words K m).getD j 0 = (Aes.words K n).getD j 0 := by
  intro m hm
  induction m with
  | zero => intro j hj; omega
  | succ m ih =>
    intro j hj
    by_cases e : n = m + 1
    · rw [e]
    · rw [← ih (by omega) j hj]
      have hl := Aes.words_length K m
      by_cases h8 : m < 8
      · rw [words_lo8 K m h8, List.getD_eq_getElem?_getD, List.getElem?_append_left (by omega), ← List.getD_eq_getElem?_getD]
      · rw [words_hi8 K m h8, List.getD_eq_getElem?_getD, List.getElem?_append_left (by omega), ← List.getD_eq_getElem?_getD]
theorem wd_lo (K : List UInt8) (i : Nat) (h : i < 8) : wd K i = wordAt K i := by
  unfold wd
  rw [words_pre K (i + 1) 60 (by omega) i (by omega), words_lo8 K i h, List.getD_eq_getElem?_getD, List.getElem?_append_right (by rw [Aes.words_length]; omega), Aes.words_length, Nat.sub_self]
  rfl
theorem wd_hi (K : List UInt8) (i j : Nat) (h8 : 8 ≤ i) (h : i < 60) (hj : j < 4) : lane (wd K i) j = lane (wd K (i - 8)) j ^^^ nextLane (Aes.words K 60) i j := by
  have e1 : wd K i = (Aes.words K i).getD (i - 8) 0 ^^^ nextWord (Aes.words K i) i := by
    unfold wd
    rw [words_pre K (i + 1) 60 (by omega) i (by omega), words_hi8 K i (by omega), List.getD_eq_getElem?_getD, List.getElem?_append_right (by rw [Aes.words_length]; omega), Aes.words_length, Nat.sub_self]
    rfl
  have e2 : (Aes.words K i).getD (i - 8) 0 = wd K (i - 8) := (words_pre K i 60 (by omega) (i - 8) (by omega)).symm
  have e3 : nextLane (Aes.words K i) i j = nextLane (Aes.words K 60) i j := by
    unfold nextLane
    rw [words_pre K i 60 (by omega) (i - 1) (by omega)]
  rw [e1, lane_xor, lane_next _ i j h8 h hj, e2, e3]
def keyF (K : List UInt8) (p : Nat) : Nat → Nat := fun q => if q < p then (lane (wd K (q / 4)) (q % 4)).toNat else 0
def docKey (g : Nat) (f : Nat → Nat) : List Value := .slice (some ⟨g, 0, none⟩) 256 256 :: cellsI f 240
theorem docKey_len (g : Nat) (f : Nat → Nat) : (docKey g f).length = 241 := by simp [docKey, cellsI_length]
theorem docKey_get (g : Nat) (f : Nat → Nat) (q : Nat) (h : q < 240) : (docKey g f)[q + 1]? = some (.int .i64 ((f q : Nat) : Int)) := by
  unfold docKey
  rw [List.getElem?_cons_succ, cellsI_get _ _ _ h]
theorem docKey_next (g : Nat) (K : List UInt8) (p : Nat) (h : p < 240) : (docKey g (keyF K p)).set (p + 1) (.int .i64 (((lane (wd K (p / 4)) (p % 4)).toNat : Nat) : Int)) = docKey g (keyF K (p + 1)) := by
  unfold docKey
  rw [List.set_cons_succ, cellsI_set _ _ _ h]
  congr 1
  apply cellsI_congr
  intro j hj
  unfold keyF
  by_cases e : j = p
  · subst e; simp
  · by_cases h : j < p
    · simp [e, h, show j < p + 1 by omega]
    · simp [e, h, show ¬ j < p + 1 by omega]
theorem keyF_at (K : List UInt8) (p i j : Nat) (h : 4 * i + j < p) (hj : j < 4) : keyF K p (4 * i + j) = (lane (wd K i) j).toNat := by
  unfold keyF
  rw [if_pos h, show (4 * i + j) / 4 = i by omega, show (4 * i + j) % 4 = j by omega]
theorem build73 (g : Nat) (w : World) : (Instr.build 173 #[(0, .slice (some ⟨g, 0, none⟩) 256 256)]).run Tryd.prog w = .ok (.agg (docKey g (fun _ => 0)).toArray) w := by kernel_rfl

theorem V_xor64 (x y : UInt8) : bits .xor .i64 (V x) (V y) = V (x ^^^ y) := by
  have h1 := x.toNat_lt
  have h2 := y.toNat_lt
  unfold V; rw [i64_xor_nat _ _ (by omega) (by omega), UInt8.toNat_xor]
theorem V_con (c : Nat) (h : c < 256) : (c : Int) = V (UInt8.ofNat c) := by rw [V_ofNat, Nat.mod_eq_of_lt h]
theorem box_at {w : World} {g : Nat} (h : blockIs w g (cellsI (boxF 256) 256) 3) (y : UInt8) : w.cell? ⟨g, y.toNat, none⟩ = some (.int .i64 (V (sub y))) := by
  have := y.toNat_lt
  rw [h.cell, cellsI_get _ _ _ this]
  unfold boxF
  rw [if_pos this]
  rfl
theorem key_at {w : World} {kb g : Nat} {K : List UInt8} {p : Nat} {t : TypeId} (h : blockIs w kb (docKey g (keyF K p)) t) (i j : Nat) (hj : j < 4) (hp : 4 * i + j < p) (h2 : 4 * i + j < 240) : w.cell? ⟨kb, 1 + i * 4 + j, none⟩ = some (.int .i64 (V (lane (wd K i) j))) := by
  rw [h.cell, show 1 + i * 4 + j = (4 * i + j) + 1 by omega, docKey_get _ _ _ h2, keyF_at K p i j hp hj]
  rfl
theorem key_box {w : World} {kb g : Nat} {f : Nat → Nat} {t : TypeId} (h : blockIs w kb (docKey g f) t) : w.cell? ⟨kb, 0, none⟩ = some (.slice (some ⟨g, 0, none⟩) 256 256) := by
  rw [h.cell]; rfl

set_option maxRecDepth 100000 in
set_option maxHeartbeats 4000000 in
theorem docMake_any (K : List UInt8) (w : World) (hK : K.length = 32) : Calls Tryd.prog 77 #[.string (str K)] w fun e w' => ∃ kb g, e = .returned (.pointer (some ⟨kb, 0, none⟩)) ∧ w.heap.size ≤ kb ∧ w.heap.size ≤ g ∧ kb ≠ g ∧ blockIs w' kb (docKey g (keyF K 240)) 173 ∧ blockIs w' g (cellsI (boxF 256) 256) 3 ∧ Below w.heap.size w w' := by
  have HKL := Lib.hid hK
  clear hK
  go_enter Tryd.func77, Tryd.ntmps77
  go_wp2_with fail
  refine (box_any w).mono ?_
  rintro e w1 ⟨rfl, k1, k2⟩
  have hb := build73 w.heap.size w1
  have G1 : Hid (blockIs (w1.alloc (.cells (docKey w.heap.size (fun _ => 0)).toArray 173 (0, 0))) w1.heap.size (docKey w.heap.size (fun _ => 0)) 173) := Lib.hid (blockIs.new w1 _ _)
  have G2 : Hid (blockIs (w1.alloc (.cells (docKey w.heap.size (fun _ => 0)).toArray 173 (0, 0))) w.heap.size (cellsI (boxF 256) 256) 3) := Lib.hid (k1.alloc _)
  have G3 : Hid (Below w.heap.size w (w1.alloc (.cells (docKey w.heap.size (fun _ => 0)).toArray 173 (0, 0)))) := Lib.hid (k2.alloc k2.size _)
  have G4 : Hid (w.heap.size < w1.heap.size) := Lib.hid k1.lt
  clear k1 k2
  go_wp2_with (first | (refine wpList_build rfl 173 _ rfl _ _ hb rfl ?_))
  generalize w1.alloc (.cells (docKey w.heap.size (fun _ => 0)).toArray 173 (0, 0)) = w2 at *
  have HKB : Hid (w.heap.size ≤ w1.heap.size) := Lib.hid (Nat.le_of_lt G4.out)
  generalize w1.heap.size = kb at *
  have GE : docKey w.heap.size (fun _ => 0) = docKey w.heap.size (keyF K (4 * 0)) := by
    unfold docKey
    congr 1
  rw [GE] at G1
  clear GE hb
  go_loopw [5, 4] (fun i c wr => ∃ i' : Nat, i' ≤ 60 ∧ i = .int .i64 i' ∧ c = .int .i64 ((2 ^ ((i' - 1) / 8) : Nat) : Int) ∧ blockIs wr kb (docKey w.heap.size (keyF K (4 * i'))) 173 ∧ But kb w2 wr) (fun i _ _ => (60 - intOf i).toNat)
  case atStart => exact ⟨0, by omega, rfl, rfl, G1.out, But.refl _ _⟩
  case round =>
    obtain ⟨i, hi, rfl, rfl, h1, h2⟩ := hrel
    have H1 := Lib.hid h1
    have H2 := Lib.hid h2
    clear h1 h2
    by_cases hlt : i < 60
    · have q60 : (i : Int) < 60 := by omega
      obtain ⟨c, hc⟩ : ∃ c, c = 2 ^ ((i - 1) / 8) := ⟨_, rfl⟩
      rw [← hc]
      have HC := Lib.hid hc
      clear hc
      by_cases h8 : i < 8
      · have q8 : (i : Int) < 8 := by omega
        have q8' : ¬ 8 ≤ (i : Int) := by omega
        go_wp2_with fail
        go_loopw [6] (fun j wr => ∃ j' : Nat, j' ≤ 4 ∧ j = .int .i64 j' ∧ blockIs wr kb (docKey w.heap.size (keyF K (4 * i + j'))) 173 ∧ But kb w2 wr) (fun j _ => (4 - intOf j).toNat)
        case atStart => exact ⟨0, by omega, rfl, H1.out, H2.out⟩
        case round =>
          obtain ⟨j, hj, rfl, h1, h2⟩ := hrel
          have H1 := Lib.hid h1
          have H2 := Lib.hid h2
          clear h1 h2
          by_cases hlt4 : j < 4
          · have q4 : (j : Int) < 4 := by omega
            obtain ⟨p, hp⟩ : ∃ p, p = 4 * i + j := ⟨_, rfl⟩
            have m1 : IntKind.i64.wrap (4 * (i : Int)) = 4 * (i : Int) := IntWalk.i64_in _ (by omega)
            have m2 : IntKind.i64.wrap (4 * (i : Int) + (j : Int)) = (p : Int) := by rw [IntWalk.i64_in _ (by omega)]; omega
            have ix := fun X => index_str K p (by rw [HKL.out]; omega) X
            have HX : Hid (lane (wd K (p / 4)) (p % 4) = K.getD p 0) := Lib.hid (by
              rw [wd_lo K (p / 4) (by omega), lane_wordAt _ _ _ (by omega), show 4 * (p / 4) + p % 4 = p by omega])
            have HN := Lib.hid (docKey_next w.heap.size K p (by omega))
            rw [HX.out] at HN
            generalize K.getD p 0 = x at *
            have vw : IntKind.i64.wrap (V x) = V x := IntWalk.i64_in _ (by have := V_nonneg x; have := V_lt x; omega)
            have p0 : 0 ≤ (i : Int) := by omega
            have p1 : 0 ≤ (j : Int) := by omega
            rw [← hp] at H1
            have f1 : wr.frozen? ⟨kb, 1 + i * 4 + j, none⟩ = false := H1.out.free _
            obtain ⟨z, f2⟩ : ∃ z, wr.cell? ⟨kb, 1 + i * 4 + j, none⟩ = some z := ⟨_, H1.out.at (1 + i * 4 + j) (by rw [docKey_len]; omega)⟩
            have HP := Lib.hid hp
            clear hp HX
            go_wp2_with fail
            go_still_tail 14, (by kernel_rfl)
            change wpList _ _ _ _ _ wr.drew
            go_wp2_with fail
            go_roundw
            case rel =>
              refine ⟨j + 1, by omega, by go_num, ?_, (H2.out.drewN _).setCell _ _ (Or.inl rfl)⟩
              have hs := blockIs.set (w := (wr.drewN 1)) H1.out (p + 1) (.int .i64 (V x))
              rw [show docKey w.heap.size (keyF K p) = _ from rfl] at hs
              rw [show (docKey w.heap.size (keyF K p)).set (p + 1) (.int .i64 (V x)) = _ from HN.out] at hs
              have e := HP.out
              rw [show 1 + i * 4 + j = p + 1 by omega, show 4 * i + (j + 1) = p + 1 by omega]
              exact hs
            case measure => simp [intOf]; omega
          · obtain rfl : j = 4 := by omega
            go_wp2_with fail
            go_roundw
            case rel =>
              have hc := HC.out
              refine ⟨i + 1, by omega, by go_num, ?_, ?_, H2.out⟩
              · rw [hc, show (i - 1) / 8 = 0 by omega, show (i + 1 - 1) / 8 = 0 by omega]
              · rw [show 4 * (i + 1) = 4 * i + 4 by omega]; exact H1.out
            case measure => simp [intOf]; omega
      · have q8 : ¬ (i : Int) < 8 := by omega
        have q8' : 8 ≤ (i : Int) := by omega
        obtain ⟨a, ha⟩ : ∃ a, i = a + 1 := ⟨i - 1, by omega⟩
        obtain ⟨b, hb⟩ : ∃ b, i = b + 8 := ⟨i - 8, by omega⟩
        have wa : IntKind.i64.wrap ((i : Int) - 1) = (a : Int) := by rw [IntWalk.i64_in _ (by omega)]; omega
        have wb : IntKind.i64.wrap ((i : Int) - 8) = (b : Int) := by rw [IntWalk.i64_in _ (by omega)]; omega
        have a60 : (a : Int) < 60 := by omega
        have b60 : (b : Int) < 60 := by omega
        have HA := Lib.hid ha
        have HB := Lib.hid hb
        clear ha hb
        have hcl : c < 256 := by
          have := HC.out
          have h2 : 2 ^ ((i - 1) / 8) ≤ 2 ^ 7 := Nat.pow_le_pow_right (by decide) (by omega)
          omega
        go_wp2_with fail
        go_loopw [6] (fun j wr => ∃ j' : Nat, j' ≤ 4 ∧ j = .int .i64 j' ∧ blockIs wr kb (docKey w.heap.size (keyF K (4 * i + j'))) 173 ∧ But kb w2 wr) (fun j _ => (4 - intOf j).toNat)
        case atStart => exact ⟨0, by omega, rfl, H1.out, H2.out⟩
        case round =>
          obtain ⟨j, hj, rfl, h1, h2⟩ := hrel
          have H1 := Lib.hid h1
          have H2 := Lib.hid h2
          clear h1 h2
          by_cases hlt4 : j < 4
          · have q4 : (j : Int) < 4 := by omega
            obtain ⟨p, hp⟩ : ∃ p, p = 4 * i + j := ⟨_, rfl⟩
            obtain ⟨d, hd⟩ : ∃ d, d = (j + 1) % 4 := ⟨_, rfl⟩
            have d4 : (d : Int) < 4 := by omega
            have wd1 : ((j : Int) + 1) % 4 = (d : Int) := by omega
            have wj1 : IntKind.i64.wrap ((j : Int) + 1) = (j : Int) + 1 := IntWalk.i64_in _ (by omega)
            have pj1 : 0 ≤ (j : Int) + 1 := by omega
            have hA := HA.out
            have hB := HB.out
            rw [← hp] at H1
            have G2r : Hid (blockIs wr w.heap.size (cellsI (boxF 256) 256) 3) := Lib.hid (H2.out.is G2.out (Nat.ne_of_lt G4.out))
            have c1 := key_at H1.out a j hlt4 (by omega) (by omega)
            have c2 := key_at H1.out a d (by omega) (by omega) (by omega)
            have c8 := key_at H1.out b j hlt4 (by omega) (by omega)
            have cb := key_box H1.out
            have HW := Lib.hid (wd_hi K i j (by omega) (by omega) hlt4)
            have eb : i - 8 = b := by omega
            have HNL : Hid (nextLane (Aes.words K 60) i j = if i % 8 = 0 then (if j = 0 then sub (lane (wd K a) d) ^^^ UInt8.ofNat (2 ^ (i / 8 - 1)) else sub (lane (wd K a) d)) else if i % 8 = 4 then sub (lane (wd K a) j) else lane (wd K a) j) := Lib.hid (by
              unfold nextLane wd
              rw [show i - 1 = a by omega, hd])
            have HN := Lib.hid (docKey_next w.heap.size K p (by omega))
            rw [show p / 4 = i by omega, show p % 4 = j by omega, HW.out, HNL.out, eb] at HN
            clear HNL HW eb hA hB
            generalize lane (wd K a) j = y1 at *
            generalize lane (wd K a) d = y2 at *
            generalize lane (wd K b) j = y8 at *
            have x1 := box_at G2r.out y1
            have x2 := box_at G2r.out y2
            have n1 : (V y1).toNat = y1.toNat := V_natx y1
            have n2 : (V y2).toNat = y2.toNat := V_natx y2
            have u1 := V_nonneg y1
            have u2 := V_nonneg y2
            have v1 := V_lt y1
            have v2 := V_lt y2
            have p0 : 0 ≤ (i : Int) := by omega
            have p1 : 0 ≤ (j : Int) := by omega
            have f1 : wr.frozen? ⟨kb, 1 + i * 4 + j, none⟩ = false := H1.out.free _
            obtain ⟨z, f2⟩ : ∃ z, wr.cell? ⟨kb, 1 + i * 4 + j, none⟩ = some z := ⟨_, H1.out.at (1 + i * 4 + j) (by rw [docKey_len]; omega)⟩
            have HP := Lib.hid hp
            clear hp hd
            by_cases h0 : i % 8 = 0
            · have b0 : (i : Int) % 8 = 0 := by omega
              by_cases hj0 : j = 0
              · have bj : ((j : Int) == 0) = true := by simp [hj0]
                have HJ := Lib.hid hj0
                have ec : 2 ^ (i / 8 - 1) = c := by rw [HC.out]; congr 1; omega
                rw [if_pos h0, if_pos hj0, ec] at HN
                have vc := V_con c hcl
                have xx := V_xor64 (sub y2) (UInt8.ofNat c)
                rw [← vc] at xx
                clear hj0 ec vc
                generalize hx0 : sub y2 ^^^ UInt8.ofNat c = x0 at *
                have xy := V_xor64 y8 x0
                generalize hx : y8 ^^^ x0 = x at *
                clear hx hx0
                go_wp2_with fail
                go_quiet (fail)
                go_wp2_with fail
                generalize hq : wr.drewN _ = w4 at *
                have c8 : w4.cell? ⟨kb, 1 + b * 4 + j, none⟩ = some (.int .i64 (V y8)) := by rw [← hq]; exact c8
                have f1 : w4.frozen? ⟨kb, 1 + i * 4 + j, none⟩ = false := by rw [← hq]; exact f1
                have f2 : w4.cell? ⟨kb, 1 + i * 4 + j, none⟩ = some z := by rw [← hq]; exact f2
                have H1 : Hid (blockIs w4 kb (docKey w.heap.size (keyF K p)) 173) := Lib.hid (by rw [← hq]; exact H1.out)
                have H2 : Hid (But kb w2 w4) := Lib.hid (by rw [← hq]; exact H2.out.drewN _)
                clear hq
                go_still_tail 18, (by kernel_rfl)
                change wpList _ _ _ _ _ w4.drew
                go_wp2_with fail
                go_roundw
                case rel =>
                  refine ⟨j + 1, by omega, by go_num, ?_, (H2.out.drewN _).setCell _ _ (Or.inl rfl)⟩
                  have hs := blockIs.set (w := (w4.drewN 1)) H1.out (p + 1) (.int .i64 (V x))
                  rw [show docKey w.heap.size (keyF K p) = _ from rfl] at hs
                  rw [show (docKey w.heap.size (keyF K p)).set (p + 1) (.int .i64 (V x)) = _ from HN.out] at hs
                  have e := HP.out
                  rw [show 1 + i * 4 + j = p + 1 by omega, show 4 * i + (j + 1) = p + 1 by omega]
                  exact hs
                case measure => simp [intOf]; omega
              · have bj : ((j : Int) == 0) = false := by simp; omega
                rw [if_pos h0, if_neg hj0] at HN
                generalize sub y2 = x0 at *
                have xy := V_xor64 y8 x0
                generalize hx : y8 ^^^ x0 = x at *
                clear hx
                go_wp2_with fail
                go_quiet (fail)
                go_wp2_with fail
                generalize hq : wr.drewN _ = w4 at *
                have c8 : w4.cell? ⟨kb, 1 + b * 4 + j, none⟩ = some (.int .i64 (V y8)) := by rw [← hq]; exact c8
                have f1 : w4.frozen? ⟨kb, 1 + i * 4 + j, none⟩ = false := by rw [← hq]; exact f1
                have f2 : w4.cell? ⟨kb, 1 + i * 4 + j, none⟩ = some z := by rw [← hq]; exact f2
                have H1 : Hid (blockIs w4 kb (docKey w.heap.size (keyF K p)) 173) := Lib.hid (by rw [← hq]; exact H1.out)
                have H2 : Hid (But kb w2 w4) := Lib.hid (by rw [← hq]; exact H2.out.drewN _)
                clear hq
                go_still_tail 18, (by kernel_rfl)
                change wpList _ _ _ _ _ w4.drew
                go_wp2_with fail
                go_roundw
                case rel =>
                  refine ⟨j + 1, by omega, by go_num, ?_, (H2.out.drewN _).setCell _ _ (Or.inl rfl)⟩
                  have hs := blockIs.set (w := (w4.drewN 1)) H1.out (p + 1) (.int .i64 (V x))
                  rw [show docKey w.heap.size (keyF K p) = _ from rfl] at hs
                  rw [show (docKey w.heap.size (keyF K p)).set (p + 1) (.int .i64 (V x)) = _ from HN.out] at hs
                  have e := HP.out
                  rw [show 1 + i * 4 + j = p + 1 by omega, show 4 * i + (j + 1) = p + 1 by omega]
                  exact hs
                case measure => simp [intOf]; omega
            · have b0 : ((i : Int) % 8 == 0) = false := by simp; omega
              by_cases h4 : i % 8 = 4
              · have b4 : (i : Int) % 8 = 4 := by omega
                rw [if_neg h0, if_pos h4] at HN
                clear h0 h4
                generalize sub y1 = x0 at *
                have xy := V_xor64 y8 x0
                generalize hx : y8 ^^^ x0 = x at *
                clear hx
                go_wp2_with fail
                go_still_tail 18, (by kernel_rfl)
                change wpList _ _ _ _ _ wr.drew
                go_wp2_with fail
                go_roundw
                case rel =>
                  refine ⟨j + 1, by omega, by go_num, ?_, (H2.out.drewN _).setCell _ _ (Or.inl rfl)⟩
                  have hs := blockIs.set (w := (wr.drewN 1)) H1.out (p + 1) (.int .i64 (V x))
                  rw [show docKey w.heap.size (keyF K p) = _ from rfl] at hs
                  rw [show (docKey w.heap.size (keyF K p)).set (p + 1) (.int .i64 (V x)) = _ from HN.out] at hs
                  have e := HP.out
                  rw [show 1 + i * 4 + j = p + 1 by omega, show 4 * i + (j + 1) = p + 1 by omega]
                  exact hs
                case measure => simp [intOf]; omega
              · have b4 : ((i : Int) % 8 == 4) = false := by simp; omega
                rw [if_neg h0, if_neg h4] at HN
                clear h0 h4
                have xy := V_xor64 y8 y1
                generalize hx : y8 ^^^ y1 = x at *
                clear hx
                go_wp2_with fail
                go_still_tail 18, (by kernel_rfl)
                change wpList _ _ _ _ _ wr.drew
                go_wp2_with fail
                go_roundw
                case rel =>
                  refine ⟨j + 1, by omega, by go_num, ?_, (H2.out.drewN _).setCell _ _ (Or.inl rfl)⟩
                  have hs := blockIs.set (w := (wr.drewN 1)) H1.out (p + 1) (.int .i64 (V x))
                  rw [show docKey w.heap.size (keyF K p) = _ from rfl] at hs
                  rw [show (docKey w.heap.size (keyF K p)).set (p + 1) (.int .i64 (V x)) = _ from HN.out] at hs
                  have e := HP.out
                  rw [show 1 + i * 4 + j = p + 1 by omega, show 4 * i + (j + 1) = p + 1 by omega]
                  exact hs
                case measure => simp [intOf]; omega
          · obtain rfl : j = 4 := by omega
            by_cases h0 : i % 8 = 0
            · have b0 : (i : Int) % 8 = 0 := by omega
              obtain ⟨m, hm⟩ : ∃ m, i = 8 * (m + 1) := ⟨i / 8 - 1, by omega⟩
              have hcm : c = 2 ^ m := by rw [HC.out]; congr 1; omega
              have TM2 := times_any c 2 wr hcl (by decide)
              rw [show ((2 : Nat) : Int) = 2 from rfl] at TM2
              have TM := Lib.hid TM2
              clear TM2
              have HT : Hid (tm c 2 = 2 ^ ((i + 1 - 1) / 8)) := Lib.hid (by rw [hcm, tm_con m (by omega)]; congr 1; omega)
              clear hm hcm h0
              go_wp2_with fail
              with_reducible refine TM.out.mono ?_
              rintro e w3 ⟨rfl, rfl⟩
              go_wp2_with fail
              go_roundw
              case rel =>
                refine ⟨i + 1, by omega, by go_num, ?_, ?_, H2.out⟩
                · rw [HT.out]
                · rw [show 4 * (i + 1) = 4 * i + 4 by omega]; exact H1.out
              case measure => simp [intOf]; omega
            · have b0 : ((i : Int) % 8 == 0) = false := by simp; omega
              go_wp2_with fail
              go_roundw
              case rel =>
                have hc := HC.out
                refine ⟨i + 1, by omega, by go_num, ?_, ?_, H2.out⟩
                · rw [hc, show (i - 1) / 8 = (i + 1 - 1) / 8 by omega]
                · rw [show 4 * (i + 1) = 4 * i + 4 by omega]; exact H1.out
              case measure => simp [intOf]; omega
    · obtain rfl : i = 60 := by omega
      go_wp2_with fail
      go_ret
      exact ⟨kb, w.heap.size, rfl, HKB.out, Nat.le_refl _, (Nat.ne_of_lt G4.out).symm, H1.out, H2.out.is G2.out (Nat.ne_of_lt G4.out), G3.out.trans (H2.out.below HKB.out G3.out.size)⟩
end Go.Proofs.YtfhlcondnaahiaaDoor.Ci
end
end
section
/- hypogeumref02.Turn: the document's AES-256. -/
section
namespace Go.Proofs.YtfhlcondnaahiaaDoor.Ci
open Go.RowKit Sha Aes

def cellsV (f : Nat → UInt8) : List Value := (List.range 16).map fun j => .int .i64 (V (f j))
theorem cellsV_length (f : Nat → UInt8) : (cellsV f).length = 16 := by simp [cellsV]
theorem cellsV_get (f : Nat → UInt8) (k : Nat) (h : k < 16) : (cellsV f)[k]? = some (.int .i64 (V (f k))) := by simp [cellsV, h]
def upto (q : Nat) (f g : Nat → UInt8) : Nat → UInt8 := fun j => if j < q then f j else g j
theorem cellsV_next (f g : Nat → UInt8) (q : Nat) (h : q < 16) : (cellsV (upto q f g)).set q (.int .i64 (V (f q))) = cellsV (upto (q + 1) f g) := by
  unfold cellsV
  rw [range_set _ _ _ h]
  apply List.map_congr_left
  intro j _
  unfold upto
  by_cases e : j = q
  · subst e; simp
  · by_cases h : j < q
    · simp [e, h, show j < q + 1 by omega]
    · simp [e, h, show ¬ j < q + 1 by omega]
theorem cellsV_all (f g : Nat → UInt8) : cellsV (upto 16 f g) = cellsV f := by
  unfold cellsV
  apply List.map_congr_left
  intro j hj
  unfold upto
  rw [if_pos (List.mem_range.1 hj)]
theorem upto_zero (f g : Nat → UInt8) : upto 0 f g = g := by funext j; simp [upto]
def fn (l : List UInt8) : Nat → UInt8 := fun j => l.getD j 0
theorem fn_range (F : Nat → UInt8) (q : Nat) (h : q < 16) : fn ((List.range 16).map F) q = F q := by simp [fn, h]
theorem sv_at {w : World} {b : Nat} {f : Nat → UInt8} {t : TypeId} (h : blockIs w b (cellsV f) t) (c r : Nat) (hq : 4 * c + r < 16) : w.cell? ⟨b, c * 4 + r, none⟩ = some (.int .i64 (V (f (4 * c + r)))) := by
  rw [h.cell, show c * 4 + r = 4 * c + r by omega, cellsV_get _ _ hq]
theorem set_keep {w : World} {b t o o' : Nat} {v x : Value} (h : b ≠ t) (hc : w.cell? ⟨b, o, none⟩ = some v) : (w.setCell ⟨t, o', none⟩ x).drew.cell? ⟨b, o, none⟩ = some v := by
  show (w.setCell ⟨t, o', none⟩ x).cell? ⟨b, o, none⟩ = some v
  rw [← hc]
  exact World.cell?_setCell_other (h := by intro e; cases e; exact h rfl) ..
theorem cellsV_one (f : Nat → UInt8) : ∀ v ∈ cellsV f, v.oneCell' = true := by
  intro v hv
  obtain ⟨j, _, rfl⟩ := List.mem_map.1 hv
  rfl
theorem zero75 (w : World) : (zeroValue 190).run Tryd.prog w = .ok (.agg (cellsV (fun _ => 0)).toArray) w := by kernel_rfl
theorem info75 : (Tryd.prog.info? 190).map (·.size) = some 16 := by kernel_rfl
theorem times_two (y : UInt8) (X : World) : Calls Tryd.prog 92 #[.int .i64 (V y), .int .i64 2] X fun e w' => e = .returned (.int .i64 (V (xt y))) ∧ X = w' := by
  have h := times_any y.toNat 2 X y.toNat_lt (by decide)
  rw [tm_two] at h
  exact h
theorem times_three (y : UInt8) (X : World) : Calls Tryd.prog 92 #[.int .i64 (V y), .int .i64 3] X fun e w' => e = .returned (.int .i64 (V (xt y ^^^ y))) ∧ X = w' := by
  have h := times_any y.toNat 3 X y.toNat_lt (by decide)
  rw [tm_three] at h
  exact h
theorem _root_.Go.Proofs.YtfhlcondnaahiaaDoor.But.new {b t : Nat} {x y z : World} (h : But b x y) (k : But t y z) (ht : x.heap.size ≤ t) : But b x z :=
  ⟨k.os.trans h.os, k.tape.trans h.tape, k.output.trans h.output, Nat.le_trans h.size k.size, fun i hi hn => (k.block i (Nat.lt_of_lt_of_le hi h.size) (by omega)).trans (h.block i hi hn)⟩
def keyIs (w : World) (kb g : Nat) (K : List UInt8) : Prop := blockIs w kb (docKey g (keyF K 240)) 173 ∧ blockIs w g (cellsI (boxF 256) 256) 3

set_option maxRecDepth 100000 in
set_option maxHeartbeats 8000000 in
theorem docTurn_any (kb g : Nat) (K b : List UInt8) (w : World) (hb : b.length = 16) (hk : keyIs w kb g K) :
    Calls Tryd.prog 93 #[.pointer (some ⟨kb, 0, none⟩), .string (str b)] w fun e w' => e = .returned (.string (str (Aes.turn (Aes.words K 60) b))) ∧ Below w.heap.size w w' := by
  have HBL := Lib.hid hb
  have HK1 := Lib.hid hk.1
  have HK2 := Lib.hid hk.2
  have hkl : kb < w.heap.size := hk.1.lt
  have hgl : g < w.heap.size := hk.2.lt
  have HT : Hid (Aes.turn (Aes.words K 60) b = turnR (Aes.words K 60) b) := Lib.hid (turnR_eq _ b hb).symm
  clear hb hk
  have hz := zero75
  go_enter Tryd.func93, Tryd.ntmps93
  go_wp2_with fail
  have S0 := Lib.hid (blockIs.new w (cellsV (fun _ => 0)) 190)
  have A0 := Lib.hid (alloc_below w (.cells (cellsV (fun _ => 0)).toArray 190 (0, 0)))
  generalize w.alloc (.cells (cellsV (fun _ => 0)).toArray 190 (0, 0)) = w2 at *
  have K1 := Lib.hid (HK1.out.below A0.out hkl)
  have K2 := Lib.hid (HK2.out.below A0.out hgl)
  have SZ : Hid (w.heap.size < w2.heap.size) := Lib.hid S0.out.lt
  rw [← upto_zero (fn (addR (Aes.words K 60) 0 b)) (fun _ => 0)] at S0
  clear HK1 HK2
  go_loopw [6] (fun i wr => ∃ i' : Nat, i' ≤ 16 ∧ i = .int .i64 i' ∧ blockIs wr w.heap.size (cellsV (upto i' (fn (addR (Aes.words K 60) 0 b)) (fun _ => 0))) 190 ∧ But w.heap.size w2 wr) (fun i _ => (16 - intOf i).toNat)
  case atStart => exact ⟨0, by omega, rfl, S0.out, But.refl _ _⟩
  case round =>
    obtain ⟨i, hi, rfl, h1, h2⟩ := hrel
    have H1 := Lib.hid h1
    have H2 := Lib.hid h2
    clear h1 h2
    by_cases hlt : i < 16
    · have q16 : (i : Int) < 16 := by omega
      have p0 : 0 ≤ (i : Int) := by omega
      have HF : Hid (fn (addR (Aes.words K 60) 0 b) i = b.getD i 0 ^^^ lane (wd K (i / 4)) (i % 4)) := Lib.hid (by
        unfold addR; rw [fn_range _ _ hlt, show 4 * 0 + i / 4 = i / 4 by omega]; rfl)
      have HN := Lib.hid (cellsV_next (fn (addR (Aes.words K 60) 0 b)) (fun _ => 0) i hlt)
      rw [HF.out] at HN
      have R1 := Lib.hid (H2.out.is K1.out (Nat.ne_of_lt hkl))
      have c1 := key_at R1.out (i / 4) (i % 4) (by omega) (by omega) (by omega)
      have ix := fun X => index_str b i (by rw [HBL.out]; exact hlt) X
      obtain ⟨a, ha⟩ : ∃ a, a = i / 4 := ⟨_, rfl⟩
      obtain ⟨r, hr⟩ : ∃ r, r = i % 4 := ⟨_, rfl⟩
      rw [← ha, ← hr] at c1 HN
      have a1 : (i : Int) / 4 = (a : Int) := by omega
      have r1 : (i : Int) % 4 = (r : Int) := by omega
      have wa : IntKind.i64.wrap (a : Int) = (a : Int) := IntWalk.i64_in _ (by omega)
      have rt : (i : Int).tmod 4 = (r : Int) := by rw [Int.tmod_eq_emod_of_nonneg p0]; omega
      have a4 : (a : Int) < 4 := by omega
      have a60 : (a : Int) < 60 := by omega
      have r4 : (r : Int) < 4 := by omega
      have ei : i = a * 4 + r := by omega
      have f1 : wr.frozen? ⟨w.heap.size, a * 4 + r, none⟩ = false := H1.out.free _
      obtain ⟨z, f2⟩ : ∃ z, wr.cell? ⟨w.heap.size, a * 4 + r, none⟩ = some z := ⟨_, H1.out.at (a * 4 + r) (by rw [cellsV_length]; omega)⟩
      have HE := Lib.hid ei
      clear ha hr ei HF
      generalize lane (wd K a) r = y at *
      generalize b.getD i 0 = x at *
      have vx : IntKind.i64.wrap (V x) = V x := IntWalk.i64_in _ (by have := V_nonneg x; have := V_lt x; omega)
      have xy := V_xor64 x y
      generalize x ^^^ y = z1 at *
      go_wp2_with fail
      go_still_tail 21, (by kernel_rfl)
      change wpList _ _ _ _ _ wr.drew
      go_wp2_with fail
      go_roundw
      case rel =>
        refine ⟨i + 1, by omega, by go_num, ?_, (H2.out.drewN 1).setCell _ _ (Or.inl rfl)⟩
        have hs := blockIs.set (w := (wr.drewN 1)) H1.out i (.int .i64 (V z1))
        rw [HN.out] at hs
        rw [← HE.out]
        exact hs
      case measure => simp [intOf]; omega
    · have HI := Lib.hid (show i = 16 by omega)
      have q16 : ¬ (i : Int) < 16 := by omega
      rw [HI.out, cellsV_all] at H1
      clear hi hlt
      have B1 : Hid (Below w.heap.size w wr) := Lib.hid (A0.out.trans (H2.out.below (Nat.le_refl _) (Nat.le_of_lt SZ.out)))
      have K1r := Lib.hid (H2.out.is K1.out (Nat.ne_of_lt hkl))
      have K2r := Lib.hid (H2.out.is K2.out (Nat.ne_of_lt hgl))
      clear H2 K1 K2 A0 S0 SZ
      obtain ⟨wo, hwo⟩ : ∃ wo, wo = wr := ⟨_, rfl⟩
      subst hwo
      go_wp2_with fail
      go_loopw [7] (fun n wx => ∃ n' : Nat, n' ≤ 14 ∧ n = .int .i64 ((n' : Int) + 1) ∧ blockIs wx w.heap.size (cellsV (fn (roundsR (Aes.words K 60) n' (addR (Aes.words K 60) 0 b)))) 190 ∧ But w.heap.size wo wx) (fun n _ => (15 - intOf n).toNat)
      case atStart => exact ⟨0, by omega, rfl, H1.out, But.refl _ _⟩
      case round =>
        obtain ⟨n, hn, rfl, h1, h2⟩ := hrel
        have H1 := Lib.hid h1
        have H2 := Lib.hid h2
        clear h1 h2
        by_cases hln : n < 14
        · obtain ⟨L, hL⟩ : ∃ L, L = roundsR (Aes.words K 60) n (addR (Aes.words K 60) 0 b) := ⟨_, rfl⟩
          have HR : Hid (roundsR (Aes.words K 60) (n + 1) (addR (Aes.words K 60) 0 b) = addR (Aes.words K 60) (n + 1) (if n + 1 < 14 then mixR (shiftR L) else shiftR L)) := Lib.hid (by rw [hL]; rfl)
          rw [← hL] at H1
          clear hL
          have qn : (n : Int) + 1 < 15 := by omega
          go_wp2_with fail
          have T3 := Lib.hid (blockIs.new wr (cellsV (fun _ => 0)) 190)
          have S3 := Lib.hid (H1.out.alloc (.cells (cellsV (fun _ => 0)).toArray 190 (0, 0)))
          have B3 := Lib.hid (H2.out.alloc (.cells (cellsV (fun _ => 0)).toArray 190 (0, 0)))
          have TS : Hid (w.heap.size ≠ wr.heap.size) := Lib.hid (Nat.ne_of_lt H1.out.lt)
          have TL : Hid (w.heap.size < wr.heap.size) := Lib.hid H1.out.lt
          generalize wr.alloc (.cells (cellsV (fun _ => 0)).toArray 190 (0, 0)) = w3 at *
          have TX : Hid (wo.heap.size ≤ wr.heap.size) := Lib.hid H2.out.size
          generalize wr.heap.size = tb at *
          have TK : Hid (kb ≠ tb) := Lib.hid (by have := TL.out; omega)
          have TG : Hid (g ≠ tb) := Lib.hid (by have := TL.out; omega)
          have K3 := Lib.hid (B3.out.is K1r.out (Nat.ne_of_lt hkl))
          have G3 := Lib.hid (B3.out.is K2r.out (Nat.ne_of_lt hgl))
          rw [← upto_zero (fn (shiftR L)) (fun _ => 0)] at T3
          clear H1 H2
          go_loopw [9] (fun c wx => ∃ c' : Nat, c' ≤ 4 ∧ c = .int .i64 c' ∧ blockIs wx tb (cellsV (upto (4 * c') (fn (shiftR L)) (fun _ => 0))) 190 ∧ But tb w3 wx) (fun c _ => (4 - intOf c).toNat)
          case atStart => exact ⟨0, by omega, rfl, T3.out, But.refl _ _⟩
          case round =>
            obtain ⟨c, hc4, rfl, h1, h2⟩ := hrel
            have H1 := Lib.hid h1
            have H2 := Lib.hid h2
            clear h1 h2
            by_cases hlc : c < 4
            · have qc : (c : Int) < 4 := by omega
              go_wp2_with fail
              go_loopw [10] (fun r wx => ∃ r' : Nat, r' ≤ 4 ∧ r = .int .i64 r' ∧ blockIs wx tb (cellsV (upto (4 * c + r') (fn (shiftR L)) (fun _ => 0))) 190 ∧ But tb w3 wx) (fun r _ => (4 - intOf r).toNat)
              case atStart => exact ⟨0, by omega, rfl, H1.out, H2.out⟩
              case round =>
                obtain ⟨r, hr4, rfl, h1, h2⟩ := hrel
                have H1 := Lib.hid h1
                have H2 := Lib.hid h2
                clear h1 h2
                by_cases hlr : r < 4
                · have qr : (r : Int) < 4 := by omega
                  have pc : 0 ≤ (c : Int) := by omega
                  have pr : 0 ≤ (r : Int) := by omega
                  have HN := Lib.hid (cellsV_next (fn (shiftR L)) (fun _ => 0) (4 * c + r) (by omega))
                  have f1 : wr.frozen? ⟨tb, c * 4 + r, none⟩ = false := H1.out.free _
                  obtain ⟨z, f2⟩ : ∃ z, wr.cell? ⟨tb, c * 4 + r, none⟩ = some z := ⟨_, H1.out.at (c * 4 + r) (by rw [cellsV_length]; omega)⟩
                  have HF : Hid (fn (shiftR L) (4 * c + r) = sub (L.getD (4 * ((c + r) % 4) + r) 0)) := Lib.hid (by
                    unfold shiftR; rw [fn_range _ _ (by omega), show (4 * c + r) / 4 = c by omega, show (4 * c + r) % 4 = r by omega])
                  rw [HF.out] at HN
                  obtain ⟨e, he⟩ : ∃ e, e = (c + r) % 4 := ⟨_, rfl⟩
                  rw [← he] at HN
                  have e1 : ((c : Int) + (r : Int)) % 4 = (e : Int) := by omega
                  have w1 : IntKind.i64.wrap ((c : Int) + (r : Int)) = (c : Int) + (r : Int) := IntWalk.i64_in _ (by omega)
                  have p1 : 0 ≤ (c : Int) + (r : Int) := by omega
                  have et : ((c : Int) + (r : Int)).tmod 4 = (e : Int) := by rw [Int.tmod_eq_emod_of_nonneg p1]; exact e1
                  have qe : (e : Int) < 4 := by omega
                  have S3r := Lib.hid (H2.out.is S3.out TS.out)
                  have K3r := Lib.hid (H2.out.is K3.out TK.out)
                  have G3r := Lib.hid (H2.out.is G3.out TG.out)
                  have c1 := sv_at S3r.out e r (by omega)
                  rw [show fn L (4 * e + r) = L.getD (4 * e + r) 0 from rfl] at c1
                  have cb := key_box K3r.out
                  clear he HF
                  generalize L.getD (4 * e + r) 0 = y at *
                  have x1 := box_at G3r.out y
                  have n1 : (V y).toNat = y.toNat := V_natx y
                  have u1 := V_nonneg y
                  have v1 := V_lt y
                  generalize sub y = z1 at *
                  go_wp2_with fail
                  go_still_tail 18, (by kernel_rfl)
                  change wpList _ _ _ _ _ wr.drew
                  go_wp2_with fail
                  go_roundw
                  case rel =>
                    have hs := blockIs.set (w := (wr.drewN 1)) H1.out (4 * c + r) (.int .i64 (V z1))
                    rw [HN.out, show 4 * c + r = c * 4 + r by omega] at hs
                    rw [show c * 4 + r + 1 = 4 * c + (r + 1) by omega] at hs
                    refine ⟨r + 1, by omega, by go_num, ?_, ?_⟩
                    · exact hs
                    · first | exact (H2.out.drewN 1).setCell _ _ (Or.inl rfl) | exact (H2.out.setCell _ _ (Or.inl rfl)).drewN 1
                  case measure => simp [intOf]; omega
                · obtain rfl : r = 4 := by omega
                  go_wp2_with fail
                  go_roundw
                  case rel => exact ⟨c + 1, by omega, by go_num, H1.out, H2.out⟩
                  case measure => simp [intOf]; omega
            · have HC := Lib.hid (show c = 4 by omega)
              have qc : ¬ (c : Int) < 4 := by omega
              rw [HC.out, show 4 * 4 = 16 from rfl, cellsV_all] at H1
              clear hc4 hlc
              have S4 := Lib.hid (H2.out.is S3.out TS.out)
              have B4 := Lib.hid (B3.out.new H2.out TX.out)
              obtain ⟨w4, hw4⟩ : ∃ w4, w4 = wr := ⟨_, rfl⟩
              subst hw4
              clear S3 B3 T3 K3 G3 H2
              obtain ⟨T, hT⟩ : ∃ T, T = (if n + 1 < 14 then mixR (shiftR L) else shiftR L) := ⟨_, rfl⟩
              rw [← hT] at HR
              have HTT := Lib.hid hT
              clear hT
              go_upto_if 74 with fail
              go_cut [11] (fun _ wx => blockIs wx tb (cellsV (fn T)) 190 ∧ But tb w4 wx)
              case first =>
                by_cases h14 : n + 1 < 14
                · have b14 : (n : Int) + 1 < 14 := by omega
                  have HT1 : Hid (T = mixR (shiftR L)) := Lib.hid (by rw [HTT.out, if_pos h14])
                  generalize shiftR L = T0 at *
                  have R4 := Lib.hid (range_of H1.out)
                  have N5 := Lib.hid (blockIs.new w4 (cellsV (fun _ => 0)) 190)
                  have T5 := Lib.hid (H1.out.alloc (.cells (cellsV (fun _ => 0)).toArray 190 (0, 0)))
                  have B5 : Hid (But tb w4 (w4.alloc (.cells (cellsV (fun _ => 0)).toArray 190 (0, 0)))) := Lib.hid ((But.refl tb w4).alloc _)
                  have UL : Hid (tb < w4.heap.size) := Lib.hid H1.out.lt
                  go_wp2_with (first | (refine wpList_load_mid rfl 190 _ rfl tb 0 rfl (cellsV (fn T0)) _ R4.out Tryd.underlying190 rfl (by rw [info75, cellsV_length]) ?_) | (refine wpList_store_block rfl 190 _ _ rfl w4.heap.size 0 (cellsV (fn T0)) rfl rfl (cellsV (fun _ => 0)) 190 N5.out (by rw [info75, cellsV_length]) (by rw [cellsV_length, cellsV_length]; decide) (cellsV_one _) ?_))
                  intro w6 k1 k2 k3
                  have k1 := k1.out
                  rw [splice_all _ _ (by rw [cellsV_length, cellsV_length])] at k1
                  have U6 := Lib.hid k1
                  have T6 := Lib.hid (k2.out.is T5.out (Nat.ne_of_lt UL.out))
                  have B6 := Lib.hid (B5.out.new k2.out (Nat.le_refl _))
                  clear k1 k2 k3 T5 B5 N5 R4
                  have UT : Hid (w4.heap.size ≠ tb) := Lib.hid (Nat.ne_of_gt UL.out)
                  generalize w4.heap.size = ub at *
                  rw [← upto_zero (fn (mixR T0)) (fn T0)] at T6
                  clear H1 UL
                  go_wp2_with fail
                  go_loopw [12] (fun c wx => ∃ c' : Nat, c' ≤ 4 ∧ c = .int .i64 c' ∧ blockIs wx tb (cellsV (upto (4 * c') (fn (mixR T0)) (fn T0))) 190 ∧ But tb w6 wx) (fun c _ => (4 - intOf c).toNat)
                  case atStart => exact ⟨0, by omega, rfl, T6.out, But.refl _ _⟩
                  case round =>
                    obtain ⟨c, hc4, rfl, h1, h2⟩ := hrel
                    have H1 := Lib.hid h1
                    have H2 := Lib.hid h2
                    clear h1 h2
                    by_cases hlc : c < 4
                    · have qc : (c : Int) < 4 := by omega
                      go_wp2_with fail
                      go_loopw [13] (fun r wx => ∃ r' : Nat, r' ≤ 4 ∧ r = .int .i64 r' ∧ blockIs wx tb (cellsV (upto (4 * c + r') (fn (mixR T0)) (fn T0))) 190 ∧ But tb w6 wx) (fun r _ => (4 - intOf r).toNat)
                      case atStart => exact ⟨0, by omega, rfl, H1.out, H2.out⟩
                      case round =>
                        obtain ⟨r, hr4, rfl, h1, h2⟩ := hrel
                        have H1 := Lib.hid h1
                        have H2 := Lib.hid h2
                        clear h1 h2
                        by_cases hlr : r < 4
                        · have qr : (r : Int) < 4 := by omega
                          have pc : 0 ≤ (c : Int) := by omega
                          have pr : 0 ≤ (r : Int) := by omega
                          have HN := Lib.hid (cellsV_next (fn (mixR T0)) (fn T0) (4 * c + r) (by omega))
                          have f1 : wr.frozen? ⟨tb, c * 4 + r, none⟩ = false := H1.out.free _
                          obtain ⟨z, f2⟩ : ∃ z, wr.cell? ⟨tb, c * 4 + r, none⟩ = some z := ⟨_, H1.out.at (c * 4 + r) (by rw [cellsV_length]; omega)⟩
                          have HF : Hid (fn (mixR T0) (4 * c + r) = mx (T0.getD (4 * c + r) 0) (T0.getD (4 * c + (r + 1) % 4) 0) (T0.getD (4 * c + (r + 2) % 4) 0) (T0.getD (4 * c + (r + 3) % 4) 0)) := Lib.hid (by
                            unfold mixR; rw [fn_range _ _ (by omega), show (4 * c + r) / 4 = c by omega, show (4 * c + r) % 4 = r by omega])
                          rw [HF.out] at HN
                          obtain ⟨d1, hd1⟩ : ∃ e, e = (r + 1) % 4 := ⟨_, rfl⟩
                          obtain ⟨d2, hd2⟩ : ∃ e, e = (r + 2) % 4 := ⟨_, rfl⟩
                          obtain ⟨d3, hd3⟩ : ∃ e, e = (r + 3) % 4 := ⟨_, rfl⟩
                          rw [← hd1, ← hd2, ← hd3] at HN
                          have e1 : ((r : Int) + 1) % 4 = (d1 : Int) := by omega
                          have e2 : ((r : Int) + 2) % 4 = (d2 : Int) := by omega
                          have e3 : ((r : Int) + 3) % 4 = (d3 : Int) := by omega
                          have w1 : IntKind.i64.wrap ((r : Int) + 1) = (r : Int) + 1 := IntWalk.i64_in _ (by omega)
                          have w2' : IntKind.i64.wrap ((r : Int) + 2) = (r : Int) + 2 := IntWalk.i64_in _ (by omega)
                          have w3' : IntKind.i64.wrap ((r : Int) + 3) = (r : Int) + 3 := IntWalk.i64_in _ (by omega)
                          have p1 : 0 ≤ (r : Int) + 1 := by omega
                          have p2 : 0 ≤ (r : Int) + 2 := by omega
                          have p3 : 0 ≤ (r : Int) + 3 := by omega
                          have t1 : ((r : Int) + 1).tmod 4 = (d1 : Int) := by rw [Int.tmod_eq_emod_of_nonneg p1]; exact e1
                          have t2 : ((r : Int) + 2).tmod 4 = (d2 : Int) := by rw [Int.tmod_eq_emod_of_nonneg p2]; exact e2
                          have t3 : ((r : Int) + 3).tmod 4 = (d3 : Int) := by rw [Int.tmod_eq_emod_of_nonneg p3]; exact e3
                          have q1 : (d1 : Int) < 4 := by omega
                          have q2 : (d2 : Int) < 4 := by omega
                          have q3 : (d3 : Int) < 4 := by omega
                          have U6r := Lib.hid (H2.out.is U6.out UT.out)
                          have c0 := sv_at U6r.out c r (by omega)
                          have c1 := sv_at U6r.out c d1 (by omega)
                          have c2 := sv_at U6r.out c d2 (by omega)
                          have c3 := sv_at U6r.out c d3 (by omega)
                          rw [show fn T0 (4 * c + r) = T0.getD (4 * c + r) 0 from rfl] at c0
                          rw [show fn T0 (4 * c + d1) = T0.getD (4 * c + d1) 0 from rfl] at c1
                          rw [show fn T0 (4 * c + d2) = T0.getD (4 * c + d2) 0 from rfl] at c2
                          rw [show fn T0 (4 * c + d3) = T0.getD (4 * c + d3) 0 from rfl] at c3
                          clear hd1 hd2 hd3 HF
                          generalize T0.getD (4 * c + r) 0 = y0 at *
                          generalize T0.getD (4 * c + d1) 0 = y1 at *
                          generalize T0.getD (4 * c + d2) 0 = y2 at *
                          generalize T0.getD (4 * c + d3) 0 = y3 at *
                          have PA := Lib.hid (fun X => times_two y0 X)
                          have PB := Lib.hid (fun X => times_three y1 X)
                          have HM : Hid (mx y0 y1 y2 y3 = ((xt y0 ^^^ (xt y1 ^^^ y1)) ^^^ y2) ^^^ y3) := Lib.hid rfl
                          rw [HM.out] at HN
                          generalize xt y0 = a0 at *
                          generalize xt y1 ^^^ y1 = a1 at *
                          have x1 := V_xor64 a0 a1
                          generalize a0 ^^^ a1 = a2 at *
                          have x2 := V_xor64 a2 y2
                          generalize a2 ^^^ y2 = a3 at *
                          have x3 := V_xor64 a3 y3
                          generalize a3 ^^^ y3 = z1 at *
                          clear HM
                          go_wp2_with fail
                          go_region_held3 (fun w' => w'.cell? ⟨ub, c * 4 + r, none⟩ = some (.int .i64 (V y0)) ∧ w'.cell? ⟨ub, c * 4 + d1, none⟩ = some (.int .i64 (V y1)) ∧ w'.cell? ⟨ub, c * 4 + d2, none⟩ = some (.int .i64 (V y2)) ∧ w'.cell? ⟨ub, c * 4 + d3, none⟩ = some (.int .i64 (V y3)))
                            (first | exact ⟨c0, c1, c2, c3⟩ | exact ⟨set_keep UT.out c0, set_keep UT.out c1, set_keep UT.out c2, set_keep UT.out c3⟩ | go_keep)
                            (first
                            | (go_at_call 92
                               with_reducible refine (PA.out _).mono ?_
                               rintro e w' ⟨rfl, rfl⟩)
                            | (go_at_call 92
                               with_reducible refine (PB.out _).mono ?_
                               rintro e w' ⟨rfl, rfl⟩))
                          go_wp2_with fail
                          go_roundw
                          case rel =>
                            have hs := blockIs.set (w := (wr.drewN 1)) H1.out (4 * c + r) (.int .i64 (V z1))
                            rw [HN.out, show 4 * c + r = c * 4 + r by omega] at hs
                            rw [show c * 4 + r + 1 = 4 * c + (r + 1) by omega] at hs
                            refine ⟨r + 1, by omega, by go_num, ?_, ?_⟩
                            · exact hs
                            · first | exact (H2.out.drewN 1).setCell _ _ (Or.inl rfl) | exact (H2.out.setCell _ _ (Or.inl rfl)).drewN 1
                          case measure => simp [intOf]; omega
                        · obtain rfl : r = 4 := by omega
                          go_wp2_with fail
                          go_roundw
                          case rel => exact ⟨c + 1, by omega, by go_num, H1.out, H2.out⟩
                          case measure => simp [intOf]; omega
                    · have HC2 := Lib.hid (show c = 4 by omega)
                      have qc : ¬ (c : Int) < 4 := by omega
                      rw [HC2.out, show 4 * 4 = 16 from rfl, cellsV_all] at H1
                      go_wp2_with fail
                      go_meet
                      case rel => exact ⟨by rw [HT1.out]; exact H1.out, B6.out.trans H2.out⟩
                · have b14 : ¬ (n : Int) + 1 < 14 := by omega
                  have HT1 : Hid (T = shiftR L) := Lib.hid (by rw [HTT.out, if_neg h14])
                  go_wp2_with fail
                  go_meet
                  case rel => exact ⟨by rw [HT1.out]; exact H1.out, But.refl _ _⟩
              case rest =>
                obtain ⟨h1, h2⟩ := hcut
                have T7 := Lib.hid h1
                have S7 := Lib.hid (h2.is S4.out TS.out)
                have B7 := Lib.hid (B4.out.new h2 TX.out)
                have K7 := Lib.hid (B7.out.is K1r.out (Nat.ne_of_lt hkl))
                clear h1 h2 H1 S4 B4 HTT
                rw [← upto_zero (fn (addR (Aes.words K 60) (n + 1) T)) (fn L)] at S7
                obtain ⟨w7, hw7⟩ : ∃ w7, w7 = wc := ⟨_, rfl⟩
                subst hw7
                go_wp2_with fail
                go_loopw [14] (fun c wx => ∃ c' : Nat, c' ≤ 4 ∧ c = .int .i64 c' ∧ blockIs wx w.heap.size (cellsV (upto (4 * c') (fn (addR (Aes.words K 60) (n + 1) T)) (fn L))) 190 ∧ But w.heap.size w7 wx) (fun c _ => (4 - intOf c).toNat)
                case atStart => exact ⟨0, by omega, rfl, S7.out, But.refl _ _⟩
                case round =>
                  obtain ⟨c, hc4, rfl, h1, h2⟩ := hrel
                  have H1 := Lib.hid h1
                  have H2 := Lib.hid h2
                  clear h1 h2
                  by_cases hlc : c < 4
                  · have qc : (c : Int) < 4 := by omega
                    go_wp2_with fail
                    go_loopw [15] (fun r wx => ∃ r' : Nat, r' ≤ 4 ∧ r = .int .i64 r' ∧ blockIs wx w.heap.size (cellsV (upto (4 * c + r') (fn (addR (Aes.words K 60) (n + 1) T)) (fn L))) 190 ∧ But w.heap.size w7 wx) (fun r _ => (4 - intOf r).toNat)
                    case atStart => exact ⟨0, by omega, rfl, H1.out, H2.out⟩
                    case round =>
                      obtain ⟨r, hr4, rfl, h1, h2⟩ := hrel
                      have H1 := Lib.hid h1
                      have H2 := Lib.hid h2
                      clear h1 h2
                      by_cases hlr : r < 4
                      · have qr : (r : Int) < 4 := by omega
                        have pc : 0 ≤ (c : Int) := by omega
                        have pr : 0 ≤ (r : Int) := by omega
                        have HN := Lib.hid (cellsV_next (fn (addR (Aes.words K 60) (n + 1) T)) (fn L) (4 * c + r) (by omega))
                        have f1 : wr.frozen? ⟨w.heap.size, c * 4 + r, none⟩ = false := H1.out.free _
                        obtain ⟨z, f2⟩ : ∃ z, wr.cell? ⟨w.heap.size, c * 4 + r, none⟩ = some z := ⟨_, H1.out.at (c * 4 + r) (by rw [cellsV_length]; omega)⟩
                        have HF : Hid (fn (addR (Aes.words K 60) (n + 1) T) (4 * c + r) = T.getD (4 * c + r) 0 ^^^ lane (wd K (4 * (n + 1) + c)) r) := Lib.hid (by
                          unfold addR; rw [fn_range _ _ (by omega), show (4 * c + r) / 4 = c by omega, show (4 * c + r) % 4 = r by omega]; rfl)
                        rw [HF.out] at HN
                        obtain ⟨m, hm⟩ : ∃ m, m = 4 * (n + 1) + c := ⟨_, rfl⟩
                        rw [← hm] at HN
                        have w1 : IntKind.i64.wrap (4 * ((n : Int) + 1)) = 4 * ((n : Int) + 1) := IntWalk.i64_in _ (by omega)
                        have w2' : IntKind.i64.wrap (4 * ((n : Int) + 1) + (c : Int)) = (m : Int) := by rw [IntWalk.i64_in _ (by omega)]; omega
                        have qm : (m : Int) < 60 := by omega
                        have T7r := Lib.hid (H2.out.is T7.out TS.out.symm)
                        have K7r := Lib.hid (H2.out.is K7.out (Nat.ne_of_lt hkl))
                        have c1 := sv_at T7r.out c r (by omega)
                        rw [show fn T (4 * c + r) = T.getD (4 * c + r) 0 from rfl] at c1
                        have c2 := key_at K7r.out m r (by omega) (by omega) (by omega)
                        have HMM := Lib.hid hm
                        clear hm HF
                        generalize T.getD (4 * c + r) 0 = y at *
                        generalize lane (wd K m) r = y2 at *
                        have x1 := V_xor64 y y2
                        generalize y ^^^ y2 = z1 at *
                        go_wp2_with fail
                        go_still_tail 21, (by kernel_rfl)
                        change wpList _ _ _ _ _ wr.drew
                        go_wp2_with fail
                        go_roundw
                        case rel =>
                          have hs := blockIs.set (w := (wr.drewN 1)) H1.out (4 * c + r) (.int .i64 (V z1))
                          rw [HN.out, show 4 * c + r = c * 4 + r by omega] at hs
                          rw [show c * 4 + r + 1 = 4 * c + (r + 1) by omega] at hs
                          refine ⟨r + 1, by omega, by go_num, ?_, ?_⟩
                          · exact hs
                          · first | exact (H2.out.drewN 1).setCell _ _ (Or.inl rfl) | exact (H2.out.setCell _ _ (Or.inl rfl)).drewN 1
                        case measure => simp [intOf]; omega
                      · obtain rfl : r = 4 := by omega
                        go_wp2_with fail
                        go_roundw
                        case rel => exact ⟨c + 1, by omega, by go_num, H1.out, H2.out⟩
                        case measure => simp [intOf]; omega
                  · have HC3 := Lib.hid (show c = 4 by omega)
                    have qc : ¬ (c : Int) < 4 := by omega
                    rw [HC3.out, show 4 * 4 = 16 from rfl, cellsV_all] at H1
                    have vn : IntKind.i64.wrap ((n : Int) + 1 + 1) = (n : Int) + 1 + 1 := IntWalk.i64_in _ (by omega)
                    go_wp2_with fail
                    go_roundw
                    case rel => exact ⟨n + 1, by omega, by go_num, by rw [HR.out]; exact H1.out, B7.out.trans H2.out⟩
                    case measure => simp [intOf]; omega
        · obtain rfl : n = 14 := by omega
          have qn : ¬ ((14 : Nat) : Int) + 1 < 15 := by omega
          have HT2 : Hid (Aes.turn (Aes.words K 60) b = roundsR (Aes.words K 60) 14 (addR (Aes.words K 60) 0 b)) := Lib.hid (by rw [HT.out]; rfl)
          have HFL := Lib.hid (roundsR_len (Aes.words K 60) b 14)
          generalize roundsR (Aes.words K 60) 14 (addR (Aes.words K 60) 0 b) = F at *
          have B9 : Hid (Below w.heap.size w wr) := Lib.hid (B1.out.trans (H2.out.below (Nat.le_refl _) B1.out.size))
          obtain ⟨w9, hw9⟩ : ∃ w9, w9 = wr := ⟨_, rfl⟩
          subst hw9
          clear H2 B1 K1r K2r HT
          go_wp2_with fail
          go_loopw [17, 16] (fun i v wr => ∃ k : Nat, k ≤ 16 ∧ i = .int .i64 k ∧ ownB wr w9.heap.size v (F.take k) ∧ Below w9.heap.size w9 wr) (fun i _ _ => (16 - intOf i).toNat)
          case atStart => exact ⟨0, by omega, rfl, World.ownsRow_nil _ _ _ _, Below.refl _ _⟩
          case round =>
            obtain ⟨k, hk, rfl, h3, h4⟩ := hrel
            have H3 := Lib.hid h3
            have H4 := Lib.hid h4
            clear h3 h4
            obtain ⟨i0, hi, hz0, hz1, hz2⟩ := info_parts info_u8
            have I0 := Lib.hid hi
            clear hi
            by_cases hlt : k < 16
            · have q : (k : Int) < 16 := by omega
              have p0 : 0 ≤ (k : Int) := by omega
              have SB := Lib.hid (H1.out.below H4.out H1.out.lt)
              have c1 := sv_at SB.out (k / 4) (k % 4) (by omega)
              rw [show 4 * (k / 4) + k % 4 = k by omega, show fn F k = F.getD k 0 from rfl] at c1
              have HX : Hid (F.take (k + 1) = F.take k ++ [F.getD k 0]) := Lib.hid (by
                rw [List.take_add_one, List.getElem?_eq_getElem (by rw [HFL.out]; exact hlt)]
                simp [hlt, HFL.out])
              have HTK : Hid ((F.take k).length = k) := Lib.hid (by rw [List.length_take, HFL.out]; omega)
              obtain ⟨x, hx⟩ : ∃ x : UInt8, x = F.getD k 0 := ⟨_, rfl⟩
              rw [← hx] at c1 HX
              clear hx
              obtain ⟨a, ha⟩ : ∃ a, a = k / 4 := ⟨_, rfl⟩
              obtain ⟨r, hr⟩ : ∃ r, r = k % 4 := ⟨_, rfl⟩
              rw [← ha, ← hr] at c1
              have a1 : (k : Int) / 4 = (a : Int) := by omega
              have r1 : (k : Int) % 4 = (r : Int) := by omega
              have wa : IntKind.i64.wrap (a : Int) = (a : Int) := IntWalk.i64_in _ (by omega)
              have rt : (k : Int).tmod 4 = (r : Int) := by rw [Int.tmod_eq_emod_of_nonneg p0]; omega
              have a4 : (a : Int) < 4 := by omega
              have r4 : (r : Int) < 4 := by omega
              clear ha hr
              have vw := V_wrap x
              have C1 := Lib.hid (blockIs.new wr [.int .u8 (V x)] 5)
              have O1 : Hid ((wr.alloc (.cells [.int .u8 (V x)].toArray 5 (0, 0))).ownsRow w9.heap.size 5 1 _ _ _) := Lib.hid (World.ownsRow.alloc H3.out (.cells [.int .u8 (V x)].toArray 5 (0, 0)))
              have K3 := Lib.hid (alloc_below wr (.cells [.int .u8 (V x)].toArray 5 (0, 0)))
              have NW : Hid (∀ (j : Nat) (u : Value), [Value.int .u8 (V x)][j]? = some u → (wr.alloc (.cells [.int .u8 (V x)].toArray 5 (0, 0))).cell? ((⟨wr.heap.size, 0, none⟩ : Addr).add j) = some u) := Lib.hid (fun j u hj => by rw [Addr.add_lit, Nat.zero_add, C1.out.cell]; exact hj)
              have OC : Hid (∀ u ∈ [Value.int .u8 (V x)], u.oneCell' = true) := Lib.hid (by simp [Value.oneCell'])
              have LM : Hid ((F.take k).length + 1 ≤ maxLen) := Lib.hid (by rw [HTK.out]; unfold maxLen; omega)
              go_upto_region 36 with (at_builtin; refine wpList_append_own _ rfl _ _ 30 rfl w9.heap.size 5 i0 (.int .u8 0) 1 1 Tryd.underlying30 I0.out hz0 hz1 hz2 rfl (by decide) _ (F.take k).length (byteCells (F.take k)) rfl O1.out ⟨wr.heap.size, 0, none⟩ 1 1 [.int .u8 (V x)] rfl rfl NW.out OC.out (by rw [HTK.out]; unfold maxLen; omega) (by rw [HTK.out]; omega) (Nat.le_trans H4.out.size K3.out.size) ?_; intro v' w' r1 r2 _; have O3 := Lib.hid r1; have G3 := Lib.hid (grown_below O1.out r2 (Nat.le_trans H4.out.size K3.out.size)); clear r1 r2)
              have O4 : Hid (ownB w' w9.heap.size v' (F.take (k + 1))) := Lib.hid (by
                unfold ownB
                rw [HX.out, byteCells_append, List.length_append]
                exact O3.out)
              have K4 : Hid (Below w9.heap.size w9 w') := Lib.hid (H4.out.trans ((K3.out.mono H4.out.size).trans G3.out))
              clear NW OC O1 O3 K3 G3 C1 H3 H4 HX LM SB vw c1 a1 r1 wa rt
              go_wp2_with fail
              go_roundw
              case rel => exact ⟨k + 1, by omega, by go_num, O4.out, K4.out⟩
              case measure => simp [intOf]; omega
            · obtain rfl : k = 16 := by omega
              have q : ¬ ((16 : Nat) : Int) < 16 := by omega
              have h3 := H3.out
              rw [List.take_of_length_le (by rw [HFL.out]; exact Nat.le_refl _)] at h3
              obtain ⟨a, c, rfl, _, _, hin, _⟩ := h3.form
              have cv := conv_string wr a F c hin
              clear h3 hin H3
              go_wp2_with fail
              go_ret
              exact ⟨by rw [HT2.out]; rfl, B9.out.trans (H4.out.mono B9.out.size)⟩
end Go.Proofs.YtfhlcondnaahiaaDoor.Ci
end
section
/- hypogeumref02.Hide: the document's flow. -/
namespace Go.Proofs.YtfhlcondnaahiaaDoor.Ci
open Go.RowKit Sha Aes

theorem ownB.still {w w' : World} {base : Nat} {v : Value} {l : List UInt8} (h : ownB w base v l) (k : Below w.heap.size w w') : ownB w' base v l := by
  refine ⟨h.1, ?_⟩
  rcases h.2 with h0 | ⟨q, cap, cur, hv, hq, hc, r⟩
  · exact .inl h0
  · exact .inr ⟨q, cap, cur, hv, hq, (k.block q (Array.getElem?_eq_some_iff.1 hc).1).trans hc, r⟩
def hideP (ws : List W) (N : List UInt8) (p : Nat) (B : List UInt8) (k : Nat) : List UInt8 := (List.range k).map fun i => B.getD i 0 ^^^ sb ws N (p + i)
theorem hideP_next (ws : List W) (N : List UInt8) (p : Nat) (B : List UInt8) (k : Nat) : hideP ws N p B (k + 1) = hideP ws N p B k ++ [B.getD k 0 ^^^ sb ws N (p + k)] := by
  simp [hideP, List.range_succ]
theorem hideP_len (ws : List W) (N : List UInt8) (p : Nat) (B : List UInt8) (k : Nat) : (hideP ws N p B k).length = k := by simp [hideP]
def seen (ws : List W) (N : List UInt8) (S : List UInt8) (z : Int) : Prop := ∀ n : Nat, z = (n : Int) → S = Aes.turn ws (plus N n)
theorem step_app2 {w : World} {ops : Array Oper} {o : Oper} {a : Act} {K : Act → World → Prop} {Q : Exit → Act → World → Prop} {E : Prop} (hgd : o.guard = none) (s x : Operand)
    (ho : o.op = .call { callee := .builtin .append, args := #[s, x], argTypes := #[30, 30] })
    (base : Nat) (v : Value) (xs : List UInt8) (hs : a.eval s = v) (hown : ownB w base v xs) (A : Option Addr) (n c : Nat) (l : List UInt8) (hnl : n = l.length) (hx : a.eval x = .slice A n c) (hA : A = none → c = 0) (hb : bytesIn w A l)
    (hn : xs.length + l.length ≤ 1000000) (hbase : base ≤ w.heap.size)
    (h : ∀ v' w', Hid (ownB w' base v' (xs ++ l)) → Hid (Below base w w') → K (a.put o.dst v') w') : if Region.wanted o (yielded ops a.tmps) = true then Oper.wp Tryd.prog o a w K Q else E := by
  have hw : Region.wanted o (yielded ops a.tmps) = true := by simp [Region.wanted, hgd]
  rw [if_pos hw]
  obtain ⟨i0, hi, hz0, hz1, hz2⟩ := info_parts info_u8
  subst hnl
  cases A with
  | none =>
    have hl : l = [] := by
      rcases hb with h | ⟨_, _, h, _⟩
      · exact h
      · cases h
    subst hl
    have hx : a.eval x = .slice none 0 0 := by rw [hx, hA rfl]; rfl
    have hrun := run_append_owned_none (P := Tryd.prog) (w := w) base 30 o.type 5 i0 1 Tryd.underlying30 hi v xs.length (byteCells xs) hown
    unfold Oper.wp execOp
    simp only [ho, resolve, invoke, builtin, Sem.run_bind, Sem.run_pure, Result.andThen_ok, List.map_toArray, List.map_cons, List.map_nil, hs, hx, hrun]
    exact h v w (Lib.hid (by rw [List.append_nil]; exact hown)) (Lib.hid (Below.refl _ _))
  | some ad =>
    refine wp_append_own w s x 30 ho base 5 i0 (.int .u8 0) 1 1 Tryd.underlying30 hi hz0 hz1 hz2 rfl (by decide) v xs.length (byteCells xs) hs hown ad l.length c (byteCells l) hx (by rw [byteCells_length, Nat.mul_one]) (fun j u hj => ?_) (byteCells_one l) (by unfold maxLen; omega) (by omega) hbase (fun v' w' r1 r2 _ => ?_)
    · have hlt := (List.getElem?_eq_some_iff.1 hj).1
      rw [byteCells_length] at hlt
      rcases hb with h0 | ⟨bb, bo, he, hc⟩
      · rw [h0] at hlt; exact absurd hlt (Nat.not_lt_zero _)
      · obtain rfl := Option.some.inj he
        rw [Addr.add_lit, hc j hlt]
        rw [byteCells_get l j hlt] at hj
        exact hj
    · refine h v' w' (Lib.hid ?_) (Lib.hid (grown_below hown r2 hbase))
      unfold ownB
      rw [List.length_append, byteCells_append]
      exact r1
theorem keyIs.below {w w' : World} {kb g : Nat} {K : List UInt8} (h : keyIs w kb g K) (k : Below w.heap.size w w') : keyIs w' kb g K := ⟨h.1.below k h.1.lt, h.2.below k h.2.lt⟩

set_option maxRecDepth 100000 in
set_option maxHeartbeats 4000000 in
theorem docHide_any (kb g : Nat) (K N B : List UInt8) (p : Nat) (w : World) (hN : N.length = 16) (hp : p ≤ 1099511627776) (hB : B.length ≤ 1000) (hk : keyIs w kb g K) :
    Calls Tryd.prog 78 #[.pointer (some ⟨kb, 0, none⟩), .string (str N), .int .i64 p, .string (str B)] w fun e w' => e = .returned (.string (str (hideL (Aes.words K 60) N p B))) ∧ Below w.heap.size w w' := by
  have HNL := Lib.hid hN
  have HBL := Lib.hid hB
  have HPL := Lib.hid hp
  have HK := Lib.hid hk
  have hs := str_size B
  clear hN hk hB hp
  go_enter Tryd.func78, Tryd.ntmps78
  go_wp2_with fail
  go_loopw [12, 9, 10, 11] (fun i v s h wr => ∃ (k : Nat) (S : List UInt8) (z : Int), k ≤ B.length ∧ i = .int .i64 k ∧ s = .string (str S) ∧ h = .int .i64 z ∧ ownB wr w.heap.size v (hideP (Aes.words K 60) N p B k) ∧ seen (Aes.words K 60) N S z ∧ Below w.heap.size w wr) (fun i _ _ _ _ => ((B.length : Int) - intOf i).toNat)
  case atStart => exact ⟨0, [], -1, by omega, rfl, rfl, rfl, World.ownsRow_nil _ _ _ _, fun n h => by omega, Below.refl _ _⟩
  case round =>
    obtain ⟨k, SS, zz, hk, rfl, rfl, rfl, h1, h2, h3⟩ := hrel
    have H1 := Lib.hid h1
    have H2 := Lib.hid h2
    have H3 := Lib.hid h3
    clear h1 h2 h3
    by_cases hlt : k < B.length
    · have q : (k : Int) < (B.length : Int) := by omega
      have hpl := HPL.out
      have hbl := HBL.out
      obtain ⟨n, hn⟩ : ∃ n, n = (p + k) / 16 := ⟨_, rfl⟩
      obtain ⟨m, hm⟩ : ∃ m, m = (p + k) % 16 := ⟨_, rfl⟩
      have a1 : IntKind.i64.wrap ((p : Int) + (k : Int)) = (p : Int) + (k : Int) := IntWalk.i64_in _ (by omega)
      have a2 : ((p : Int) + (k : Int)) / 16 = (n : Int) := by omega
      have a3 : 0 ≤ (p : Int) + (k : Int) := by omega
      have a4 : ((p : Int) + (k : Int)).tdiv 16 = (n : Int) := by rw [Int.tdiv_eq_ediv_of_nonneg a3]; exact a2
      have a5 : IntKind.i64.wrap (n : Int) = (n : Int) := IntWalk.i64_in _ (by omega)
      have a6 : ((p : Int) + (k : Int)) % 16 = (m : Int) := by omega
      have a7 : ((p : Int) + (k : Int)).tmod 16 = (m : Int) := by rw [Int.tmod_eq_emod_of_nonneg a3]; exact a6
      have nl : n ≤ 36028797018963968 := by omega
      have ix := fun X => index_str B k hlt X
      have ml : m < 16 := by omega
      have p0 : 0 ≤ (k : Int) := by omega
      have HX := Lib.hid (hideP_next (Aes.words K 60) N p B k)
      have HSB : Hid (sb (Aes.words K 60) N (p + k) = (Aes.turn (Aes.words K 60) (plus N n)).getD m 0) := Lib.hid (by unfold sb; rw [hn, hm])
      rw [HSB.out] at HX
      have HTL := Lib.hid (turn_length (Aes.words K 60) (plus N n))
      have PP := fun X => refPlus_any N n X HNL.out nl
      have PT := fun X hX => docTurn_any kb g K (plus N n) X (by rw [plus_len, HNL.out]) hX
      have PP := Lib.hid PP
      have PT := Lib.hid PT
      have HSN : Hid (seen (Aes.words K 60) N (Aes.turn (Aes.words K 60) (plus N n)) (n : Int)) := Lib.hid (fun n' h => by rw [show n' = n by omega])
      clear hn hm
      obtain ⟨TB, hTB⟩ : ∃ TB, TB = Aes.turn (Aes.words K 60) (plus N n) := ⟨_, rfl⟩
      rw [← hTB] at HX HTL HSN
      have HTB := Lib.hid hTB.symm
      have PT : Hid (∀ X, keyIs X kb g K → Calls Tryd.prog 93 #[.pointer (some ⟨kb, 0, none⟩), .string (str (plus N n))] X fun e w' => e = .returned (.string (str TB)) ∧ Below X.heap.size X w') := Lib.hid (by rw [hTB]; exact PT.out)
      clear hTB HSB
      go_upto_if 26 with fail
      go_cut [10, 11] (fun s' h' wx => s' = .string (str TB) ∧ h' = .int .i64 (n : Int) ∧ Below wr.heap.size wr wx)
      case first =>
        by_cases he : zz = (n : Int)
        · have bn : ((n : Int) != zz) = false := by simp [he]
          have HE := Lib.hid he
          have HS2 := Lib.hid ((H2.out n he).trans HTB.out)
          clear he
          go_wp2_with fail
          go_meet
          case rel => exact ⟨by rw [HS2.out], by rw [HE.out], Below.refl _ _⟩
        · have bn : ((n : Int) != zz) = true := by simp; omega
          clear he
          go_wp2_with fail
          with_reducible refine (PP.out _).mono ?_
          rintro e w1 ⟨rfl, k1⟩
          have K1 := Lib.hid k1
          clear k1
          go_wp2_with fail
          with_reducible refine (PT.out _ (HK.out.below (H3.out.trans (K1.out.mono H3.out.size)))).mono ?_
          rintro e w2 ⟨rfl, k2⟩
          have K2 := Lib.hid k2
          clear k2
          go_wp2_with fail
          go_meet
          case rel => exact ⟨rfl, rfl, K1.out.trans (K2.out.mono K1.out.size)⟩
      case rest =>
        obtain ⟨rfl, rfl, h4⟩ := hcut
        have O4 := Lib.hid (H1.out.still h4)
        have B4 := Lib.hid (H3.out.trans (h4.mono H3.out.size))
        clear h4 H1 H3 PP PT
        have iy := fun X => index_str TB m (by rw [HTL.out]; exact ml) X
        generalize B.getD k 0 = x at *
        generalize TB.getD m 0 = y at *
        have xy := V_xor x y
        generalize x ^^^ y = z at *
        have C1 := Lib.hid (blockIs.new wc [.int .u8 (V z)] 5)
        have O5 : Hid (ownB (wc.alloc (.cells [.int .u8 (V z)].toArray 5 (0, 0))).drew w.heap.size _ (hideP (Aes.words K 60) N p B k)) := Lib.hid (O4.out.still (alloc_below wc (.cells [.int .u8 (V z)].toArray 5 (0, 0))).drew)
        have B5 : Hid (Below w.heap.size w (wc.alloc (.cells [.int .u8 (V z)].toArray 5 (0, 0))).drew) := Lib.hid (B4.out.trans ((alloc_below wc (.cells [.int .u8 (V z)].toArray 5 (0, 0))).drew.mono B4.out.size))
        have IN : Hid (bytesIn (wc.alloc (.cells [.int .u8 (V z)].toArray 5 (0, 0))).drew (some ⟨wc.heap.size, 0, none⟩) [z]) := Lib.hid (Or.inr ⟨_, _, rfl, fun j hj => by
          have : j = 0 := by simpa using hj
          subst this
          exact (C1.out.cell 0).trans rfl⟩)
        have HLL := Lib.hid (hideP_len (Aes.words K 60) N p B k)
        clear C1 O4 B4
        go_wp2_with fail
        refine wp_region_noPanic ?_
        refine wp_region_held_drew (S := fun _ => True) (by kernel_rfl) trivial (fun hH => ?_)
        refine tk (i := 0) (oi := { dst := some 33, op := Op.move (Operand.tmp 9), type := 30, pos := "ref.go:129", after := #[], guard := none }) (v := u9) rfl (fun wx hS => ?_) hH ?_
        · go_simp
        refine tk (i := 1) (oi := { dst := some 34, op := Op.move (Operand.tmp 3), type := 9, pos := "ref.go:129", after := #[], guard := none }) (v := .string (str B)) rfl (fun wx hS => ?_) hH ?_
        · go_simp
        refine tk (i := 2) (oi := { dst := some 35, op := Op.move (Operand.tmp 12), type := 3, pos := "ref.go:129", after := #[], guard := none }) (v := .int .i64 (k : Int)) rfl (fun wx hS => ?_) hH ?_
        · go_simp
        refine tk (i := 3) (oi := { dst := some 36, op := Op.index 9 (Operand.tmp 34) (Operand.tmp 35), type := 5, pos := "ref.go:129", after := #[⟨1, .data⟩, ⟨2, .data⟩], guard := none }) (v := .int .u8 (V x)) rfl (fun wx hS => ?_) hH ?_
        · have e1 := ix wx; go_simp
        refine tk (i := 4) (oi := { dst := some 37, op := Op.move (Operand.tmp 10), type := 9, pos := "ref.go:129", after := #[], guard := none }) (v := .string (str TB)) rfl (fun wx hS => ?_) hH ?_
        · go_simp
        refine tk (i := 5) (oi := { dst := some 38, op := Op.move (Operand.tmp 2), type := 3, pos := "ref.go:129", after := #[], guard := none }) (v := .int .i64 (p : Int)) rfl (fun wx hS => ?_) hH ?_
        · go_simp
        refine tk (i := 6) (oi := { dst := some 39, op := Op.move (Operand.tmp 12), type := 3, pos := "ref.go:129", after := #[], guard := none }) (v := .int .i64 (k : Int)) rfl (fun wx hS => ?_) hH ?_
        · go_simp
        refine tk (i := 7) (oi := { dst := some 40, op := Op.binOp BinOp.add 3 (Operand.tmp 38) (Operand.tmp 39) 3, type := 3, pos := "ref.go:129", after := #[⟨5, .data⟩, ⟨6, .data⟩], guard := none }) (v := .int .i64 ((p : Int) + (k : Int))) rfl (fun wx hS => ?_) hH ?_
        · have e1 := a1; go_simp
        refine tk (i := 8) (oi := { dst := some 41, op := Op.binOp BinOp.rem 3 (Operand.tmp 40) (Operand.const (Value.int IntKind.i64 16)) 3, type := 3, pos := "ref.go:129", after := #[⟨7, .data⟩], guard := none }) (v := .int .i64 (m : Int)) rfl (fun wx hS => ?_) hH ?_
        · have e1 := a6; have e2 := a3; go_simp
        refine tk (i := 9) (oi := { dst := some 42, op := Op.index 9 (Operand.tmp 37) (Operand.tmp 41), type := 5, pos := "ref.go:129", after := #[⟨4, .data⟩, ⟨8, .data⟩], guard := none }) (v := .int .u8 (V y)) rfl (fun wx hS => ?_) hH ?_
        · have e1 := iy wx; go_simp
        refine tk (i := 10) (oi := { dst := some 43, op := Op.binOp BinOp.xor 5 (Operand.tmp 36) (Operand.tmp 42) 5, type := 5, pos := "ref.go:129", after := #[⟨3, .data⟩, ⟨9, .data⟩], guard := none }) (v := .int .u8 (V z)) rfl (fun wx hS => ?_) hH ?_
        · have e1 := xy; go_simp
        refine wpAnyH_ready (rs := [11]) (by kernel_rfl) (by simp) ?_
        refine AllReadyH.cons (o := { dst := some 44, op := Op.buildSlice 30 1 #[(0, Operand.tmp 43)], type := 30, pos := "ref.go:129", after := #[⟨10, .data⟩], guard := none }) rfl (fun KK hKK => ?_) AllReadyH.nil
        go_simp
        refine hKK.out _ _ trivial (fun hH => ?_)
        clear hKK KK hH
        try simp only [Act.put, List.setIfInBounds_toArray, List.set_cons_zero, List.set_cons_succ]
        refine wpAnyH_ready (rs := [12]) (by kernel_rfl) (by simp) ?_
        refine AllReadyH.cons (o := { dst := some 45, op := Op.call { callee := Callee.builtin Builtin.append, args := #[Operand.tmp 33, Operand.tmp 44], argTypes := #[30, 30] }, type := 30, pos := "ref.go:129", after := #[⟨0, .data⟩, ⟨11, .data⟩], guard := none }) rfl (fun KK hKK => ?_) AllReadyH.nil
        refine step_app2 rfl _ _ rfl w.heap.size u9 (hideP (Aes.words K 60) N p B k) rfl O5.out (some ⟨wc.heap.size, 0, none⟩) 1 1 [z] rfl rfl (fun h => by cases h) IN.out (by rw [HLL.out]; simp; omega) B5.out.size ?_
        intro v3 x3 r1 r2
        have r1 := r1.out
        rw [← HX.out] at r1
        have O6 := Lib.hid r1
        have B6 := Lib.hid (B5.out.trans r2.out)
        clear r1 r2 O5 B5 IN HX
        refine hKK.out _ _ trivial (fun hH => ?_)
        clear hKK KK hH
        try simp only [Act.put, List.setIfInBounds_toArray, List.set_cons_zero, List.set_cons_succ]
        refine wpAnyH_ready (rs := [13]) (by kernel_rfl) (by simp) ?_
        refine AllReadyH.cons (o := { dst := some 9, op := Op.assign (Operand.tmp 45), type := 30, pos := "ref.go:129", after := #[⟨12, .data⟩, ⟨12, .chain⟩, ⟨0, .phase⟩, ⟨1, .phase⟩, ⟨2, .phase⟩, ⟨3, .phase⟩, ⟨4, .phase⟩, ⟨5, .phase⟩, ⟨6, .phase⟩, ⟨7, .phase⟩, ⟨8, .phase⟩, ⟨9, .phase⟩, ⟨10, .phase⟩, ⟨11, .phase⟩, ⟨12, .phase⟩], guard := none }) rfl (fun KK hKK => ?_) AllReadyH.nil
        go_simp
        refine hKK.out _ _ trivial (fun hH => ?_)
        clear hKK KK hH
        try simp only [Act.put, List.setIfInBounds_toArray, List.set_cons_zero, List.set_cons_succ]
        refine wpAnyH_done (by kernel_rfl) ?_ _
        refine NoPanic.normal ?_
        go_wp2_with fail
        go_roundw
        case rel => exact ⟨k + 1, TB, n, by omega, by go_num, rfl, rfl, O6.out, HSN.out, B6.out⟩
        case measure => simp [intOf]; omega
    · have HKE := Lib.hid (show k = B.length by omega)
      have q : ¬ (k : Int) < (B.length : Int) := by omega
      have h1 := H1.out
      have e : hideP (Aes.words K 60) N p B k = hideL (Aes.words K 60) N p B := by rw [HKE.out]; rfl
      rw [e] at h1
      obtain ⟨a, c, rfl, _, _, hin, _⟩ := h1.form
      clear e h1 H1
      generalize hF : hideL (Aes.words K 60) N p B = F at *
      have HFE := Lib.hid hF
      clear hF
      have cv := conv_string wr a F c hin
      clear hin
      go_wp2_with fail
      go_ret
      exact ⟨by rw [HFE.out]; rfl, H3.out⟩
end Go.Proofs.YtfhlcondnaahiaaDoor.Ci
end
end
