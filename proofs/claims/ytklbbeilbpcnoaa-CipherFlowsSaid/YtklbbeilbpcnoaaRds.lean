/- What CipherRounds asks besides: the document's Plus, pour, and Hide of nothing. -/
import Derived.Test.YtklbbeilbpcnoaaLbk
import Derived.Lib.ConvBytes
namespace Go.Proofs.Ytklbbeilbpcnoaa
open Go.RowKit Sha Aes

/-- A row of bytes that may be written, its mark behind it. -/
def rowF (w : World) (g : Nat) (l : List UInt8) : Prop := (∀ j, j < l.length → w.cell? ⟨g, j, none⟩ = some (.int .u8 (V (l.getD j 0)))) ∧ (∀ j, j < l.length → w.frozen? ⟨g, j, none⟩ = false)
theorem rowF.set {w : World} {g : Nat} {l : List UInt8} (h : rowF w g l) (i : Nat) (hi : i < l.length) (x : UInt8) : rowF (w.setCell ⟨g, i, none⟩ (.int .u8 (V x))) g (l.set i x) := by
  refine ⟨fun j hj => ?_, fun j hj => ?_⟩
  · rw [List.length_set] at hj
    by_cases e : i = j
    · subst e
      rw [World.cell?_setCell_same (h := h.1 i hi)]
      simp [hi]
    · rw [cell_past (h.1 j hj) i _ (fun he => e he.symm)]
      rw [List.getD_eq_getElem?_getD, List.getD_eq_getElem?_getD, List.getElem?_set, if_neg e]
  · rw [List.length_set] at hj
    rw [World.frozen?_setCell]
    exact h.2 j hj
theorem rowF.bytes {w : World} {g : Nat} {l : List UInt8} (h : rowF w g l) : bytesIn w (some ⟨g, 0, none⟩) l := Or.inr ⟨_, _, rfl, fun j hj => by rw [Nat.zero_add]; exact h.1 j hj⟩
theorem rowF.conv (w : World) (l : List UInt8) : rowF (Lib.bytesWorld w 5 (str l)) w.heap.size l := by
  have hs := str_size l
  refine ⟨fun j hj => ?_, fun j hj => ?_⟩
  · rw [Lib.bytesWorld_cell w 5 (str l) j (by omega)]
    rfl
  · have hn := Lib.bytesWorld_at_new w 5 (str l)
    have hsz : l.length ≤ (Lib.bytesCells w 5 (str l)).size := by
      simp only [Lib.bytesCells, Array.size_append, Array.size_map, Array.size_replicate]
      have : (str l).data.size = l.length := by simp [str]
      omega
    simp only [World.frozen?, hn, Bool.and_eq_false_iff, decide_eq_false_iff_not]
    left
    omega
theorem conv_below (w : World) (l : List UInt8) : Below w.heap.size w (Lib.bytesWorld w 5 (str l)) :=
  ⟨rfl, rfl, rfl, by rw [Lib.bytesWorld_size]; omega, fun k hk => Lib.bytesWorld_at_old w 5 (str l) k hk⟩

set_option maxRecDepth 100000 in
set_option maxHeartbeats 4000000 in
theorem refPlus_any (N : List UInt8) (n : Nat) (w : World) (hN : N.length = 16) (hn : n ≤ 36028797018963968) :
    Calls Try.prog 23 #[.string (str N), .int .i64 n] w fun e w' => e = .returned (.string (str (plus N n))) ∧ Below w.heap.size w w' := by
  have HNL := Lib.hid hN
  have hs := str_size N
  have hcv := Lib.run_convert_string_bytes (P := Try.prog) w 9 28 5 (str N) Try.underlying9 Try.underlying28 Try.underlying5
  rw [hs, hN] at hcv
  have R1 := Lib.hid (rowF.conv w N)
  have B1 := Lib.hid (conv_below w N)
  clear hs hN
  go_enter Try.func23, Try.ntmps23
  go_upto_region 2 with fail
  generalize Lib.bytesWorld w 5 (str N) = w1 at *
  generalize grownCap w 16 0 5 = cap at *
  clear hcv
  go_wp2_with fail
  go_loopw [6, 1] (fun i c wr => ∃ k : Nat, k ≤ 16 ∧ i = .int .i64 (15 - (k : Int)) ∧ c = .int .i64 ((addSt N n k).1 : Nat) ∧ rowF wr w.heap.size (addSt N n k).2 ∧ Below w.heap.size w wr) (fun i _ _ => (intOf i + 1).toNat)
  case atStart => exact ⟨0, by omega, rfl, rfl, R1.out, B1.out⟩
  case round =>
    obtain ⟨k, hk, rfl, rfl, h1, h2⟩ := hrel
    have H1 := Lib.hid h1
    have H2 := Lib.hid h2
    clear h1 h2
    have HLN : Hid ((addSt N n k).2.length = 16) := Lib.hid (by rw [addSt_len, HNL.out])
    have HLE := Lib.hid (addSt_le N n k)
    by_cases hlt : k < 16 ∧ 0 < (addSt N n k).1
    · obtain ⟨hlt, hc0⟩ := hlt
      have p0 : 0 ≤ 15 - (k : Int) := by omega
      have p1 : 15 - (k : Int) < 16 := by omega
      have p2 : (15 - (k : Int)).toNat = 15 - k := by omega
      have HS : Hid (addSt N n (k + 1) = (((addSt N n k).1 + ((addSt N n k).2.getD (15 - k) 0).toNat) / 256, (addSt N n k).2.set (15 - k) (UInt8.ofNat ((addSt N n k).1 + ((addSt N n k).2.getD (15 - k) 0).toNat)))) := Lib.hid rfl
      generalize (addSt N n k).1 = c at *
      generalize (addSt N n k).2 = l at *
      obtain ⟨b, hb⟩ : ∃ b, b = l.getD (15 - k) 0 := ⟨_, rfl⟩
      have d1 : wr.cell? ⟨w.heap.size, 15 - k, none⟩ = some (.int .u8 (V b)) := by rw [H1.out.1 (15 - k) (by rw [HLN.out]; omega), hb]
      have d2 : wr.frozen? ⟨w.heap.size, 15 - k, none⟩ = false := H1.out.2 (15 - k) (by rw [HLN.out]; omega)
      rw [← hb] at HS
      clear hb
      have b0 := b.toNat_lt
      have le := HLE.out
      have q0 : (0 : Int) < (c : Int) := by omega
      obtain ⟨s, hs⟩ : ∃ s, s = c + b.toNat := ⟨_, rfl⟩
      have v1 : IntKind.i64.wrap (V b) = V b := IntWalk.i64_in _ (by unfold V; omega)
      have v2 : IntKind.i64.wrap ((c : Int) + V b) = (s : Int) := by rw [IntWalk.i64_in _ (by unfold V; omega)]; unfold V; omega
      have s0 : (0 : Int) ≤ (s : Int) := by omega
      have v3 : IntKind.u8.wrap ((s : Int) % 256) = V (UInt8.ofNat s) := by rw [IntKind.wrap_u8', V_ofNat]; omega
      have v4 : IntKind.i64.wrap ((s : Int) / 256) = (s : Int) / 256 := IntWalk.i64_in _ (by omega)
      have v5 : IntKind.i64.wrap (15 - (k : Int) - 1) = 15 - (k : Int) - 1 := IntWalk.i64_in _ (by omega)
      rw [← hs] at HS
      clear hs b0 le hc0
      generalize UInt8.ofNat s = y at *
      have N1 := Lib.hid (H1.out.set (15 - k) (by rw [HLN.out]; omega) y)
      go_wp2_with fail
      go_roundw
      case rel => exact ⟨k + 1, by omega, by go_num, by rw [HS.out]; simp, by rw [HS.out]; exact N1.out, H2.out.setCell (Nat.le_refl _) _⟩
      case measure => simp [intOf]; omega
    · have HP : Hid (plus N n = (addSt N n k).2) := Lib.hid (by
        by_cases h16 : k = 16
        · subst h16; rfl
        · exact addSt_still N n HNL.out k hk (by omega))
      have cv := conv_string wr (some ⟨w.heap.size, 0, none⟩) (addSt N n k).2 cap H1.out.bytes
      rw [HLN.out, ← HP.out] at cv
      by_cases h16 : k < 16
      · have p0 : 0 ≤ 15 - (k : Int) := by omega
        have e0 : (addSt N n k).1 = 0 := by omega
        rw [e0]
        go_wp2_with fail
        go_ret
        exact ⟨rfl, H2.out⟩
      · obtain rfl : k = 16 := by omega
        go_wp2_with fail
        go_ret
        exact ⟨rfl, H2.out⟩
end Go.Proofs.Ytklbbeilbpcnoaa
