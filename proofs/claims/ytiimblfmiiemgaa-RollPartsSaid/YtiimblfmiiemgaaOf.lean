/- The contract of Of. -/
import Derived.Test.YtiimblfmiiemgaaOn
namespace Go.Proofs.Ytiimblfmiiemgaa
open Go.RowKit

/-- A slice's cells hold these bytes. -/
def bytesIn (w : World) (a : Option Addr) (l : List UInt8) : Prop := l = [] ∨ ∃ b o, a = some ⟨b, o, none⟩ ∧ ∀ j, j < l.length → w.cell? ⟨b, o + j, none⟩ = some (.int .u8 (V (l.getD j 0)))
theorem bytesIn.below {w w' : World} {a : Option Addr} {l : List UInt8} (h : bytesIn w a l) {B : Nat} (hb : Below B w w') (hB : w.heap.size ≤ B) : bytesIn w' a l := by
  rcases h with h | ⟨bb, bo, h1, h3⟩
  · exact Or.inl h
  · exact Or.inr ⟨bb, bo, h1, fun j hj => (hb.cell (p := ⟨bb, bo + j, none⟩) (Nat.lt_of_lt_of_le (block_lt_of_cell (h3 j hj)) hB)).trans (h3 j hj)⟩
/-- The sum of bytes. -/
def ofW (m : W) (l : List UInt8) : W := l.foldl (onW m) 0
theorem ofW_take (m : W) (l : List UInt8) (k : Nat) (h : k < l.length) : ofW m (l.take (k + 1)) = onW m (ofW m (l.take k)) (l.getD k 0) := by
  unfold ofW
  rw [List.take_succ_eq_append_getElem h, List.foldl_append]
  simp [h]

theorem range_below {w w' : World} {g o : Nat} {cs : List Value} {B : Nat} (h : w.rangeAt g o cs) (hb : Below B w w') (hg : g < B) : w'.rangeAt g o cs := by
  intro j v hj
  rw [hb.cell (p := ⟨g, o + j, none⟩) hg]
  exact h j v hj
theorem of_bad (m : W) (a : Option Addr) (n c : Nat) (w : World) (hm : ¬ 8 ≤ dgw m) :
    Calls Try.prog 9 #[.int .u64 (U m), .slice a n c] w fun e w' => e = .returned (.tuple #[.int .u64 0, .int .i64 1]) ∧ w = w' := by
  have t1 : decide (8 ≤ dgw m) = false := by simpa using hm
  clear hm
  go_enter Try.func9, Try.ntmps9
  go_wp2_with ((with_reducible refine (fits_any _ _).mono ?_); rintro e w' ⟨rfl, rfl⟩)
  go_ret2
  exact ⟨rfl, rfl⟩
set_option maxRecDepth 100000 in
set_option maxHeartbeats 1000000 in
theorem of_any (m : W) (a : Option Addr) (l : List UInt8) (c : Nat) (w : World) (hm : 8 ≤ dgw m) (hl : l.length ≤ c) (hc : l.length ≤ 1000000) (h : bytesIn w a l) :
    Calls Try.prog 9 #[.int .u64 (U m), .slice a l.length c] w fun e w' => e = .returned (.tuple #[.int .u64 (U (ofW m l)), .int .i64 0]) ∧ Below w.heap.size w w' := by
  have t1 : decide (8 ≤ dgw m) = true := by simpa using hm
  have HM := Lib.hid hm
  have H := Lib.hid h
  have hz := zero_mod
  clear hm h
  go_enter Try.func9, Try.ntmps9
  go_wp2_with ((with_reducible refine (fits_any _ _).mono ?_); rintro e w' ⟨rfl, rfl⟩)
  refine (ready_any m w HM.out).mono ?_
  rintro e w1 ⟨rfl, hb⟩
  have HS := Lib.hid hb.size
  have HB := Lib.hid (hb.alloc hb.size (.cells noMod.toArray 53 (0, 0)))
  have HL := Lib.hid (modCells_length m)
  have HO := Lib.hid (modCells_one m)
  generalize hD : modCells m = D at *
  have HD := Lib.hid hD
  have hne := noMod_ne
  clear hb hD
  go_wp2_with (refine wpList_store_block rfl 53 _ _ rfl w1.heap.size 0 D rfl rfl noMod 53 (blockIs.new w1 _ _) (by rw [info_mod, HL.out]) (by rw [HL.out, noMod_length]; decide) HO.out ?_)
  intro w2 h1 h2 h3
  have h1 := h1.out
  rw [splice_all _ _ (by rw [HL.out, noMod_length])] at h1
  have R2 : Hid (w2.rangeAt w1.heap.size 0 (modCells m)) := Lib.hid (by
    rw [HD.out]
    exact rangeAt_block (p := []) (q := []) (by simpa using h1))
  have B2 := Lib.hid (HB.out.trans (h2.out.below HS.out HB.out.size))
  have G2 := Lib.hid h1.lt
  clear h1 h2 h3 hz hne
  generalize w1.heap.size = g at *
  go_wp2_with fail
  go_loopw [7, 9, 17] (fun s _ i wr => ∃ k : Nat, k ≤ l.length ∧ i = .int .i64 k ∧ s = .int .u64 (U (ofW m (l.take k))) ∧ Hid (wr.rangeAt g 0 (modCells m)) ∧ Hid (Below w.heap.size w wr) ∧ Hid (g < wr.heap.size)) (fun _ _ i _ => l.length - (intOf i).toNat)
  case atStart => exact ⟨0, Nat.zero_le _, rfl, rfl, R2, B2, G2⟩
  case round =>
    obtain ⟨k, hk, rfl, rfl, K1, K2, K3⟩ := hrel
    have p0 : 0 ≤ (k : Int) := by omega
    by_cases hlt : k < l.length
    · have q0 : (k : Int) < (l.length : Int) := by omega
      have HT := Lib.hid (ofW_take m l k hlt)
      rcases (H.out.below K2.out (Nat.le_refl _)) with h0 | ⟨b, o, rfl, hcell⟩
      · rw [h0] at hlt; simp at hlt
      have d := hcell k hlt
      clear hcell
      generalize l.getD k 0 = x at *
      generalize ofW m (l.take k) = s at *
      go_wp2_with fail
      refine (on_any m s x g 0 _ HM.out K1.out).mono ?_
      rintro e w3 ⟨rfl, hb⟩
      have L1 := Lib.hid (range_below K1.out hb K3.out)
      have L2 := Lib.hid (K2.out.trans (hb.mono K2.out.size))
      have L3 := Lib.hid (Nat.lt_of_lt_of_le K3.out hb.size)
      clear hb d
      go_wp2_with fail
      go_roundw
      case rel => exact ⟨k + 1, by omega, by go_num, by rw [HT.out], L1, L2, L3⟩
      case measure => simp [intOf]; omega
    · obtain rfl : k = l.length := by omega
      rw [List.take_length]
      go_wp2_with fail
      go_ret2
      exact ⟨rfl, K2.out⟩
end Go.Proofs.Ytiimblfmiiemgaa
