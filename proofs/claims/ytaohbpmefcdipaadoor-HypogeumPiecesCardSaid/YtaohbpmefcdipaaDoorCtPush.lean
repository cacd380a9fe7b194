/- The contracts of Push, Sum and Clear. -/
import Derived.Test.YtaohbpmefcdipaaDoorCtNew
import Derived.Deep.RegionHeld3
namespace Go.Proofs.YtaohbpmefcdipaaDoor.Ct
open Go.RowKit

set_option maxRecDepth 100000 in
theorem push_none (a : Option Addr) (n c : Nat) (w : World) : Calls Tryd.prog 54 #[.pointer none, .slice a n c] w fun e w' => e = .returned (.int .u64 0) ∧ w = w' := by
  go_enter Tryd.func54, Tryd.ntmps54
  go_wp2_with fail
  go_ret
  exact ⟨rfl, rfl⟩
set_option maxRecDepth 100000 in
theorem clear_none (w : World) : Calls Tryd.prog 48 #[.pointer none] w fun e w' => e = .returned (.tuple #[]) ∧ w = w' := by
  go_enter Tryd.func48, Tryd.ntmps48
  go_wp2_with fail
  (try simp only [Exit.inBlock, Exit.then])
  refine bodyPost_ret (results_none rfl _ _ _) rfl ?_
  exact ⟨rfl, rfl⟩
theorem tail_cell {m lead : W} {wb n at_ : Nat} {s : W} {j : Nat} {v : Value} (h : (rollTail wb n at_ s)[j]? = some v) : (rollCells m lead wb n at_ s)[513 + j]? = some v := by
  unfold rollCells
  rw [List.getElem?_append_right (by rw [modCells_length]; omega), modCells_length, List.getElem?_append_right (by rw [cellsW_length]; omega), cellsW_length, ← h]
  rw [show 513 + j - 257 - 256 = j by omega]
theorem RollAt.cwin {w : World} {g b : Nat} {m : W} {L : List UInt8} {lead : W} {at_ : Nat} {ring : List UInt8} (h : RollAt w g b m L lead at_ ring) : w.cell? ⟨g, 513, none⟩ = some (.slice (some ⟨b, 0, none⟩) L.length L.length) := by rw [h.cells.cell]; exact tail_cell (j := 0) rfl
theorem RollAt.cat {w : World} {g b : Nat} {m : W} {L : List UInt8} {lead : W} {at_ : Nat} {ring : List UInt8} (h : RollAt w g b m L lead at_ ring) : w.cell? ⟨g, 514, none⟩ = some (.int .i64 (at_ : Int)) := by rw [h.cells.cell]; exact tail_cell (j := 1) rfl
theorem RollAt.csum {w : World} {g b : Nat} {m : W} {L : List UInt8} {lead : W} {at_ : Nat} {ring : List UInt8} (h : RollAt w g b m L lead at_ ring) : w.cell? ⟨g, 515, none⟩ = some (.int .u64 (U (ofW m L))) := by rw [h.cells.cell]; exact tail_cell (j := 2) rfl
theorem RollAt.celd {w : World} {g b : Nat} {m : W} {L : List UInt8} {lead : W} {at_ : Nat} {ring : List UInt8} (h : RollAt w g b m L lead at_ ring) (i : Nat) (hi : i < 256) : w.cell? ⟨g, 257 + i, none⟩ = some (.int .u64 (U (tab lead m i))) := by
  rw [h.cells.cell]
  unfold rollCells
  rw [List.getElem?_append_right (by rw [modCells_length]; omega), modCells_length, List.getElem?_append_left (by rw [cellsW_length]; omega), show 257 + i - 257 = i by omega, cellsW_get _ _ _ hi]
theorem RollAt.cring {w : World} {g b : Nat} {m : W} {L : List UInt8} {lead : W} {at_ : Nat} {ring : List UInt8} (h : RollAt w g b m L lead at_ ring) : w.cell? ⟨b, at_, none⟩ = some (.int .u8 (V (L.headD 0))) := by
  rw [h.bytes.cell, h.win, ring_head _ _ h.lt]
  have := h.lt
  simp [bvals, this]
theorem RollAt.below {w w' : World} {g b : Nat} {m : W} {L : List UInt8} {lead : W} {at_ : Nat} {ring : List UInt8} (h : RollAt w g b m L lead at_ ring) (hb : Below w.heap.size w w') : RollAt w' g b m L lead at_ ring :=
  ⟨h.hm, h.ne, h.cells.below hb h.cells.lt, h.bytes.below hb h.bytes.lt, h.len, h.lt, h.win, h.lead_, h.short⟩
theorem RollAt.range {w : World} {g b : Nat} {m : W} {L : List UInt8} {lead : W} {at_ : Nat} {ring : List UInt8} (h : RollAt w g b m L lead at_ ring) : w.rangeAt g 0 (modCells m) :=
  rangeAt_block (p := []) (q := cellsW (tab lead m) 256 ++ rollTail b L.length at_ (ofW m L)) h.cells
theorem roll_cell {w : World} {g : Nat} {m lead : W} {wb n at_ : Nat} {s : W} (h : blockIs w g (rollCells m lead wb n at_ s) 111) :
    w.cell? ⟨g, 513, none⟩ = some (.slice (some ⟨wb, 0, none⟩) n n) ∧ w.cell? ⟨g, 514, none⟩ = some (.int .i64 (at_ : Int)) ∧ w.cell? ⟨g, 515, none⟩ = some (.int .u64 (U s)) :=
  ⟨by rw [h.cell]; exact tail_cell (j := 0) rfl, by rw [h.cell]; exact tail_cell (j := 1) rfl, by rw [h.cell]; exact tail_cell (j := 2) rfl⟩
theorem roll_set {m lead : W} {wb n at_ : Nat} {s : W} (j : Nat) (v : Value) : (rollCells m lead wb n at_ s).set (513 + j) v = modCells m ++ (cellsW (tab lead m) 256 ++ (rollTail wb n at_ s).set j v) := by
  unfold rollCells
  rw [List.set_append_right _ _ (by rw [modCells_length]; omega), modCells_length, List.set_append_right _ _ (by rw [cellsW_length]; omega), cellsW_length, show 513 + j - 257 - 256 = j by omega]
theorem roll_set_sum {w : World} {g : Nat} {m lead : W} {wb n at_ : Nat} {s : W} (h : blockIs w g (rollCells m lead wb n at_ s) 111) (s' : W) :
    blockIs (w.setCell ⟨g, 515, none⟩ (.int .u64 (U s'))) g (rollCells m lead wb n at_ s') 111 := by
  have := h.set (513 + 2) (.int .u64 (U s'))
  rw [roll_set] at this
  exact this
theorem roll_set_at {w : World} {g : Nat} {m lead : W} {wb n at_ : Nat} {s : W} (h : blockIs w g (rollCells m lead wb n at_ s) 111) (p : Nat) :
    blockIs (w.setCell ⟨g, 514, none⟩ (.int .i64 (p : Int))) g (rollCells m lead wb n p s) 111 := by
  have := h.set (513 + 1) (.int .i64 (p : Int))
  rw [roll_set] at this
  exact this
theorem ring_set {w : World} {b : Nat} {ring : List UInt8} (h : blockIs w b (bvals ring) 5) (p : Nat) (x : UInt8) : blockIs (w.setCell ⟨b, p, none⟩ (.int .u8 (V x))) b (bvals (ring.set p x)) 5 := by
  have := h.set p (.int .u8 (V x))
  unfold bvals at this ⊢
  rwa [List.map_set]
set_option maxRecDepth 100000 in
set_option maxHeartbeats 4000000 in
theorem push_any (g b : Nat) (m : W) (L : List UInt8) (a : Option Addr) (l : List UInt8) (c : Nat) (w : World) (h : rollIs w g b m L) (_ : l.length ≤ c) (hc : l.length ≤ 1000000) (hb : bytesOff w g b a l) :
    Calls Tryd.prog 54 #[.pointer (some ⟨g, 0, none⟩), .slice a l.length c] w fun e w' => e = .returned (.int .u64 (U (ofW m (slides L l)))) ∧ rollIs w' g b m (slides L l) ∧ But2 g b w w' := by
  have HR := Lib.hid h
  have HB := Lib.hid hb
  obtain ⟨lead, at_, ring, hr⟩ := h
  have c0 := hr.cwin
  have hLL : (L.length : Int) ≤ 1024 := by have := hr.short; omega
  have hL0 : 0 < (L.length : Int) := by have := hr.lt; have := hr.len; omega
  have hne : ((L.length : Int) == 0) = false := by simp; intro h; simp [h] at hL0
  clear hr hb
  go_enter Tryd.func54, Tryd.ntmps54
  go_wp2_with fail
  go_loopw [20] (fun i wr => ∃ k : Nat, k ≤ l.length ∧ i = .int .i64 k ∧ Hid (rollIs wr g b m (slides L (l.take k))) ∧ Hid (But2 g b w wr)) (fun i _ => l.length - (intOf i).toNat)
  case atStart => exact ⟨0, Nat.zero_le _, rfl, HR, Lib.hid (But2.refl _ _ _)⟩
  case round =>
    obtain ⟨k, hk, rfl, K1, K2⟩ := hrel
    have p0 : 0 ≤ (k : Int) := by omega
    by_cases hlt : k < l.length
    · have q0 : (k : Int) < (l.length : Int) := by omega
      rcases HB.out.but K2.out with h0 | ⟨bb, bo, rfl, hbg, hbb, hcell⟩
      · rw [h0] at hlt; simp at hlt
      have d := hcell k hlt
      clear hcell
      have HT := Lib.hid (slides_take L l k hlt)
      have HSL := Lib.hid (slides_length L (l.take k) (by omega))
      generalize l.getD k 0 = x at *
      generalize slides L (l.take k) = L1 at *
      obtain ⟨ld, p, rg, hr⟩ := K1.out
      have HR1 := Lib.hid hr
      have s0 := hr.cwin
      rw [HSL.out] at s0
      have s1 := hr.cat
      have s2 := hr.csum
      have s3 := hr.cring
      have hy := (L1.headD 0).toNat_lt
      have s4 := hr.celd (L1.headD 0).toNat hy
      have p2 : 0 ≤ (p : Int) := by omega
      have p3 : (p : Int) < (L.length : Int) := by have := hr.lt; have := hr.len; have := HSL.out; omega
      have hvy : V (L1.headD 0) = ((L1.headD 0).toNat : Int) := rfl
      rw [hvy] at s3
      have HRS : Hid (restW m ld L1 = ofW m L1 ^^^ tab ld m (L1.headD 0).toNat) := Lib.hid rfl
      generalize (L1.headD 0).toNat = I at *
      have i1 : 0 ≤ (I : Int) := by omega
      have i2 : (I : Int) < 256 := by omega
      generalize ofW m L1 = S at *
      generalize tab ld m I = T at *
      have f1 := hr.cells.free 514
      have f2 := hr.cells.free 515
      have f3 := hr.bytes.free p
      have HC0 : Hid ((wr.alloc (.cells #[.int .u64 (U S), .int .u64 (U T)] 38 (0, 0))).drew.cell? ⟨wr.heap.size, 0, none⟩ = some (.int .u64 (U S))) := Lib.hid ((World.cell?_alloc_at (w := wr) #[.int .u64 (U S), .int .u64 (U T)] 38 _ 0 rfl).trans rfl)
      have HC1 : Hid ((wr.alloc (.cells #[.int .u64 (U S), .int .u64 (U T)] 38 (0, 0))).drew.cell? ⟨wr.heap.size, 1, none⟩ = some (.int .u64 (U T))) := Lib.hid ((World.cell?_alloc_at (w := wr) #[.int .u64 (U S), .int .u64 (U T)] 38 _ 1 rfl).trans rfl)
      clear hr hy hvy
      go_wp2_with fail
      go_region_held3 (fun w' => w'.cell? ⟨g, 513, none⟩ = some (.slice (some ⟨b, 0, none⟩) L.length L.length) ∧ w'.cell? ⟨g, 514, none⟩ = some (.int .i64 (p : Int)) ∧ w'.cell? ⟨g, 515, none⟩ = some (.int .u64 (U S)) ∧ w'.cell? ⟨b, p, none⟩ = some (.int .u8 (I : Int)) ∧ w'.cell? ⟨g, 257 + I, none⟩ = some (.int .u64 (U T)))
        (go_keep)
        (first | (go_at_call 57; refine (add_mem S T _ _ HC0.out HC1.out).mono ?_; rintro e w' ⟨rfl, rfl⟩))
      have hal : Below wr.heap.size wr (wr.alloc (.cells #[.int .u64 (U S), .int .u64 (U T)] 38 (0, 0))).drew := ((Below.refl wr.heap.size wr).alloc (Nat.le_refl _) _).drew
      have R1 := Lib.hid (HR1.out.below hal)
      have B1 := Lib.hid (K2.out.trans (But2.of_below hal))
      clear hal HC0 HC1 s0 s1 s2 s3 s4 f1 f2 f3 d HR1 K1 K2
      generalize (wr.alloc (.cells #[.int .u64 (U S), .int .u64 (U T)] 38 (0, 0))).drew = w1 at *
      go_wp2_with fail
      refine (on_any m (S ^^^ T) x g 0 _ R1.out.hm R1.out.range).mono ?_
      rintro e w2 ⟨rfl, hb⟩
      have R2 := Lib.hid (R1.out.below hb)
      have B2 := Lib.hid (B1.out.trans (But2.of_below hb))
      have HSS : Hid (onW m (S ^^^ T) x = ofW m (slide L1 x)) := Lib.hid (by rw [← HRS.out]; exact push_val m ld L1 x R1.out.hm (by have := R1.out.lt; have := R1.out.len; omega) R1.out.lead_)
      generalize onW m (S ^^^ T) x = S2 at *
      clear hb R1 B1
      have s5 := R2.out.csum
      have f5 := R2.out.cells.free 515
      have C3 := Lib.hid (roll_set_sum R2.out.cells S2)
      have D3 := Lib.hid (R2.out.bytes.other ⟨g, 515, none⟩ (.int .u64 (U S2)) R2.out.ne)
      have B3 := Lib.hid (B2.out.setCell ⟨g, 515, none⟩ (.int .u64 (U S2)) (Or.inl rfl))
      have c3 := roll_cell C3.out
      rw [HSL.out] at c3
      obtain ⟨s6, s7, -⟩ := c3
      have s8 := D3.out.cell p
      have f8 := D3.out.free p
      have hrp : (bvals rg)[p]? = some (.int .u8 (V (rg.getD p 0))) := by
        have := R2.out.lt
        simp [bvals, this]
      rw [hrp] at s8
      generalize rg.getD p 0 = old at *
      clear hrp
      go_wp2_with fail
      generalize w2.setCell ⟨g, 515, none⟩ (.int .u64 (U S2)) = w3 at *
      go_region_law (fail)
      all_goals
        have C4 : Hid (blockIs (w3.setCell ⟨b, p, none⟩ (.int .u8 (V x))).drew g (rollCells m ld b L1.length p S2) 111) := Lib.hid (C3.out.other ⟨b, p, none⟩ (.int .u8 (V x)) (Ne.symm R2.out.ne))
        have D4 : Hid (blockIs (w3.setCell ⟨b, p, none⟩ (.int .u8 (V x))).drew b (bvals (rg.set p x)) 5) := Lib.hid (ring_set D3.out p x)
        have B4 : Hid (But2 g b w (w3.setCell ⟨b, p, none⟩ (.int .u8 (V x))).drew) := Lib.hid (B3.out.setCell ⟨b, p, none⟩ (.int .u8 (V x)) (Or.inr rfl)).drew
        generalize (w3.setCell ⟨b, p, none⟩ (.int .u8 (V x))).drew = w4 at *
        clear C3 D3 B3 s5 f5 s6 s7 s8 f8
        obtain ⟨s6, s7, -⟩ := roll_cell C4.out
        rw [HSL.out] at s6
        have f7 := C4.out.free 514
        have C5 := Lib.hid (roll_set_at C4.out (p + 1))
        have hpp : ((p + 1 : Nat) : Int) = (p : Int) + 1 := by omega
        rw [hpp] at C5
        have D5 := Lib.hid (D4.out.other ⟨g, 514, none⟩ (.int .i64 ((p : Int) + 1)) R2.out.ne)
        have B5 := Lib.hid (B4.out.setCell ⟨g, 514, none⟩ (.int .i64 ((p : Int) + 1)) (Or.inl rfl))
        have hpw : IntKind.i64.wrap ((p : Int) + 1) = (p : Int) + 1 := by rw [IntKind.wrap_i64]; omega
        obtain ⟨s9, s10, -⟩ := roll_cell C5.out
        rw [HSL.out] at s9
        have f10 := C5.out.free 514
        have hlp : p < rg.length := R2.out.lt
        by_cases hend : p + 1 = L.length
        · have t5 : ((p : Int) + 1 == (L.length : Int)) = true := by simp; omega
          have E1 : Hid (RollAt ((w4.setCell ⟨g, 514, none⟩ (.int .i64 ((p : Int) + 1))).drew.setCell ⟨g, 514, none⟩ (.int .i64 0)) g b m (slide L1 x) ld 0 (rg.set p x)) := Lib.hid (by
            have hsl := slide_length L1 x (by have := HSL.out; omega)
            refine ⟨R2.out.hm, R2.out.ne, ?_, ?_, ?_, ?_, ?_, ?_, ?_⟩
            · rw [hsl, ← HSS.out]
              exact roll_set_at (w := (w4.setCell ⟨g, 514, none⟩ (.int .i64 ((p : Int) + 1))).drew) C5.out 0
            · exact blockIs.other (w := (w4.setCell ⟨g, 514, none⟩ (.int .i64 ((p : Int) + 1))).drew) D5.out ⟨g, 514, none⟩ (.int .i64 0) R2.out.ne
            · rw [hsl, List.length_set]; exact R2.out.len
            · rw [List.length_set]; omega
            · rw [R2.out.win, ring_slide _ _ hlp, if_pos (by have := R2.out.len; have := HSL.out; omega)]; simp
            · rw [hsl]; exact R2.out.lead_
            · rw [hsl]; exact R2.out.short)
          have E2 : Hid (But2 g b w ((w4.setCell ⟨g, 514, none⟩ (.int .i64 ((p : Int) + 1))).drew.setCell ⟨g, 514, none⟩ (.int .i64 0))) := Lib.hid ((But2.drew B5.out).setCell ⟨g, 514, none⟩ (.int .i64 0) (Or.inl rfl))
          go_wp2_with fail
          generalize (w4.setCell ⟨g, 514, none⟩ (.int .i64 ((p : Int) + 1))) = w5 at *
          go_region_law (fail)
          all_goals
            go_wp2_with fail
            go_roundw
            case rel => exact ⟨k + 1, by omega, by go_num, Lib.hid (by rw [HT.out]; exact ⟨ld, 0, _, E1.out⟩), E2⟩
            case measure => simp [intOf]; omega
        · have t5 : ((p : Int) + 1 == (L.length : Int)) = false := by simp; omega
          have E1 : Hid (RollAt (w4.setCell ⟨g, 514, none⟩ (.int .i64 ((p : Int) + 1))).drew g b m (slide L1 x) ld (p + 1) (rg.set p x)) := Lib.hid (by
            have hsl := slide_length L1 x (by have := HSL.out; omega)
            refine ⟨R2.out.hm, R2.out.ne, ?_, ?_, ?_, ?_, ?_, ?_, ?_⟩
            · rw [hsl, ← HSS.out]
              exact C5.out
            · exact D5.out
            · rw [hsl, List.length_set]; exact R2.out.len
            · rw [List.length_set]; have := R2.out.len; have := HSL.out; omega
            · rw [R2.out.win, ring_slide _ _ hlp, if_neg (by have := R2.out.len; have := HSL.out; omega)]
            · rw [hsl]; exact R2.out.lead_
            · rw [hsl]; exact R2.out.short)
          have E2 : Hid (But2 g b w (w4.setCell ⟨g, 514, none⟩ (.int .i64 ((p : Int) + 1))).drew) := Lib.hid (But2.drew B5.out)
          go_wp2_with fail
          generalize (w4.setCell ⟨g, 514, none⟩ (.int .i64 ((p : Int) + 1))) = w5 at *
          go_region_law (fail)
          all_goals
            go_wp2_with fail
            go_roundw
            case rel => exact ⟨k + 1, by omega, by go_num, Lib.hid (by rw [HT.out]; exact ⟨ld, p + 1, _, E1.out⟩), E2⟩
            case measure => simp [intOf]; omega
    · obtain rfl : k = l.length := by omega
      rw [List.take_length] at K1
      obtain ⟨ld, p, rg, hr⟩ := K1.out
      have s2 := hr.csum
      clear hr
      go_wp2_with fail
      go_ret
      exact ⟨rfl, K1.out, K2.out⟩
end Go.Proofs.YtaohbpmefcdipaaDoor.Ct
