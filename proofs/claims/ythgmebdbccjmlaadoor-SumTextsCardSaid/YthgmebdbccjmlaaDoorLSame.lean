/- The law SumSame: its walk. -/
import Derived.Test.YthgmebdbccjmlaaDoorSame
import Derived.Deep.RegionLaw
import Derived.Deep.RegionHeld3
namespace Go.Proofs.YthgmebdbccjmlaaDoor
open Go.RowKit Sha

/-- Bytes as a string. -/
def str (l : List UInt8) : ByteArray := ⟨l.toArray⟩
theorem str_inj {a b : List UInt8} (h : str a = str b) : a = b := by
  unfold str at h
  simpa using h
theorem str_beq (f L : List UInt8) : ((str f).toList == (str L).toList) = (L == f) := by
  have h : ∀ l, (str l).toList = l := fun l => by rw [ByteArray.toList_eq]; rfl
  rw [h, h, Bool.eq_iff_iff, beq_iff_eq, beq_iff_eq]
  exact ⟨Eq.symm, Eq.symm⟩
theorem bytesIn.below {w w' : World} {a : Option Addr} {l : List UInt8} (h : bytesIn w a l) (hb : Below w.heap.size w w') : bytesIn w' a l := by
  rcases h with h | ⟨bb, bo, h1, h3⟩
  · exact Or.inl h
  · exact Or.inr ⟨bb, bo, h1, fun j hj => (hb.cell (p := ⟨bb, bo + j, none⟩) (block_lt_of_cell (h3 j hj))).trans (h3 j hj)⟩
theorem partsIn.below {w w' : World} {a : Option Addr} {ls : List (List UInt8)} (h : partsIn w a ls) (hb : Below w.heap.size w w') : partsIn w' a ls := by
  rcases h with h | ⟨pb, po, h1, h3⟩
  · exact Or.inl h
  · refine Or.inr ⟨pb, po, h1, fun j hj => ?_⟩
    obtain ⟨aj, cj, g1, g2, g3, g4⟩ := h3 j hj
    exact ⟨aj, cj, (hb.cell (p := ⟨pb, po + j, none⟩) (block_lt_of_cell g1)).trans g1, g2, g3, g4.below hb⟩
theorem conv_string (w : World) (a : Option Addr) (l : List UInt8) (c : Nat) (h : bytesIn w a l) : (convert 22 9 (.slice a l.length c)).run Tryd.prog w = .ok (.string (str l)) w := by
  cases a with
  | none =>
    rcases h with rfl | ⟨_, _, h, _⟩
    · rw [run_convert_bytes_nil w 22 5 Tryd.underlying22 Tryd.underlying5 _ _ 9 Tryd.underlying9]
      rfl
    · cases h
  | some ad =>
    rw [run_convert_bytes_string w 22 9 5 _ _ _ Tryd.underlying22 Tryd.underlying5 Tryd.underlying9]
    have hl : (loadCells ad l.length).run Tryd.prog w = .ok ((l.map fun b => (V b)).map (Value.int .u8)).toArray w := by
      have := run_loadCells_list (P := Tryd.prog) w ad ((l.map fun b => (V b)).map (Value.int .u8)) (fun j v hj => by
        rcases h with rfl | ⟨bb, bo, h1, h2⟩
        · simp at hj
        · cases h1
          have hjl : j < l.length := by
            have := (List.getElem?_eq_some_iff.1 hj).1
            simpa using this
          rw [Addr.add_lit, h2 j hjl, ← hj]
          simp [hjl])
      simpa using this
    rw [run_bytesToString w ad l.length c (l.map fun b => (V b)) hl, foldl_push_bytes]
    congr 2
    unfold str
    simp only [V, ByteArray.empty, ByteArray.emptyWithCapacity, List.map_map]
    have e : ((fun n : Int => UInt8.ofNat n.toNat) ∘ fun b : UInt8 => (b.toNat : Int)) = id := by funext b; simp
    rw [e]
    simp
    rfl

theorem partsIn.take {w : World} {a : Option Addr} {ls : List (List UInt8)} (h : partsIn w a ls) (n : Nat) : partsIn w a (ls.take n) := by
  rcases h with rfl | ⟨pb, po, h1, h2⟩
  · left; simp
  · right
    refine ⟨pb, po, h1, fun j hj => ?_⟩
    rw [List.length_take] at hj
    have := h2 j (by omega)
    rwa [show (ls.take n).getD j [] = ls.getD j [] from getD_take _ _ _ _ (by omega)]
theorem bytesIn.take {w : World} {a : Option Addr} {l : List UInt8} (h : bytesIn w a l) (n : Nat) : bytesIn w a (l.take n) := by
  rcases h with rfl | ⟨pb, po, h1, h2⟩
  · left; simp
  · right
    refine ⟨pb, po, h1, fun j hj => ?_⟩
    rw [List.length_take] at hj
    rw [h2 j (by omega), getD_take _ _ _ _ (by omega)]

set_option maxRecDepth 100000 in
set_option maxHeartbeats 2000000 in
theorem law_same (a a2 : Option Addr) (c c2 : Nat) (F : List UInt8) (LS : List (List UInt8)) (w : World) (hf : F.length ≤ c) (hc : c ≤ 9223372036854775807) (hl : LS.length ≤ c2) (hc2 : c2 ≤ 9223372036854775807) (hfin : bytesIn w a F) (hp : partsIn w a2 LS) (ht : tables w) :
    Calls Tryd.prog 6 #[.slice a F.length c, .slice a2 LS.length c2] w fun e w' => e = .returned (.bool true) ∧ Below w.heap.size w w' := by
  have HP := Lib.hid hp
  have HF := Lib.hid hfin
  have HT := Lib.hid ht
  clear hp hfin ht
  go_enter Tryd.func6, Tryd.ntmps6
  go_wp2_with fail
  go_quiet (first | (go_at_call 10; exact Calls.quiet_of_same ((bytes_any _ _ _ _ (by omega) (by omega)).mono fun _ _ h => ⟨h.1, h.2.symm⟩)))
  have e1 : min F.length 3000 = (F.take 3000).length := by rw [List.length_take]; omega
  have e2 : (if 9 < (LS.length : Int) then 9 else (LS.length : Int)).toNat = (LS.take 9).length := by rw [List.length_take]; split <;> omega
  have e3 : (F.take 3000).length ≤ c := by rw [List.length_take]; omega
  have e4 : (LS.take 9).length ≤ 9 := by rw [List.length_take]; omega
  have HP := Lib.hid (HP.out.take 9)
  have HF := Lib.hid (HF.out.take 3000)
  rw [e1, e2]
  clear e1 e2
  generalize (if 9 < (LS.length : Int) then 9 else (LS.length : Int)) = z at *
  generalize F.take 3000 = f at *
  generalize LS.take 9 = ls at *
  obtain ⟨w1, hw1⟩ : ∃ w1, w1 = w.drewN nq := ⟨_, rfl⟩
  have P1 : Hid (partsIn w1 a2 ls) := Lib.hid (by rw [hw1]; exact HP.out)
  have P2 : Hid (bytesIn w1 a f) := Lib.hid (by rw [hw1]; exact HF.out)
  have P3 : Hid (tables w1) := Lib.hid (by rw [hw1]; exact HT.out)
  have P4 : Hid (Below w.heap.size w w1) := Lib.hid (by rw [hw1]; exact ⟨rfl, rfl, rfl, Nat.le_refl _, fun _ _ => rfl⟩)
  have P5 : Hid (w1.heap.size = w.heap.size) := Lib.hid (by rw [hw1]; rfl)
  rw [← hw1]
  clear hw1 HP HF HT
  go_wp2_with fail
  go_loopw [6, 5] (fun i b wr => ∃ k : Nat, k ≤ ls.length ∧ i = .int .i64 k ∧ b = .bool ((ls.take k).all fun l => l == f) ∧ ∃ q, wr = w1.drewN q) (fun i _ _ => ls.length - (intOf i).toNat)
  case atStart => exact ⟨0, by omega, rfl, rfl, 0, rfl⟩
  case round =>
    obtain ⟨k, hk, rfl, rfl, q, rfl⟩ := hrel
    by_cases hlt : k < ls.length
    · rcases P1.out with h0 | ⟨pb, po, rfl, hpp⟩
      · simp [h0] at hlt
      obtain ⟨aj, cj, cc, hlc, hcc, hin⟩ := hpp k hlt
      have k1 : ∀ x, (convert 22 9 (.slice aj (ls.getD k []).length cj)).run Tryd.prog (w1.drewN x) = .ok (.string (str (ls.getD k []))) (w1.drewN x) := fun x => conv_string _ _ _ _ hin
      have k2 : ∀ x, (convert 22 9 (.slice a f.length c)).run Tryd.prog (w1.drewN x) = .ok (.string (str f)) (w1.drewN x) := fun x => conv_string _ _ _ _ P2.out
      have HT1 : Hid ((ls.take (k + 1)).all (fun l => l == f) = ((ls.take k).all (fun l => l == f) && (ls.getD k [] == f))) := Lib.hid (by
        rw [List.take_succ_eq_append_getElem hlt, List.all_append]
        simp [hlt])
      clear hpp hin
      generalize ls.getD k [] = L at *
      generalize (ls.take k).all (fun l => l == f) = B at *
      have p : 0 ≤ (k : Int) := by omega
      have q1 : (k : Int) < (ls.length : Int) := by omega
      cases B
      · go_wp2_with fail
        go_quiet (fail)
        go_wp2_with fail
        go_roundw
        case rel => exact ⟨k + 1, by omega, by go_num, by rw [HT1.out]; rfl, _, rfl⟩
        case measure => simp [intOf]; omega
      · go_wp2_with fail
        go_quiet (fail)
        go_wp2_with fail
        go_roundw
        case rel => exact ⟨k + 1, by omega, by go_num, by rw [HT1.out, str_beq, Bool.true_and], _, rfl⟩
        case measure => simp [intOf]; omega
    · obtain rfl : k = ls.length := by omega
      rw [List.take_length]
      generalize hB : ls.all (fun l => l == f) = B
      have HB := Lib.hid hB
      clear hB hlt hk
      obtain ⟨w2, hw2⟩ : ∃ w2, w2 = w1.drewN q := ⟨_, rfl⟩
      have Q1 : Hid (partsIn w2 a2 ls) := Lib.hid (by rw [hw2]; exact P1.out)
      have Q2 : Hid (bytesIn w2 a f) := Lib.hid (by rw [hw2]; exact P2.out)
      have Q3 : Hid (tables w2) := Lib.hid (by rw [hw2]; exact P3.out)
      have Q4 : Hid (Below w.heap.size w w2) := Lib.hid (by rw [hw2]; exact ⟨P4.out.os, P4.out.tape, P4.out.output, P4.out.size, P4.out.block⟩)
      have Q5 : Hid (w2.heap.size = w.heap.size) := Lib.hid (by rw [hw2]; exact P5.out)
      rw [← hw2]
      clear hw2 P1 P2 P3 P4 P5
      go_wp2_with fail
      refine (sums_any w2 Q3.out).mono ?_
      rintro e w3 ⟨rfl, h1⟩
      have R1 : Hid (partsIn w3 a2 ls) := Lib.hid (Q1.out.below h1)
      have R2 : Hid (bytesIn w3 a f) := Lib.hid (Q2.out.below h1)
      have R4 : Hid (Below w.heap.size w w3) := Lib.hid (Q4.out.trans (h1.mono (by have := Q5.out; omega)))
      clear h1 Q1 Q2 Q3 Q4 Q5
      go_wp2_with fail
      refine (same_any a a2 c c2 f ls w3 e3 hc R2.out (by omega) R1.out).mono ?_
      rw [HB.out]
      rintro e w4 ⟨rfl, rfl⟩
      have eb : (B == B) = true := by simp
      go_wp2_with fail
      refine (same_any a none c 0 f [] w3 e3 hc R2.out (by decide) (Or.inl rfl)).mono ?_
      rintro e w4 ⟨rfl, rfl⟩
      go_wp2_with fail
      have hb2 : blockIs (w3.alloc (.cells #[.slice a f.length c, .slice a f.length c] 22 (0, 0))) w3.heap.size [.slice a f.length c, .slice a f.length c] 22 := blockIs.new w3 [.slice a f.length c, .slice a f.length c] 22
      have hbw : Below w3.heap.size w3 (w3.alloc (.cells #[.slice a f.length c, .slice a f.length c] 22 (0, 0))) := (Below.refl _ _).alloc (Nat.le_refl _) _
      have R6 := R2.out.below hbw
      have hp2 : partsIn (w3.alloc (.cells #[.slice a f.length c, .slice a f.length c] 22 (0, 0))) (some ⟨w3.heap.size, 0, none⟩) [f, f] := by
        refine Or.inr ⟨_, _, rfl, fun j hj => ?_⟩
        match j, hj with
        | 0, _ => exact ⟨a, c, by rw [hb2.cell]; rfl, e3, hc, R6⟩
        | 1, _ => exact ⟨a, c, by rw [hb2.cell]; rfl, e3, hc, R6⟩
      refine (same_any a (some ⟨w3.heap.size, 0, none⟩) c 2 f [f, f] _ e3 hc R6 (by simp) hp2).mono ?_
      have hff : ([f, f].all fun l => l == f) = true := by simp
      rw [hff]
      rintro e w4 ⟨rfl, rfl⟩
      clear hb2 hbw R6 hp2 hff
      go_wp2_with fail
      go_ret
      exact ⟨rfl, R4.out.alloc R4.out.size _⟩
end Go.Proofs.YthgmebdbccjmlaaDoor
