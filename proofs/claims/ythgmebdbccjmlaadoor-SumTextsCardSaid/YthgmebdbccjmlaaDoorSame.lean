/- sum.Same and the law's bytes. -/
import Derived.Test.YthgmebdbccjmlaaDoorSums
namespace Go.Proofs.YthgmebdbccjmlaaDoor
open Go.RowKit Sha

theorem or_zero (a b : UInt8) : a ||| b = 0 ↔ a = 0 ∧ b = 0 := by
  rw [← UInt8.toBitVec_inj, ← UInt8.toBitVec_inj, ← UInt8.toBitVec_inj]
  simp
theorem xor_zero (a b : UInt8) : a ^^^ b = 0 ↔ a = b := UInt8.xor_eq_zero_iff

theorem ret_slice {a : Option Addr} {n m c : Nat} (h : n = m) : Ending.returned (.slice a n c) = .returned (.slice a m c) := by rw [h]
set_option maxHeartbeats 1000000 in
theorem bytes_any (a : Option Addr) (n c : Nat) (w : World) (hn : n ≤ c) (hc : c ≤ 9223372036854775807) :
    Calls Tryd.prog 10 #[.slice a n c] w fun e w' => e = .returned (.slice a (min n 3000) c) ∧ w = w' := by
  go_enter Tryd.func10, Tryd.ntmps10
  go_wp2
  · have hlt : 3000 < (n : Int) := by assumption
    go_ret
    exact ⟨ret_slice (by omega), rfl⟩
  · have hle : (n : Int) ≤ 3000 := by assumption
    go_ret
    exact ⟨ret_slice (by omega), rfl⟩

attribute [local go_sem] V_xor V_or
set_option maxHeartbeats 2000000 in
theorem same_any (a a2 : Option Addr) (c c2 : Nat) (f : List UInt8) (ls : List (List UInt8)) (w : World) (hf : f.length ≤ c) (hc : c ≤ 9223372036854775807) (hfin : bytesIn w a f) (hl : ls.length ≤ 1000000) (hp : partsIn w a2 ls) :
    Calls Tryd.prog 20 #[.slice a f.length c, .slice a2 ls.length c2] w fun e w' => e = .returned (.bool (ls.all fun l => l == f)) ∧ w = w' := by
  have HP := Lib.hid hp
  have HF := Lib.hid hfin
  clear hp hfin
  go_enter Tryd.func20, Tryd.ntmps20
  go_wp2_with fail
  go_loop [12, 5] (fun i x => ∃ (k : Nat) (u : UInt8), k ≤ ls.length ∧ i = .int .i64 k ∧ x = .int .u8 (V u) ∧ (u = 0 ↔ ∀ j, j < k → ls.getD j [] = f)) (fun i _ => ls.length - (intOf i).toNat)
  case atStart => exact ⟨0, 0, by omega, rfl, rfl, by simp⟩
  case round =>
    obtain ⟨k, u, hk, rfl, rfl, hu⟩ := hrel
    have HU := Lib.hid hu
    clear hu
    by_cases hlt : k < ls.length
    · rcases HP.out with h0 | ⟨pb, po, rfl, hpp⟩
      · simp [h0] at hlt
      obtain ⟨aj, cj, cc, hlc, hcc, hin⟩ := hpp k hlt
      have HI := Lib.hid hin
      clear hpp hin
      generalize hL : ls.getD k [] = L at *
      have HL := Lib.hid hL
      clear hL
      have p : 0 ≤ (k : Int) := by omega
      have q : (k : Int) < (ls.length : Int) := by omega
      by_cases hlen : L.length = f.length
      · have e : ((L.length : Int) == (f.length : Int)) = true := by simp [hlen]
        have e2 : ((L.length : Int) != (f.length : Int)) = false := by simp [hlen]
        have HLEN := Lib.hid hlen
        clear hlen
        go_wp2_with fail
        go_loop [23, 5] (fun i x => ∃ (k2 : Nat) (u2 : UInt8), k2 ≤ L.length ∧ i = .int .i64 k2 ∧ x = .int .u8 (V u2) ∧ (u2 = 0 ↔ u = 0 ∧ ∀ j, j < k2 → L.getD j 0 = f.getD j 0)) (fun i _ => L.length - (intOf i).toNat)
        case atStart => exact ⟨0, u, by omega, rfl, rfl, by simp⟩
        case round =>
          obtain ⟨k2, u2, hk2, rfl, rfl, hu2⟩ := hrel
          have HU2 := Lib.hid hu2
          clear hu2
          by_cases hlt2 : k2 < L.length
          · rcases HI.out with h0 | ⟨lb, lo, rfl, hlc2⟩
            · simp [h0] at hlt2
            rcases HF.out with h0 | ⟨fb, fo, rfl, hfc⟩
            · have := HLEN.out; rw [h0] at this; simp at this; simp [this] at hlt2
            have d1 : w.cell? ⟨lb, lo + k2, none⟩ = some (.int .u8 (V (L.getD k2 0))) := hlc2 k2 hlt2
            have d2 : w.cell? ⟨fb, fo + k2, none⟩ = some (.int .u8 (V (f.getD k2 0))) := hfc k2 (by have := HLEN.out; omega)
            have p2 : 0 ≤ (k2 : Int) := by omega
            have q2 : (k2 : Int) < (L.length : Int) := by omega
            have q3 : (k2 : Int) < (f.length : Int) := by have := HLEN.out; omega
            clear hlc2 hfc
            generalize hx1 : L.getD k2 0 = x1 at *
            generalize hx2 : f.getD k2 0 = x2 at *
            have X1 := Lib.hid hx1
            have X2 := Lib.hid hx2
            clear hx1 hx2
            go_wp2_with fail
            go_round
            case rel =>
              refine ⟨k2 + 1, u2 ||| (x1 ^^^ x2), by omega, by go_num, rfl, ?_⟩
              rw [or_zero, xor_zero, HU2.out]
              constructor
              · rintro ⟨⟨h1, h2⟩, h3⟩
                refine ⟨h1, fun j hj => ?_⟩
                by_cases hjk : j = k2
                · subst hjk; rw [X1.out, X2.out, h3]
                · exact h2 j (by omega)
              · rintro ⟨h1, h2⟩
                exact ⟨⟨h1, fun j hj => h2 j (by omega)⟩, by rw [← X1.out, ← X2.out]; exact h2 k2 (by omega)⟩
            case measure => simp [intOf]; omega
          · obtain rfl : k2 = L.length := by omega
            go_wp2_with fail
            go_round
            case rel =>
              refine ⟨k + 1, u2, by omega, by go_num, rfl, ?_⟩
              rw [HU2.out, HU.out]
              have key : (∀ j, j < L.length → L.getD j 0 = f.getD j 0) ↔ L = f := by
                constructor
                · intro h
                  apply List.ext_getElem HLEN.out
                  intro i h1 h2
                  have := h i h1
                  simpa [h1, h2] using this
                · rintro rfl _ _; rfl
              rw [key]
              constructor
              · rintro ⟨h1, h2⟩ j hj
                by_cases hjk : j = k
                · subst hjk; rw [HL.out, h2]
                · exact h1 j (by omega)
              · intro h
                exact ⟨fun j hj => h j (by omega), by rw [← HL.out]; exact h k (by omega)⟩
            case measure => simp [intOf]; omega
      · have e : ((L.length : Int) == (f.length : Int)) = false := by simp; omega
        have e2 : ((L.length : Int) != (f.length : Int)) = true := by simp; omega
        have HLEN := Lib.hid hlen
        clear hlen
        go_wp2_with fail
        go_round
        case rel =>
          refine ⟨k + 1, 1, by omega, by go_num, rfl, ?_⟩
          constructor
          · intro h; exact absurd h (by decide)
          · intro h
            have := h k (by omega)
            rw [HL.out] at this
            exact absurd (by rw [this]) HLEN.out
        case measure => simp [intOf]; omega
    · obtain rfl : k = ls.length := by omega
      have hfin : (V u == 0) = ls.all fun l => l == f := by
        have h1 : (V u == 0) = true ↔ u = 0 := by
          rw [beq_iff_eq]
          exact ⟨fun h => V_inj (by rw [h]; rfl), fun h => by rw [h]; rfl⟩
        have h2 : (ls.all fun l => l == f) = true ↔ ∀ j, j < ls.length → ls.getD j [] = f := by
          rw [List.all_eq_true]
          constructor
          · intro h j hj
            have := h (ls[j]) (List.getElem_mem hj)
            simpa [hj] using this
          · intro h l hl
            obtain ⟨j, hj, rfl⟩ := List.getElem_of_mem hl
            have := h j hj
            simpa [hj] using this
        rw [Bool.eq_iff_iff, h1, h2, HU.out]
      have HFIN := Lib.hid hfin
      clear hfin
      go_wp2_with fail
      go_ret
      exact ⟨ret_bool HFIN.out, rfl⟩
end Go.Proofs.YthgmebdbccjmlaaDoor
