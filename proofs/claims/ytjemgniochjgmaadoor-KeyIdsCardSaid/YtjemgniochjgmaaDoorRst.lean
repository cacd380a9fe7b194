/- The document's own Stretch. -/
import Derived.Test.YtjemgniochjgmaaDoorRky
namespace Go.Proofs.YtjemgniochjgmaaDoor
open Go.RowKit Sha

theorem rowM.free {w : World} {base : Nat} {g n c : Nat} {l : List UInt8} (h : rowM w base (.slice (some ⟨g, 0, none⟩) n c) l) (j : Nat) (hj : j < l.length) : w.frozen? ⟨g, j, none⟩ = false := by
  rcases h.2 with ⟨h0, _⟩ | ⟨g', cap, cur, fz, hv, _, hh, hf, hn, _, hs, _⟩
  · cases h0
  · cases hv
    obtain ⟨lo, hi⟩ := fz
    simp only [World.frozen?, hh, Bool.and_eq_false_iff, decide_eq_false_iff_not]
    rcases hf with h | h
    · cases h; right; omega
    · left; simp only at h; omega
attribute [local go_sem] V_xor

set_option maxRecDepth 100000 in
set_option maxHeartbeats 2000000 in
theorem rst_any (K S0 : List UInt8) (z : Int) (w : World) (hK : K.length ≤ 100000) (hS : S0.length ≤ 90000) (hz : z ≤ 100000) :
    Calls Tryd.prog 13 #[.string (str K), .string (str S0), .int .i64 z] w fun e w' => e = .returned (.string (str (stretch K S0 z.toNat))) ∧ Below w.heap.size w w' := by
  have h0 := rky_any K S0 w hK hS
  rw [← stretch_zero] at h0
  have H0 := Lib.hid h0
  clear h0
  go_enter Tryd.func13, Tryd.ntmps13
  go_wp2_with fail
  with_reducible refine H0.out.mono ?_
  rintro e w1 ⟨rfl, h1⟩
  have B1 := Lib.hid h1
  clear h1 H0
  have m1 : min z 100000 = z := by omega
  go_wp2_with fail
  go_loopw [7, 8] (fun v i wr => ∃ j : Nat, (j : Int) ≤ max z 0 ∧ v = .string (str (stretch K S0 j)) ∧ i = .int .i64 (j : Int) ∧ Hid (Below w.heap.size w wr)) (fun _ i _ => (z - intOf i).toNat)
  case atStart => exact ⟨0, by omega, rfl, rfl, B1⟩
  case round =>
    clear B1
    obtain ⟨j, hj, rfl, rfl, B1⟩ := hrel
    by_cases hlt : (j : Int) < z
    · have HX : Hid ((stretch K S0 j).length = 32) := Lib.hid (stretch_length K S0 j)
      have hXs : Hid (xorL (hmac K (stretch K S0 j)) (stretch K S0 j) = stretch K S0 (j + 1)) := Lib.hid (by rw [stretch_succ, xorL_comm])
      generalize stretch K S0 j = X at *
      have HM : Hid ((hmac K X).length = 32) := Lib.hid (hmac_length K X)
      have PK := Lib.hid (rky_any K X wr hK (by have := HX.out; omega))
      generalize hmac K X = M at *
      go_wp2_with fail
      with_reducible refine PK.out.mono ?_
      rintro e w2 ⟨rfl, h2⟩
      have hcv := conv_bytes w2 M
      have hrow := rowM.conv w2 w2.heap.size M (Nat.le_refl _) (by have := HM.out; omega)
      have hbel := conv_below w2 M
      rw [HM.out] at hcv hrow
      generalize Lib.bytesWorld w2 5 (str M) = w3 at *
      generalize grownCap w2 (str M).size 0 5 = cap at *
      have hcap : 32 ≤ cap := by
        rcases hrow.2 with ⟨h, _⟩ | ⟨_, _, _, _, h, _, _, _, hn, _⟩
        · cases h
        · have := HM.out
          injection h with _ _ e3
          omega
      have B3 := Lib.hid (B1.out.trans ((h2.trans (hbel.mono h2.size)).mono B1.out.size))
      have C3 : Hid (∀ k, k < 32 → w3.cell? ⟨w2.heap.size, k, none⟩ = some (.int .u8 (V (mixF M X 0 k)))) := Lib.hid (fun k hk => by
        have := hrow.cells (g := w2.heap.size) rfl k _ (byteCells_get M k (by have := HM.out; omega))
        rw [Addr.add_lit, Nat.zero_add] at this
        unfold mixF
        rw [if_neg (by omega)]
        exact this)
      have F3 : Hid (∀ k, k < 32 → w3.frozen? ⟨w2.heap.size, k, none⟩ = false) := Lib.hid (fun k hk => hrow.free k (by have := HM.out; omega))
      have G3 : Hid (w.heap.size ≤ w2.heap.size) := Lib.hid (by have := B1.out.size; have := h2.size; omega)
      clear hrow hbel h2 PK
      go_wp2_with fail
      clear hcv
      generalize w2.heap.size = g at *
      go_loopw [10] (fun i wy => ∃ k : Nat, k ≤ 32 ∧ i = .int .i64 (k : Int) ∧ Hid (∀ q, q < 32 → wy.cell? ⟨g, q, none⟩ = some (.int .u8 (V (mixF M X k q)))) ∧ Hid (∀ q, q < 32 → wy.frozen? ⟨g, q, none⟩ = false) ∧ Hid (Below w.heap.size w wy)) (fun i _ => 32 - (intOf i).toNat)
      case atStart => exact ⟨0, by omega, rfl, C3, F3, B3⟩
      case round =>
        clear C3 F3 B3
        obtain ⟨k, hk, rfl, C3, F3, B3⟩ := hrel
        by_cases hlt2 : k < 32
        · have c1 : wr.cell? ⟨g, k, none⟩ = some (.int .u8 (V (M.getD k 0))) := by
            rw [C3.out k hlt2]; unfold mixF; rw [if_neg (by omega)]
          have f1 : wr.frozen? ⟨g, k, none⟩ = false := F3.out k hlt2
          have ix := index_str X k (by have := HX.out; omega)
          have N1 : Hid (∀ q, q < 32 → (wr.setCell ⟨g, k, none⟩ (.int .u8 (V (M.getD k 0 ^^^ X.getD k 0)))).cell? ⟨g, q, none⟩ = some (.int .u8 (V (mixF M X (k + 1) q)))) := Lib.hid (fun q hq => by
            by_cases e : q = k
            · subst e
              rw [World.cell?_setCell_same' wr _ _ (by rw [c1]; rfl)]
              unfold mixF
              rw [if_pos (by omega)]
            · rw [World.cell?_setCell_other (h := fun h => e (by cases h; rfl)), C3.out q hq]
              unfold mixF
              by_cases hjk : q < k
              · rw [if_pos hjk, if_pos (by omega)]
              · rw [if_neg hjk, if_neg (by omega)])
          have N2 : Hid (∀ q, q < 32 → (wr.setCell ⟨g, k, none⟩ (.int .u8 (V (M.getD k 0 ^^^ X.getD k 0)))).frozen? ⟨g, q, none⟩ = false) := Lib.hid (fun q hq => by rw [World.frozen?_setCell]; exact F3.out q hq)
          have N3 : Hid (Below w.heap.size w (wr.setCell ⟨g, k, none⟩ (.int .u8 (V (M.getD k 0 ^^^ X.getD k 0))))) := Lib.hid (B3.out.setCell G3.out _)
          clear C3 F3 B3
          have p : 0 ≤ (k : Int) := by omega
          have q : (k : Int) < 32 := by omega
          generalize X.getD k 0 = xk at *
          generalize M.getD k 0 = mk at *
          go_wp2_with fail
          go_region_law (go_simp)
          all_goals
            go_wp2_with fail
            go_roundw
            case rel => exact ⟨k + 1, by omega, by go_num, N1, N2, Lib.hid (below_drewN' N3.out 1)⟩
            case measure => simp [intOf]; omega
        · obtain rfl : k = 32 := by omega
          rw [show ((32 : Nat) : Int) = 32 from rfl]
          have hin : bytesIn wr (some ⟨g, 0, none⟩) (xorL M X) := Or.inr ⟨_, _, rfl, fun q hq => by
            rw [xorL_length] at hq
            rw [Nat.zero_add, C3.out q hq]
            unfold mixF xorL
            rw [if_pos hq]
            simp [hq]⟩
          have hcv := conv_string wr (some ⟨g, 0, none⟩) (xorL M X) cap hin
          rw [xorL_length, hXs.out] at hcv
          clear hin C3 F3
          go_wp2_with fail
          go_roundw
          case rel => exact ⟨j + 1, by omega, rfl, by go_num, B3⟩
          case measure => simp [intOf]; omega
    · have hjz : j = z.toNat := by omega
      have HJ : Hid (stretch K S0 j = stretch K S0 z.toNat) := Lib.hid (by rw [hjz])
      clear hjz
      generalize stretch K S0 j = M at *
      go_wp2_with fail
      go_ret
      exact ⟨by rw [← HJ.out]; rfl, B1.out⟩
end Go.Proofs.YtjemgniochjgmaaDoor
