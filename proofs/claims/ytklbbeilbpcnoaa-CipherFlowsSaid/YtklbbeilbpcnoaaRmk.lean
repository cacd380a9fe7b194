/- hypogeumref02.Make: the document's round keys. -/
import Derived.Test.YtklbbeilbpcnoaaRbx
import Derived.StillTailTactics
namespace Go.Proofs.Ytklbbeilbpcnoaa
open Go.RowKit Sha Aes

theorem index_str (l : List UInt8) (i : Nat) (h : i < l.length) (w : World) : (Instr.index 9 (.string (str l)) (.int .i64 (i : Int))).run Try.prog w = .ok (.int .u8 (V (l.getD i 0))) w := by
  have hs := str_size l
  rw [run_index_string w 9 (str l) .i64 (i : Int) Try.underlying9]
  have hb : ∀ (j : Nat) (hj : j < (str l).size), j = i → ((str l)[j]'hj) = l.getD i 0 := by
    rintro j hj rfl
    show (str l).data[j]'_ = _
    simp [str, h]
  rw [dif_pos ⟨by omega, by omega⟩, hb _ _ (Int.toNat_natCast i)]
  rfl
/-- The words of a key. -/
def wd (K : List UInt8) (i : Nat) : W := (Aes.words K 60).getD i 0
theorem words_pre (K : List UInt8) (n : Nat) : ∀ m, n ≤ m → ∀ j, j < n → (Aes.words K m).getD j 0 = (Aes.words K n).getD j 0 := by
  intro m hm
  induction m with
  | zero => intro j hj; omega
  | succ m ih =>
    intro j hj
    by_cases e : n = m + 1
    · rw [e]
    · rw [← ih (by omega) j hj]
      have hl := Aes.words_length K m
      by_cases h8 : m < 8
      · rw [words_lo8 K m h8, List.getD_eq_getElem?_getD, List.getElem?_append_left (by omega), ← List.getD_eq_getElem?_getD]
      · rw [words_hi8 K m h8, List.getD_eq_getElem?_getD, List.getElem?_append_left (by omega), ← List.getD_eq_getElem?_getD]
theorem wd_lo (K : List UInt8) (i : Nat) (h : i < 8) : wd K i = wordAt K i := by
  unfold wd
  rw [words_pre K (i + 1) 60 (by omega) i (by omega), words_lo8 K i h, List.getD_eq_getElem?_getD, List.getElem?_append_right (by rw [Aes.words_length]; omega), Aes.words_length, Nat.sub_self]
  rfl
theorem wd_hi (K : List UInt8) (i j : Nat) (h8 : 8 ≤ i) (h : i < 60) (hj : j < 4) : lane (wd K i) j = lane (wd K (i - 8)) j ^^^ nextLane (Aes.words K 60) i j := by
  have e1 : wd K i = (Aes.words K i).getD (i - 8) 0 ^^^ nextWord (Aes.words K i) i := by
    unfold wd
    rw [words_pre K (i + 1) 60 (by omega) i (by omega), words_hi8 K i (by omega), List.getD_eq_getElem?_getD, List.getElem?_append_right (by rw [Aes.words_length]; omega), Aes.words_length, Nat.sub_self]
    rfl
  have e2 : (Aes.words K i).getD (i - 8) 0 = wd K (i - 8) := (words_pre K i 60 (by omega) (i - 8) (by omega)).symm
  have e3 : nextLane (Aes.words K i) i j = nextLane (Aes.words K 60) i j := by
    unfold nextLane
    rw [words_pre K i 60 (by omega) (i - 1) (by omega)]
  rw [e1, lane_xor, lane_next _ i j h8 h hj, e2, e3]
/-- The document's key: its table, and the first p bytes of its words. -/
def keyF (K : List UInt8) (p : Nat) : Nat → Nat := fun q => if q < p then (lane (wd K (q / 4)) (q % 4)).toNat else 0
def docKey (g : Nat) (f : Nat → Nat) : List Value := .slice (some ⟨g, 0, none⟩) 256 256 :: cellsI f 240
theorem docKey_len (g : Nat) (f : Nat → Nat) : (docKey g f).length = 241 := by simp [docKey, cellsI_length]
theorem docKey_get (g : Nat) (f : Nat → Nat) (q : Nat) (h : q < 240) : (docKey g f)[q + 1]? = some (.int .i64 ((f q : Nat) : Int)) := by
  unfold docKey
  rw [List.getElem?_cons_succ, cellsI_get _ _ _ h]
theorem docKey_next (g : Nat) (K : List UInt8) (p : Nat) (h : p < 240) : (docKey g (keyF K p)).set (p + 1) (.int .i64 (((lane (wd K (p / 4)) (p % 4)).toNat : Nat) : Int)) = docKey g (keyF K (p + 1)) := by
  unfold docKey
  rw [List.set_cons_succ, cellsI_set _ _ _ h]
  congr 1
  apply cellsI_congr
  intro j hj
  unfold keyF
  by_cases e : j = p
  · subst e; simp
  · by_cases h : j < p
    · simp [e, h, show j < p + 1 by omega]
    · simp [e, h, show ¬ j < p + 1 by omega]
theorem keyF_at (K : List UInt8) (p i j : Nat) (h : 4 * i + j < p) (hj : j < 4) : keyF K p (4 * i + j) = (lane (wd K i) j).toNat := by
  unfold keyF
  rw [if_pos h, show (4 * i + j) / 4 = i by omega, show (4 * i + j) % 4 = j by omega]
theorem build73 (g : Nat) (w : World) : (Instr.build 73 #[(0, .slice (some ⟨g, 0, none⟩) 256 256)]).run Try.prog w = .ok (.agg (docKey g (fun _ => 0)).toArray) w := by kernel_rfl

theorem V_xor64 (x y : UInt8) : bits .xor .i64 (V x) (V y) = V (x ^^^ y) := by
  have h1 := x.toNat_lt
  have h2 := y.toNat_lt
  unfold V; rw [i64_xor_nat _ _ (by omega) (by omega), UInt8.toNat_xor]
theorem V_con (c : Nat) (h : c < 256) : (c : Int) = V (UInt8.ofNat c) := by rw [V_ofNat, Nat.mod_eq_of_lt h]
theorem box_at {w : World} {g : Nat} (h : blockIs w g (cellsI (boxF 256) 256) 3) (y : UInt8) : w.cell? ⟨g, y.toNat, none⟩ = some (.int .i64 (V (sub y))) := by
  have := y.toNat_lt
  rw [h.cell, cellsI_get _ _ _ this]
  unfold boxF
  rw [if_pos this]
  rfl
theorem key_at {w : World} {kb g : Nat} {K : List UInt8} {p : Nat} {t : TypeId} (h : blockIs w kb (docKey g (keyF K p)) t) (i j : Nat) (hj : j < 4) (hp : 4 * i + j < p) (h2 : 4 * i + j < 240) : w.cell? ⟨kb, 1 + i * 4 + j, none⟩ = some (.int .i64 (V (lane (wd K i) j))) := by
  rw [h.cell, show 1 + i * 4 + j = (4 * i + j) + 1 by omega, docKey_get _ _ _ h2, keyF_at K p i j hp hj]
  rfl
theorem key_box {w : World} {kb g : Nat} {f : Nat → Nat} {t : TypeId} (h : blockIs w kb (docKey g f) t) : w.cell? ⟨kb, 0, none⟩ = some (.slice (some ⟨g, 0, none⟩) 256 256) := by
  rw [h.cell]; rfl

set_option maxRecDepth 100000 in
set_option maxHeartbeats 4000000 in
theorem docMake_any (K : List UInt8) (w : World) (hK : K.length = 32) : Calls Try.prog 14 #[.string (str K)] w fun e w' => ∃ kb g, e = .returned (.pointer (some ⟨kb, 0, none⟩)) ∧ w.heap.size ≤ kb ∧ w.heap.size ≤ g ∧ kb ≠ g ∧ blockIs w' kb (docKey g (keyF K 240)) 73 ∧ blockIs w' g (cellsI (boxF 256) 256) 3 ∧ Below w.heap.size w w' := by
  have HKL := Lib.hid hK
  clear hK
  go_enter Try.func14, Try.ntmps14
  go_wp2_with fail
  refine (box_any w).mono ?_
  rintro e w1 ⟨rfl, k1, k2⟩
  have hb := build73 w.heap.size w1
  have G1 : Hid (blockIs (w1.alloc (.cells (docKey w.heap.size (fun _ => 0)).toArray 73 (0, 0))) w1.heap.size (docKey w.heap.size (fun _ => 0)) 73) := Lib.hid (blockIs.new w1 _ _)
  have G2 : Hid (blockIs (w1.alloc (.cells (docKey w.heap.size (fun _ => 0)).toArray 73 (0, 0))) w.heap.size (cellsI (boxF 256) 256) 3) := Lib.hid (k1.alloc _)
  have G3 : Hid (Below w.heap.size w (w1.alloc (.cells (docKey w.heap.size (fun _ => 0)).toArray 73 (0, 0)))) := Lib.hid (k2.alloc k2.size _)
  have G4 : Hid (w.heap.size < w1.heap.size) := Lib.hid k1.lt
  clear k1 k2
  go_wp2_with (first | (refine wpList_build rfl 73 _ rfl _ _ hb rfl ?_))
  generalize w1.alloc (.cells (docKey w.heap.size (fun _ => 0)).toArray 73 (0, 0)) = w2 at *
  have HKB : Hid (w.heap.size ≤ w1.heap.size) := Lib.hid (Nat.le_of_lt G4.out)
  generalize w1.heap.size = kb at *
  have GE : docKey w.heap.size (fun _ => 0) = docKey w.heap.size (keyF K (4 * 0)) := by
    unfold docKey
    congr 1
  rw [GE] at G1
  clear GE hb
  go_loopw [5, 4] (fun i c wr => ∃ i' : Nat, i' ≤ 60 ∧ i = .int .i64 i' ∧ c = .int .i64 ((2 ^ ((i' - 1) / 8) : Nat) : Int) ∧ blockIs wr kb (docKey w.heap.size (keyF K (4 * i'))) 73 ∧ But kb w2 wr) (fun i _ _ => (60 - intOf i).toNat)
  case atStart => exact ⟨0, by omega, rfl, rfl, G1.out, But.refl _ _⟩
  case round =>
    obtain ⟨i, hi, rfl, rfl, h1, h2⟩ := hrel
    have H1 := Lib.hid h1
    have H2 := Lib.hid h2
    clear h1 h2
    by_cases hlt : i < 60
    · have q60 : (i : Int) < 60 := by omega
      obtain ⟨c, hc⟩ : ∃ c, c = 2 ^ ((i - 1) / 8) := ⟨_, rfl⟩
      rw [← hc]
      have HC := Lib.hid hc
      clear hc
      by_cases h8 : i < 8
      · have q8 : (i : Int) < 8 := by omega
        have q8' : ¬ 8 ≤ (i : Int) := by omega
        go_wp2_with fail
        go_loopw [6] (fun j wr => ∃ j' : Nat, j' ≤ 4 ∧ j = .int .i64 j' ∧ blockIs wr kb (docKey w.heap.size (keyF K (4 * i + j'))) 73 ∧ But kb w2 wr) (fun j _ => (4 - intOf j).toNat)
        case atStart => exact ⟨0, by omega, rfl, H1.out, H2.out⟩
        case round =>
          obtain ⟨j, hj, rfl, h1, h2⟩ := hrel
          have H1 := Lib.hid h1
          have H2 := Lib.hid h2
          clear h1 h2
          by_cases hlt4 : j < 4
          · have q4 : (j : Int) < 4 := by omega
            obtain ⟨p, hp⟩ : ∃ p, p = 4 * i + j := ⟨_, rfl⟩
            have m1 : IntKind.i64.wrap (4 * (i : Int)) = 4 * (i : Int) := IntWalk.i64_in _ (by omega)
            have m2 : IntKind.i64.wrap (4 * (i : Int) + (j : Int)) = (p : Int) := by rw [IntWalk.i64_in _ (by omega)]; omega
            have ix := fun X => index_str K p (by rw [HKL.out]; omega) X
            have HX : Hid (lane (wd K (p / 4)) (p % 4) = K.getD p 0) := Lib.hid (by
              rw [wd_lo K (p / 4) (by omega), lane_wordAt _ _ _ (by omega), show 4 * (p / 4) + p % 4 = p by omega])
            have HN := Lib.hid (docKey_next w.heap.size K p (by omega))
            rw [HX.out] at HN
            generalize K.getD p 0 = x at *
            have vw : IntKind.i64.wrap (V x) = V x := IntWalk.i64_in _ (by have := V_nonneg x; have := V_lt x; omega)
            have p0 : 0 ≤ (i : Int) := by omega
            have p1 : 0 ≤ (j : Int) := by omega
            rw [← hp] at H1
            have f1 : wr.frozen? ⟨kb, 1 + i * 4 + j, none⟩ = false := H1.out.free _
            obtain ⟨z, f2⟩ : ∃ z, wr.cell? ⟨kb, 1 + i * 4 + j, none⟩ = some z := ⟨_, H1.out.at (1 + i * 4 + j) (by rw [docKey_len]; omega)⟩
            have HP := Lib.hid hp
            clear hp HX
            go_wp2_with fail
            go_still_tail 14, (by kernel_rfl)
            change wpList _ _ _ _ _ wr.drew
            go_wp2_with fail
            go_roundw
            case rel =>
              refine ⟨j + 1, by omega, by go_num, ?_, (H2.out.drewN _).setCell _ _ (Or.inl rfl)⟩
              have hs := blockIs.set (w := (wr.drewN 1)) H1.out (p + 1) (.int .i64 (V x))
              rw [show docKey w.heap.size (keyF K p) = _ from rfl] at hs
              rw [show (docKey w.heap.size (keyF K p)).set (p + 1) (.int .i64 (V x)) = _ from HN.out] at hs
              have e := HP.out
              rw [show 1 + i * 4 + j = p + 1 by omega, show 4 * i + (j + 1) = p + 1 by omega]
              exact hs
            case measure => simp [intOf]; omega
          · obtain rfl : j = 4 := by omega
            go_wp2_with fail
            go_roundw
            case rel =>
              have hc := HC.out
              refine ⟨i + 1, by omega, by go_num, ?_, ?_, H2.out⟩
              · rw [hc, show (i - 1) / 8 = 0 by omega, show (i + 1 - 1) / 8 = 0 by omega]
              · rw [show 4 * (i + 1) = 4 * i + 4 by omega]; exact H1.out
            case measure => simp [intOf]; omega
      · have q8 : ¬ (i : Int) < 8 := by omega
        have q8' : 8 ≤ (i : Int) := by omega
        obtain ⟨a, ha⟩ : ∃ a, i = a + 1 := ⟨i - 1, by omega⟩
        obtain ⟨b, hb⟩ : ∃ b, i = b + 8 := ⟨i - 8, by omega⟩
        have wa : IntKind.i64.wrap ((i : Int) - 1) = (a : Int) := by rw [IntWalk.i64_in _ (by omega)]; omega
        have wb : IntKind.i64.wrap ((i : Int) - 8) = (b : Int) := by rw [IntWalk.i64_in _ (by omega)]; omega
        have a60 : (a : Int) < 60 := by omega
        have b60 : (b : Int) < 60 := by omega
        have HA := Lib.hid ha
        have HB := Lib.hid hb
        clear ha hb
        have hcl : c < 256 := by
          have := HC.out
          have h2 : 2 ^ ((i - 1) / 8) ≤ 2 ^ 7 := Nat.pow_le_pow_right (by decide) (by omega)
          omega
        go_wp2_with fail
        go_loopw [6] (fun j wr => ∃ j' : Nat, j' ≤ 4 ∧ j = .int .i64 j' ∧ blockIs wr kb (docKey w.heap.size (keyF K (4 * i + j'))) 73 ∧ But kb w2 wr) (fun j _ => (4 - intOf j).toNat)
        case atStart => exact ⟨0, by omega, rfl, H1.out, H2.out⟩
        case round =>
          obtain ⟨j, hj, rfl, h1, h2⟩ := hrel
          have H1 := Lib.hid h1
          have H2 := Lib.hid h2
          clear h1 h2
          by_cases hlt4 : j < 4
          · have q4 : (j : Int) < 4 := by omega
            obtain ⟨p, hp⟩ : ∃ p, p = 4 * i + j := ⟨_, rfl⟩
            obtain ⟨d, hd⟩ : ∃ d, d = (j + 1) % 4 := ⟨_, rfl⟩
            have d4 : (d : Int) < 4 := by omega
            have wd1 : ((j : Int) + 1) % 4 = (d : Int) := by omega
            have wj1 : IntKind.i64.wrap ((j : Int) + 1) = (j : Int) + 1 := IntWalk.i64_in _ (by omega)
            have pj1 : 0 ≤ (j : Int) + 1 := by omega
            have hA := HA.out
            have hB := HB.out
            rw [← hp] at H1
            have G2r : Hid (blockIs wr w.heap.size (cellsI (boxF 256) 256) 3) := Lib.hid (H2.out.is G2.out (Nat.ne_of_lt G4.out))
            have c1 := key_at H1.out a j hlt4 (by omega) (by omega)
            have c2 := key_at H1.out a d (by omega) (by omega) (by omega)
            have c8 := key_at H1.out b j hlt4 (by omega) (by omega)
            have cb := key_box H1.out
            have HW := Lib.hid (wd_hi K i j (by omega) (by omega) hlt4)
            have eb : i - 8 = b := by omega
            have HNL : Hid (nextLane (Aes.words K 60) i j = if i % 8 = 0 then (if j = 0 then sub (lane (wd K a) d) ^^^ UInt8.ofNat (2 ^ (i / 8 - 1)) else sub (lane (wd K a) d)) else if i % 8 = 4 then sub (lane (wd K a) j) else lane (wd K a) j) := Lib.hid (by
              unfold nextLane wd
              rw [show i - 1 = a by omega, hd])
            have HN := Lib.hid (docKey_next w.heap.size K p (by omega))
            rw [show p / 4 = i by omega, show p % 4 = j by omega, HW.out, HNL.out, eb] at HN
            clear HNL HW eb hA hB
            generalize lane (wd K a) j = y1 at *
            generalize lane (wd K a) d = y2 at *
            generalize lane (wd K b) j = y8 at *
            have x1 := box_at G2r.out y1
            have x2 := box_at G2r.out y2
            have n1 : (V y1).toNat = y1.toNat := V_natx y1
            have n2 : (V y2).toNat = y2.toNat := V_natx y2
            have u1 := V_nonneg y1
            have u2 := V_nonneg y2
            have v1 := V_lt y1
            have v2 := V_lt y2
            have p0 : 0 ≤ (i : Int) := by omega
            have p1 : 0 ≤ (j : Int) := by omega
            have f1 : wr.frozen? ⟨kb, 1 + i * 4 + j, none⟩ = false := H1.out.free _
            obtain ⟨z, f2⟩ : ∃ z, wr.cell? ⟨kb, 1 + i * 4 + j, none⟩ = some z := ⟨_, H1.out.at (1 + i * 4 + j) (by rw [docKey_len]; omega)⟩
            have HP := Lib.hid hp
            clear hp hd
            by_cases h0 : i % 8 = 0
            · have b0 : (i : Int) % 8 = 0 := by omega
              by_cases hj0 : j = 0
              · have bj : ((j : Int) == 0) = true := by simp [hj0]
                have HJ := Lib.hid hj0
                have ec : 2 ^ (i / 8 - 1) = c := by rw [HC.out]; congr 1; omega
                rw [if_pos h0, if_pos hj0, ec] at HN
                have vc := V_con c hcl
                have xx := V_xor64 (sub y2) (UInt8.ofNat c)
                rw [← vc] at xx
                clear hj0 ec vc
                generalize hx0 : sub y2 ^^^ UInt8.ofNat c = x0 at *
                have xy := V_xor64 y8 x0
                generalize hx : y8 ^^^ x0 = x at *
                clear hx hx0
                go_wp2_with fail
                go_quiet (fail)
                go_wp2_with fail
                generalize hq : wr.drewN _ = w4 at *
                have c8 : w4.cell? ⟨kb, 1 + b * 4 + j, none⟩ = some (.int .i64 (V y8)) := by rw [← hq]; exact c8
                have f1 : w4.frozen? ⟨kb, 1 + i * 4 + j, none⟩ = false := by rw [← hq]; exact f1
                have f2 : w4.cell? ⟨kb, 1 + i * 4 + j, none⟩ = some z := by rw [← hq]; exact f2
                have H1 : Hid (blockIs w4 kb (docKey w.heap.size (keyF K p)) 73) := Lib.hid (by rw [← hq]; exact H1.out)
                have H2 : Hid (But kb w2 w4) := Lib.hid (by rw [← hq]; exact H2.out.drewN _)
                clear hq
                go_still_tail 18, (by kernel_rfl)
                change wpList _ _ _ _ _ w4.drew
                go_wp2_with fail
                go_roundw
                case rel =>
                  refine ⟨j + 1, by omega, by go_num, ?_, (H2.out.drewN _).setCell _ _ (Or.inl rfl)⟩
                  have hs := blockIs.set (w := (w4.drewN 1)) H1.out (p + 1) (.int .i64 (V x))
                  rw [show docKey w.heap.size (keyF K p) = _ from rfl] at hs
                  rw [show (docKey w.heap.size (keyF K p)).set (p + 1) (.int .i64 (V x)) = _ from HN.out] at hs
                  have e := HP.out
                  rw [show 1 + i * 4 + j = p + 1 by omega, show 4 * i + (j + 1) = p + 1 by omega]
                  exact hs
                case measure => simp [intOf]; omega
              · have bj : ((j : Int) == 0) = false := by simp; omega
                rw [if_pos h0, if_neg hj0] at HN
                generalize sub y2 = x0 at *
                have xy := V_xor64 y8 x0
                generalize hx : y8 ^^^ x0 = x at *
                clear hx
                go_wp2_with fail
                go_quiet (fail)
                go_wp2_with fail
                generalize hq : wr.drewN _ = w4 at *
                have c8 : w4.cell? ⟨kb, 1 + b * 4 + j, none⟩ = some (.int .i64 (V y8)) := by rw [← hq]; exact c8
                have f1 : w4.frozen? ⟨kb, 1 + i * 4 + j, none⟩ = false := by rw [← hq]; exact f1
                have f2 : w4.cell? ⟨kb, 1 + i * 4 + j, none⟩ = some z := by rw [← hq]; exact f2
                have H1 : Hid (blockIs w4 kb (docKey w.heap.size (keyF K p)) 73) := Lib.hid (by rw [← hq]; exact H1.out)
                have H2 : Hid (But kb w2 w4) := Lib.hid (by rw [← hq]; exact H2.out.drewN _)
                clear hq
                go_still_tail 18, (by kernel_rfl)
                change wpList _ _ _ _ _ w4.drew
                go_wp2_with fail
                go_roundw
                case rel =>
                  refine ⟨j + 1, by omega, by go_num, ?_, (H2.out.drewN _).setCell _ _ (Or.inl rfl)⟩
                  have hs := blockIs.set (w := (w4.drewN 1)) H1.out (p + 1) (.int .i64 (V x))
                  rw [show docKey w.heap.size (keyF K p) = _ from rfl] at hs
                  rw [show (docKey w.heap.size (keyF K p)).set (p + 1) (.int .i64 (V x)) = _ from HN.out] at hs
                  have e := HP.out
                  rw [show 1 + i * 4 + j = p + 1 by omega, show 4 * i + (j + 1) = p + 1 by omega]
                  exact hs
                case measure => simp [intOf]; omega
            · have b0 : ((i : Int) % 8 == 0) = false := by simp; omega
              by_cases h4 : i % 8 = 4
              · have b4 : (i : Int) % 8 = 4 := by omega
                rw [if_neg h0, if_pos h4] at HN
                clear h0 h4
                generalize sub y1 = x0 at *
                have xy := V_xor64 y8 x0
                generalize hx : y8 ^^^ x0 = x at *
                clear hx
                go_wp2_with fail
                go_still_tail 18, (by kernel_rfl)
                change wpList _ _ _ _ _ wr.drew
                go_wp2_with fail
                go_roundw
                case rel =>
                  refine ⟨j + 1, by omega, by go_num, ?_, (H2.out.drewN _).setCell _ _ (Or.inl rfl)⟩
                  have hs := blockIs.set (w := (wr.drewN 1)) H1.out (p + 1) (.int .i64 (V x))
                  rw [show docKey w.heap.size (keyF K p) = _ from rfl] at hs
                  rw [show (docKey w.heap.size (keyF K p)).set (p + 1) (.int .i64 (V x)) = _ from HN.out] at hs
                  have e := HP.out
                  rw [show 1 + i * 4 + j = p + 1 by omega, show 4 * i + (j + 1) = p + 1 by omega]
                  exact hs
                case measure => simp [intOf]; omega
              · have b4 : ((i : Int) % 8 == 4) = false := by simp; omega
                rw [if_neg h0, if_neg h4] at HN
                clear h0 h4
                have xy := V_xor64 y8 y1
                generalize hx : y8 ^^^ y1 = x at *
                clear hx
                go_wp2_with fail
                go_still_tail 18, (by kernel_rfl)
                change wpList _ _ _ _ _ wr.drew
                go_wp2_with fail
                go_roundw
                case rel =>
                  refine ⟨j + 1, by omega, by go_num, ?_, (H2.out.drewN _).setCell _ _ (Or.inl rfl)⟩
                  have hs := blockIs.set (w := (wr.drewN 1)) H1.out (p + 1) (.int .i64 (V x))
                  rw [show docKey w.heap.size (keyF K p) = _ from rfl] at hs
                  rw [show (docKey w.heap.size (keyF K p)).set (p + 1) (.int .i64 (V x)) = _ from HN.out] at hs
                  have e := HP.out
                  rw [show 1 + i * 4 + j = p + 1 by omega, show 4 * i + (j + 1) = p + 1 by omega]
                  exact hs
                case measure => simp [intOf]; omega
          · obtain rfl : j = 4 := by omega
            by_cases h0 : i % 8 = 0
            · have b0 : (i : Int) % 8 = 0 := by omega
              obtain ⟨m, hm⟩ : ∃ m, i = 8 * (m + 1) := ⟨i / 8 - 1, by omega⟩
              have hcm : c = 2 ^ m := by rw [HC.out]; congr 1; omega
              have TM2 := times_any c 2 wr hcl (by decide)
              rw [show ((2 : Nat) : Int) = 2 from rfl] at TM2
              have TM := Lib.hid TM2
              clear TM2
              have HT : Hid (tm c 2 = 2 ^ ((i + 1 - 1) / 8)) := Lib.hid (by rw [hcm, tm_con m (by omega)]; congr 1; omega)
              clear hm hcm h0
              go_wp2_with fail
              with_reducible refine TM.out.mono ?_
              rintro e w3 ⟨rfl, rfl⟩
              go_wp2_with fail
              go_roundw
              case rel =>
                refine ⟨i + 1, by omega, by go_num, ?_, ?_, H2.out⟩
                · rw [HT.out]
                · rw [show 4 * (i + 1) = 4 * i + 4 by omega]; exact H1.out
              case measure => simp [intOf]; omega
            · have b0 : ((i : Int) % 8 == 0) = false := by simp; omega
              go_wp2_with fail
              go_roundw
              case rel =>
                have hc := HC.out
                refine ⟨i + 1, by omega, by go_num, ?_, ?_, H2.out⟩
                · rw [hc, show (i - 1) / 8 = (i + 1 - 1) / 8 by omega]
                · rw [show 4 * (i + 1) = 4 * i + 4 by omega]; exact H1.out
              case measure => simp [intOf]; omega
    · obtain rfl : i = 60 := by omega
      go_wp2_with fail
      go_ret
      exact ⟨kb, w.heap.size, rfl, HKB.out, Nat.le_refl _, (Nat.ne_of_lt G4.out).symm, H1.out, H2.out.is G2.out (Nat.ne_of_lt G4.out), G3.out.trans (H2.out.below HKB.out G3.out.size)⟩
end Go.Proofs.Ytklbbeilbpcnoaa
