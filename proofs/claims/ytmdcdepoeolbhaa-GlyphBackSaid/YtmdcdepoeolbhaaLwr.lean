/- The law GlyphWrites: its walk. -/
import Derived.Test.YtmdcdepoeolbhaaThg
import Derived.Lib.ConvBytes
namespace Go.Proofs.Ytmdcdepoeolbhaa
open Go.RowKit

theorem conv_below (w : World) (l : List UInt8) : Below w.heap.size w (Lib.bytesWorld w 5 (str l)) :=
  ⟨rfl, rfl, rfl, by rw [Lib.bytesWorld_size]; omega, fun k hk => Lib.bytesWorld_at_old w 5 (str l) k hk⟩
theorem conv_in (w : World) (l : List UInt8) : bytesIn (Lib.bytesWorld w 5 (str l)) (some ⟨w.heap.size, 0, none⟩) l := Or.inr ⟨_, _, rfl, fun j hj => by
  have hs := str_size l
  rw [Nat.zero_add, Lib.bytesWorld_cell w 5 (str l) j (by omega)]
  simp [str, V, hj]⟩
theorem info33 : (Try.prog.info? 33).map (·.size) = some 3 := by kernel_rfl
theorem zero33 (w : World) : (zeroValue 33).run Try.prog w = .ok (.agg (thgCells (0, 0, [])).toArray) w := by kernel_rfl
theorem thg_one (p : Thg) : ∀ v ∈ thgCells p, v.oneCell' = true := by
  intro v hv
  simp only [thgCells, List.mem_cons, List.not_mem_nil, or_false] at hv
  rcases hv with rfl | rfl | rfl <;> rfl
theorem thg_info (p : Thg) : (Try.prog.info? 33).map (·.size) = some (thgCells p).length := info33
theorem thg_fit (p q : Thg) : 0 + (thgCells p).length ≤ (thgCells q).length := Nat.le_refl _
theorem nums01 : numBytes 1 = [1] ∧ numBytes 0 = [0] := ⟨numBytes_small (by decide), numBytes_small (by decide)⟩
/-- How much may be there. -/
def cap (j : Nat) : Nat := 3 + 200009 * j
theorem cap_next (j : Nat) : cap (j + 1) = cap j + 200009 := by unfold cap; omega
theorem cap_zero : cap 0 = 3 := rfl
theorem cap_le (j : Nat) (h : j ≤ 60) : cap j ≤ 12000543 := by unfold cap; omega
theorem app_len {F M : List UInt8} {j : Nat} (h : F.length ≤ cap j) (e : cap (j + 1) = cap j + 200009) (hm : M.length ≤ 200009) : (F ++ M).length ≤ cap (j + 1) := by
  rw [List.length_append]
  omega
/-- What is there when a round begins. -/
def wrote (w : World) (B k j : Nat) (s : List UInt8 × Int) (X : List UInt8) : Prop := OutAt w B k s ∧ (s.2 = 0 → X = s.1) ∧ s.1.length ≤ cap j ∧ X.length ≤ cap j

set_option maxRecDepth 100000 in
set_option maxHeartbeats 8000000 in
theorem law_glyphWrites (x : UInt8) (a : Option Addr) (c : Nat) (R : List Thg) (w : World) (hr : rowThings w a c R) :
    Calls Try.prog 3 #[.int .u8 (V x), .slice a R.length c] w fun e w' => e = .returned (.bool true) ∧ Below w.heap.size w w' := by
  have HR := Lib.hid hr
  have hlc := hr.1
  clear hr
  go_enter Try.func3, Try.ntmps3
  go_wp2_with fail
  refine (none_any w).mono ?_
  rintro e w1 ⟨rfl, rfl⟩
  go_wp2_with fail
  refine (bytes_nil w).mono ?_
  rintro e w1 ⟨rfl, rfl⟩
  go_wp2_with fail
  refine (glyphs_any w).mono ?_
  rintro e w1 ⟨rfl, b1⟩
  have B1 := Lib.hid b1
  clear b1
  go_wp2_with fail
  refine (begin_any x w1).mono ?_
  rintro e w2 ⟨k, rfl, o2, b2⟩
  have O2 := Lib.hid (o2.mono B1.out.size)
  have B2 := Lib.hid (B1.out.trans (b2.mono B1.out.size))
  clear o2 b2 B1
  go_wp2_with fail
  refine (refBegin_any x w2).mono ?_
  rintro e w3 ⟨rfl, b3⟩
  have O3 := Lib.hid (O2.out.below b3)
  have B3 := Lib.hid (B2.out.trans (b3.mono B2.out.size))
  clear b3 B2 O2
  go_wp2_with fail
  go_loopw [10, 8, 9, 7] (fun i v e o wr => ∃ (j : Nat) (s : List UInt8 × Int) (X : List UInt8), j ≤ R.length ∧ j ≤ 60 ∧ i = .int .i64 j ∧ v = .string (str X) ∧ e = .int .i64 s.2 ∧ o = .pointer (some ⟨k, 0, none⟩) ∧ Hid (wrote wr w.heap.size k j s X) ∧ Hid (Below w.heap.size w wr)) (fun i _ _ _ _ => (60 - intOf i).toNat)
  case atStart => exact ⟨0, ([72, 89, x], 0), [72, 89, x], by omega, by omega, rfl, rfl, rfl, rfl, Lib.hid ⟨O3.out, fun _ => rfl, Nat.le_refl 3, Nat.le_refl 3⟩, B3⟩
  case round =>
    obtain ⟨j, s, X, hj, h60, rfl, rfl, rfl, rfl, hw, hb⟩ := hrel
    obtain ⟨F, er⟩ := s
    have HS := Lib.hid hw.out.2.1
    have HFj : Hid (F.length ≤ cap j) := Lib.hid hw.out.2.2.1
    have HXj : Hid (X.length ≤ cap j) := Lib.hid hw.out.2.2.2
    have HCN := Lib.hid (cap_next j)
    have HCL := Lib.hid (cap_le j h60)
    have HFn : Hid (F.length ≤ cap (j + 1)) := Lib.hid (by have := HFj.out; have := HCN.out; omega)
    have HXn : Hid (X.length ≤ cap (j + 1)) := Lib.hid (by have := HXj.out; have := HCN.out; omega)
    have O4 := Lib.hid hw.out.1
    clear hw
    by_cases hlt : j < R.length ∧ j < 60
    · obtain ⟨hlt, hlt60⟩ := hlt
      have q1 : (j : Int) < (R.length : Int) := by omega
      have q2 : (j : Int) < 60 := by omega
      have p0 : 0 ≤ (j : Int) := by omega
      obtain ⟨bb, bo, rfl, d0, d1, d2, wf⟩ := HR.out.2.2 j hlt
      generalize R[j] = th at *
      obtain ⟨A, n, T⟩ := th
      have hbl : bb < w.heap.size := block_lt_of_cell d0
      have c0 : wr.cell? ⟨bb, bo + j * 3, none⟩ = some (.int .i64 A) := by rw [hb.out.cell hbl]; exact d0
      have c1 : wr.cell? ⟨bb, bo + j * 3 + 1, none⟩ = some (.int .i64 n) := by rw [hb.out.cell hbl]; exact d1
      have c2 : wr.cell? ⟨bb, bo + j * 3 + 2, none⟩ = some (.string (str T)) := by rw [hb.out.cell hbl]; exact d2
      have hz := zero33
      have hst := str_size T
      have N4 := Lib.hid (blockIs.new wr (thgCells (0, 0, [])) 33)
      clear d0 d1 d2
      go_wp2_with (refine wpList_store_block rfl 33 _ _ rfl wr.heap.size 0 (thgCells (A, n, T)) rfl rfl (thgCells (0, 0, [])) 33 N4.out (thg_info _) (thg_fit _ _) (thg_one _) ?_)
      intro w5 h1 h2 h3
      have h1 := h1.out
      rw [splice_all (thgCells (0, 0, [])) (thgCells (A, n, T)) rfl] at h1
      have T5 := Lib.hid h1
      have kb : Below wr.heap.size wr w5 := ((Below.refl wr.heap.size wr).alloc (Nat.le_refl _) _).trans (h2.out.below (Nat.le_refl _) (by simp))
      have O5 := Lib.hid (O4.out.below kb)
      have B5 := Lib.hid (hb.out.trans (kb.mono hb.out.size))
      have HTK : Hid (wr.heap.size ≠ k) := Lib.hid (Nat.ne_of_gt O4.out.lt.2)
      clear h1 h2 h3 kb N4 O4 hb c0 c1 c2 hz
      generalize wr.heap.size = tb at *
      have e0 : w5.cell? ⟨tb, 0, none⟩ = some (.int .i64 A) := by rw [T5.out.cell]; rfl
      have e1 : w5.cell? ⟨tb, 1, none⟩ = some (.int .i64 n) := by rw [T5.out.cell]; rfl
      have e2 : w5.cell? ⟨tb, 2, none⟩ = some (.string (str T)) := by rw [T5.out.cell]; rfl
      by_cases hT : T.length ≤ 200000
      · have t0 : ¬ (200000 : Int) < (T.length : Int) := by omega
        go_wp2_with fail
        refine (kind_any A n (str T) w5).mono ?_
        rintro e w6 ⟨⟨q, hq4, rfl⟩, b6⟩
        have O6 := Lib.hid (O5.out.below b6)
        have B6 := Lib.hid (B5.out.trans (b6.mono B5.out.size))
        have T6 := Lib.hid (T5.out.below b6 T5.out.lt)
        have f0 : w6.cell? ⟨tb, 0, none⟩ = some (.int .i64 A) := by rw [T6.out.cell]; rfl
        have f1 : w6.cell? ⟨tb, 1, none⟩ = some (.int .i64 n) := by rw [T6.out.cell]; rfl
        have f2 : w6.cell? ⟨tb, 2, none⟩ = some (.string (str T)) := by rw [T6.out.cell]; rfl
        clear b6 T5 O5 B5 e0 e1 e2
        rcases (show q = 0 ∨ q = 1 ∨ q = 2 ∨ q = 3 by omega) with rfl | rfl | rfl | rfl
        · have O6l : F.length ≤ 100000000 := by have h1 := HFj.out; have h2 := HCL.out; omega
          go_wp2_with fail
          with_reducible refine (num1k w.heap.size k (F, er) n w6 O6.out wf O6l).mono ?_
          rintro e w7 ⟨rfl, o7, b7, k7⟩
          have O7 := Lib.hid o7
          have B7 := Lib.hid (B6.out.trans b7)
          have T7 := k7.is T6.out HTK.out (by decide)
          have g0 : w7.cell? ⟨tb, 0, none⟩ = some (.int .i64 A) := by rw [T7.cell]; rfl
          have g1 : w7.cell? ⟨tb, 1, none⟩ = some (.int .i64 n) := by rw [T7.cell]; rfl
          have g2 : w7.cell? ⟨tb, 2, none⟩ = some (.string (str T)) := by rw [T7.cell]; rfl
          clear o7 b7 k7 T7 O6 B6
          by_cases h0 : er = 0
          · subst h0
            have XF : Hid (X = F) := Lib.hid (HS.out rfl)
            by_cases hneg : n < 0
            · have E : Hid (outNum (F, 0) n = (F, 1)) := Lib.hid (by simp [outNum, hneg])
              go_wp2_with fail
              go_roundw
              case rel => exact ⟨j + 1, (F, 1), X, by omega, by omega, by go_num, rfl, rfl, rfl, Lib.hid ⟨by rw [← E.out]; exact O7.out, (fun h => by cases h), HFn.out, HXn.out⟩, B7⟩
              case measure => simp [intOf]; omega
            · by_cases hbig : 4611686018427387904 ≤ n
              · have E : Hid (outNum (F, 0) n = (F, 1)) := Lib.hid (by simp [outNum, hbig])
                go_wp2_with fail
                go_roundw
                case rel => exact ⟨j + 1, (F, 1), X, by omega, by omega, by go_num, rfl, rfl, rfl, Lib.hid ⟨by rw [← E.out]; exact O7.out, (fun h => by cases h), HFn.out, HXn.out⟩, B7⟩
                case measure => simp [intOf]; omega
              · obtain ⟨N, hN⟩ : ∃ N : Nat, n = (N : Int) := ⟨n.toNat, by omega⟩
                have E : Hid (outNum (F, 0) n = (F ++ numBytes N, 0)) := Lib.hid (by
                  have : ¬ ((N : Int) < 0 ∨ 4611686018427387904 ≤ (N : Int)) := by omega
                  rw [hN]
                  simp [outNum, this])
                have PN := refNum_any N w7 (by omega)
                rw [← hN] at PN
                have PN := Lib.hid PN
                have bA : decide (n < 0) = false := by simp; omega
                have bB : decide (4611686018427387904 ≤ n) = false := by simp; omega
                have h9 := numBytes_nine N (by omega)
                clear hN hneg hbig
                have hs1 := str_size X
                have hs2 := str_size (numBytes N)
                have hap := str_append X (numBytes N)
                generalize numBytes N = M at *
                have hXl : X.length ≤ 12000543 := Nat.le_trans HXj.out HCL.out
                have c0 : ¬ (9223372036854775807 < X.length + M.length) := by omega
                go_wp2_with fail
                with_reducible refine PN.out.mono ?_
                rintro e w8 ⟨rfl, b8⟩
                have O8 := Lib.hid (O7.out.below b8)
                have B8 := Lib.hid (B7.out.trans (b8.mono B7.out.size))
                clear b8 PN
                go_wp2_with fail
                go_roundw
                case rel => exact ⟨j + 1, (F ++ M, 0), X ++ M, by omega, by omega, by go_num, rfl, rfl, rfl, Lib.hid ⟨by rw [← E.out]; exact O8.out, (fun _ => by rw [XF.out]), app_len HFj.out HCN.out (by omega), app_len HXj.out HCN.out (by omega)⟩, B8⟩
                case measure => simp [intOf]; omega
          · have E : Hid (outNum (F, er) n = (F, er)) := Lib.hid (by simp [outNum, h0])
            have hb0 : (er == 0) = false := by simpa using h0
            go_wp2_with fail
            go_roundw
            case rel => exact ⟨j + 1, (F, er), X, by omega, by omega, by go_num, rfl, rfl, rfl, Lib.hid ⟨by rw [← E.out]; exact O7.out, (fun h => absurd h h0), HFn.out, HXn.out⟩, B7⟩
            case measure => simp [intOf]; omega
        · have O6l : F.length ≤ 100000000 := by have h1 := HFj.out; have h2 := HCL.out; omega
          go_wp2_with fail
          with_reducible refine (text1k w.heap.size k (F, er) T w6 O6.out O6l hT).mono ?_
          rintro e w7 ⟨rfl, o7, b7, k7⟩
          have O7 := Lib.hid o7
          have B7 := Lib.hid (B6.out.trans b7)
          have T7 := k7.is T6.out HTK.out (by decide)
          have g0 : w7.cell? ⟨tb, 0, none⟩ = some (.int .i64 A) := by rw [T7.cell]; rfl
          have g1 : w7.cell? ⟨tb, 1, none⟩ = some (.int .i64 n) := by rw [T7.cell]; rfl
          have g2 : w7.cell? ⟨tb, 2, none⟩ = some (.string (str T)) := by rw [T7.cell]; rfl
          clear o7 b7 k7 T7 O6 B6
          by_cases h0 : er = 0
          · subst h0
            have XF : Hid (X = F) := Lib.hid (HS.out rfl)
            by_cases hbig : 131072 < T.length
            · have E : Hid (outText (F, 0) T = (F, 4)) := Lib.hid (by simp [outText, hbig])
              have t2 : (131072 : Int) < (T.length : Int) := by omega
              go_wp2_with fail
              go_roundw
              case rel => exact ⟨j + 1, (F, 4), X, by omega, by omega, by go_num, rfl, rfl, rfl, Lib.hid ⟨by rw [← E.out]; exact O7.out, (fun h => by cases h), HFn.out, HXn.out⟩, B7⟩
              case measure => simp [intOf]; omega
            · have E : Hid (outText (F, 0) T = (F ++ (numBytes T.length ++ T), 0)) := Lib.hid (by simp [outText, hbig])
              have t2 : ¬ (131072 : Int) < (T.length : Int) := by omega
              have PN := Lib.hid (refText_any T w7 hT)
              have h9 := numBytes_nine T.length (by omega)
              have hs1 := str_size X
              have hs2 := str_size (numBytes T.length ++ T)
              have hap := str_append X (numBytes T.length ++ T)
              have hml : (numBytes T.length ++ T).length ≤ 9 + T.length := by rw [List.length_append]; omega
              generalize numBytes T.length ++ T = M at *
              have hXl : X.length ≤ 12000543 := Nat.le_trans HXj.out HCL.out
              have c0 : ¬ (9223372036854775807 < X.length + M.length) := by omega
              go_wp2_with fail
              with_reducible refine PN.out.mono ?_
              rintro e w8 ⟨rfl, b8⟩
              have O8 := Lib.hid (O7.out.below b8)
              have B8 := Lib.hid (B7.out.trans (b8.mono B7.out.size))
              clear b8 PN
              go_wp2_with fail
              go_roundw
              case rel => exact ⟨j + 1, (F ++ M, 0), X ++ M, by omega, by omega, by go_num, rfl, rfl, rfl, Lib.hid ⟨by rw [← E.out]; exact O8.out, (fun _ => by rw [XF.out]), app_len HFj.out HCN.out (by omega), app_len HXj.out HCN.out (by omega)⟩, B8⟩
              case measure => simp [intOf]; omega
          · have E : Hid (outText (F, er) T = (F, er)) := Lib.hid (by simp [outText, h0])
            have hb0 : (er == 0) = false := by simpa using h0
            go_wp2_with fail
            go_roundw
            case rel => exact ⟨j + 1, (F, er), X, by omega, by omega, by go_num, rfl, rfl, rfl, Lib.hid ⟨by rw [← E.out]; exact O7.out, (fun h => absurd h h0), HFn.out, HXn.out⟩, B7⟩
            case measure => simp [intOf]; omega
        · have O6l : F.length ≤ 100000000 := by have h1 := HFj.out; have h2 := HCL.out; omega
          by_cases hodd : n.tmod 2 = 0
          · have bo1 : (n.tmod 2 != 0) = false := by simp [hodd]
            have HO := Lib.hid hodd
            clear hodd
            go_wp2_with fail
            with_reducible refine (flag1k w.heap.size k (F, er) false w6 O6.out O6l).mono ?_
            rintro e w7 ⟨rfl, o7, b7, k7⟩
            have O7 := Lib.hid o7
            have B7 := Lib.hid (B6.out.trans b7)
            have T7 := k7.is T6.out HTK.out (by decide)
            have g0 : w7.cell? ⟨tb, 0, none⟩ = some (.int .i64 A) := by rw [T7.cell]; rfl
            have g1 : w7.cell? ⟨tb, 1, none⟩ = some (.int .i64 n) := by rw [T7.cell]; rfl
            have g2 : w7.cell? ⟨tb, 2, none⟩ = some (.string (str T)) := by rw [T7.cell]; rfl
            clear o7 b7 k7 T7 O6 B6
            have E : Hid (er = 0 → outFlag (F, er) false = (F ++ [0], 0)) := Lib.hid (fun h => by rw [h]; simp [outFlag, outNum, nums01])
            have E2 : Hid (er ≠ 0 → outFlag (F, er) false = (F, er)) := Lib.hid (fun h => by simp [outFlag, outNum, h])
            have hs1 := str_size X
            have hap : str X ++ (⟨#[0]⟩ : ByteArray) = str (X ++ [0]) := str_append X [0]
            have hXl : X.length ≤ 12000543 := Nat.le_trans HXj.out HCL.out
            have c0 : ¬ (9223372036854775807 < X.length + 1) := by omega
            by_cases h0 : er = 0
            · have XF : Hid (X = F) := Lib.hid (HS.out h0)
              have H0 := Lib.hid h0
              clear h0
              go_wp2_with fail
              go_roundw
              case rel => exact ⟨j + 1, (F ++ [0], er), X ++ [0], by omega, by omega, by go_num, rfl, rfl, rfl, Lib.hid ⟨by rw [show ((F ++ [0], er) : List UInt8 × Int) = outFlag (F, er) false by rw [E.out H0.out, H0.out]]; exact O7.out, (fun _ => by rw [XF.out]), app_len HFj.out HCN.out (by simp), app_len HXj.out HCN.out (by simp)⟩, B7⟩
              case measure => simp [intOf]; omega
            · have H0 := Lib.hid h0
              clear h0
              go_wp2_with fail
              go_roundw
              case rel => exact ⟨j + 1, (F, er), X ++ [0], by omega, by omega, by go_num, rfl, rfl, rfl, Lib.hid ⟨by rw [← E2.out H0.out]; exact O7.out, (fun h => absurd h H0.out), HFn.out, app_len HXj.out HCN.out (by simp)⟩, B7⟩
              case measure => simp [intOf]; omega
          · have bo1 : (n.tmod 2 != 0) = true := by simp [hodd]
            have HO := Lib.hid hodd
            clear hodd
            go_wp2_with fail
            with_reducible refine (flag1k w.heap.size k (F, er) true w6 O6.out O6l).mono ?_
            rintro e w7 ⟨rfl, o7, b7, k7⟩
            have O7 := Lib.hid o7
            have B7 := Lib.hid (B6.out.trans b7)
            have T7 := k7.is T6.out HTK.out (by decide)
            have g0 : w7.cell? ⟨tb, 0, none⟩ = some (.int .i64 A) := by rw [T7.cell]; rfl
            have g1 : w7.cell? ⟨tb, 1, none⟩ = some (.int .i64 n) := by rw [T7.cell]; rfl
            have g2 : w7.cell? ⟨tb, 2, none⟩ = some (.string (str T)) := by rw [T7.cell]; rfl
            clear o7 b7 k7 T7 O6 B6
            have E : Hid (er = 0 → outFlag (F, er) true = (F ++ [1], 0)) := Lib.hid (fun h => by rw [h]; simp [outFlag, outNum, nums01])
            have E2 : Hid (er ≠ 0 → outFlag (F, er) true = (F, er)) := Lib.hid (fun h => by simp [outFlag, outNum, h])
            have hs1 := str_size X
            have hap : str X ++ (⟨#[1]⟩ : ByteArray) = str (X ++ [1]) := str_append X [1]
            have hXl : X.length ≤ 12000543 := Nat.le_trans HXj.out HCL.out
            have c0 : ¬ (9223372036854775807 < X.length + 1) := by omega
            by_cases h0 : er = 0
            · have XF : Hid (X = F) := Lib.hid (HS.out h0)
              have H0 := Lib.hid h0
              clear h0
              go_wp2_with fail
              go_roundw
              case rel => exact ⟨j + 1, (F ++ [1], er), X ++ [1], by omega, by omega, by go_num, rfl, rfl, rfl, Lib.hid ⟨by rw [show ((F ++ [1], er) : List UInt8 × Int) = outFlag (F, er) true by rw [E.out H0.out, H0.out]]; exact O7.out, (fun _ => by rw [XF.out]), app_len HFj.out HCN.out (by simp), app_len HXj.out HCN.out (by simp)⟩, B7⟩
              case measure => simp [intOf]; omega
            · have H0 := Lib.hid h0
              clear h0
              go_wp2_with fail
              go_roundw
              case rel => exact ⟨j + 1, (F, er), X ++ [1], by omega, by omega, by go_num, rfl, rfl, rfl, Lib.hid ⟨by rw [← E2.out H0.out]; exact O7.out, (fun h => absurd h H0.out), HFn.out, app_len HXj.out HCN.out (by simp)⟩, B7⟩
              case measure => simp [intOf]; omega
        · have O6l : F.length ≤ 100000000 := by have h1 := HFj.out; have h2 := HCL.out; omega
          have hcv := Lib.run_convert_string_bytes (P := Try.prog) w6 9 23 5 (str T) Try.underlying9 Try.underlying23 Try.underlying5
          rw [str_size] at hcv
          have kc := Lib.hid (conv_below w6 T)
          have O6c := Lib.hid (O6.out.below kc.out)
          have B6c := Lib.hid (B6.out.trans (kc.out.mono B6.out.size))
          have I6 := Lib.hid (conv_in w6 T)
          have T6c := Lib.hid (T6.out.below kc.out T6.out.lt)
          clear T6 O6 B6 kc
          generalize Lib.bytesWorld w6 5 (str T) = wv at *
          generalize grownCap w6 T.length 0 5 = cp at *
          have T6 := T6c
          have B6 := B6c
          have O6 := O6c
          clear T6c B6c O6c
          go_wp2_with fail
          with_reducible refine (raw1k w.heap.size k (F, er) (some ⟨w6.heap.size, 0, none⟩) cp T wv O6.out I6.out (fun h => by cases h) O6l (by omega)).mono ?_
          rintro e w7 ⟨rfl, o7, b7, k7⟩
          have O7 := Lib.hid o7
          have B7 := Lib.hid (B6.out.trans b7)
          have T7 := k7.is T6.out HTK.out (by decide)
          have g0 : w7.cell? ⟨tb, 0, none⟩ = some (.int .i64 A) := by rw [T7.cell]; rfl
          have g1 : w7.cell? ⟨tb, 1, none⟩ = some (.int .i64 n) := by rw [T7.cell]; rfl
          have g2 : w7.cell? ⟨tb, 2, none⟩ = some (.string (str T)) := by rw [T7.cell]; rfl
          clear o7 b7 k7 T7 O6 B6
          have E : Hid (er = 0 → outRaw (F, er) T = (F ++ T, 0)) := Lib.hid (fun h => by simp [outRaw, h])
          have E2 : Hid (er ≠ 0 → outRaw (F, er) T = (F, er)) := Lib.hid (fun h => by simp [outRaw, h])
          have hs1 := str_size X
          have hap := str_append X T
          have hXl : X.length ≤ 12000543 := Nat.le_trans HXj.out HCL.out
          have c0 : ¬ (9223372036854775807 < X.length + T.length) := by omega
          by_cases h0 : er = 0
          · have XF : Hid (X = F) := Lib.hid (HS.out h0)
            have H0 := Lib.hid h0
            clear h0
            go_wp2_with fail
            go_roundw
            case rel => exact ⟨j + 1, (F ++ T, er), X ++ T, by omega, by omega, by go_num, rfl, rfl, rfl, Lib.hid ⟨by rw [show ((F ++ T, er) : List UInt8 × Int) = outRaw (F, er) T by rw [E.out H0.out, H0.out]]; exact O7.out, (fun _ => by rw [XF.out]), app_len HFj.out HCN.out (by omega), app_len HXj.out HCN.out (by omega)⟩, B7⟩
            case measure => simp [intOf]; omega
          · have H0 := Lib.hid h0
            clear h0
            go_wp2_with fail
            go_roundw
            case rel => exact ⟨j + 1, (F, er), X ++ T, by omega, by omega, by go_num, rfl, rfl, rfl, Lib.hid ⟨by rw [← E2.out H0.out]; exact O7.out, (fun h => absurd h H0.out), HFn.out, app_len HXj.out HCN.out (by omega)⟩, B7⟩
            case measure => simp [intOf]; omega
      · have t0 : (200000 : Int) < (T.length : Int) := by omega
        go_wp2_with fail
        go_roundw
        case rel => exact ⟨j + 1, (F, er), X, by omega, by omega, by go_num, rfl, rfl, rfl, Lib.hid ⟨O5.out, HS.out, HFn.out, HXn.out⟩, B5⟩
        case measure => simp [intOf]; omega
    · have PB := Lib.hid (bytes_either w.heap.size k (F, er) wr O4.out (by have h1 := HFj.out; have h2 := HCL.out; show F.length ≤ _; omega))
      have HNL : Hid (¬ (j < R.length ∧ j < 60)) := Lib.hid hlt
      clear hlt
      by_cases h0 : er = 0
      · subst h0
        have XF : Hid (X = F) := Lib.hid (HS.out rfl)
        have EG : Hid (got (F, 0) = F) := Lib.hid rfl
        by_cases hj1 : j < R.length
        · have q1 : (j : Int) < (R.length : Int) := by omega
          have q2 : ¬ (j : Int) < 60 := by have := HNL.out; omega
          clear hj1
          go_wp2_with fail
          with_reducible refine PB.out.mono ?_
          rintro e w7 ⟨a7, c7, rfl, i7, b7⟩
          rw [EG.out] at i7 ⊢
          have cv := conv_string w7 a7 F c7 i7
          rw [XF.out]
          have B7 := Lib.hid (hb.out.trans (b7.mono hb.out.size))
          clear i7 b7
          go_wp2_with fail
          go_ret
          exact ⟨rfl, B7.out⟩
        · have q1 : ¬ (j : Int) < (R.length : Int) := by omega
          clear hj1
          go_wp2_with fail
          with_reducible refine PB.out.mono ?_
          rintro e w7 ⟨a7, c7, rfl, i7, b7⟩
          rw [EG.out] at i7 ⊢
          have cv := conv_string w7 a7 F c7 i7
          rw [XF.out]
          have B7 := Lib.hid (hb.out.trans (b7.mono hb.out.size))
          clear i7 b7
          go_wp2_with fail
          go_ret
          exact ⟨rfl, B7.out⟩
      · have hb0 : (er == 0) = false := by simpa using h0
        have EG : Hid (got (F, er) = []) := Lib.hid (by simp [got, h0])
        by_cases hj1 : j < R.length
        · have q1 : (j : Int) < (R.length : Int) := by omega
          have q2 : ¬ (j : Int) < 60 := by have := HNL.out; omega
          clear hj1
          go_wp2_with fail
          with_reducible refine PB.out.mono ?_
          rintro e w7 ⟨a7, c7, rfl, i7, b7⟩
          rw [EG.out]
          have B7 := Lib.hid (hb.out.trans (b7.mono hb.out.size))
          clear i7 b7
          go_wp2_with fail
          go_ret
          exact ⟨rfl, B7.out⟩
        · have q1 : ¬ (j : Int) < (R.length : Int) := by omega
          clear hj1
          go_wp2_with fail
          with_reducible refine PB.out.mono ?_
          rintro e w7 ⟨a7, c7, rfl, i7, b7⟩
          rw [EG.out]
          have B7 := Lib.hid (hb.out.trans (b7.mono hb.out.size))
          clear i7 b7
          go_wp2_with fail
          go_ret
          exact ⟨rfl, B7.out⟩
end Go.Proofs.Ytmdcdepoeolbhaa
