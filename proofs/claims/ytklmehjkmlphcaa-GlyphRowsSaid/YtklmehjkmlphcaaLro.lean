/- GlyphRows: for all rows of numbers, texts and flags the law returns true, and its arguments read as before. No condition. -/
import Derived.Test.YtklmehjkmlphcaaRaw
import Derived.Test.YtklmehjkmlphcaaOpn
namespace Go.Proofs.Ytklmehjkmlphcaa
open Go.RowKit

set_option maxRecDepth 100000 in
set_option maxHeartbeats 4000000 in
theorem law_glyphRows (a0 : Option Addr) (c0 : Nat) (N : List Int) (a1 : Option Addr) (c1 : Nat) (T : List (List UInt8)) (a2 : Option Addr) (c2 : Nat) (Y : List Bool) (w : World)
    (g0 : rowInts w a0 c0 N) (g1 : rowStrs w a1 c1 T) (g2 : rowFlags w a2 c2 Y) :
    Calls Try.prog 6 #[.slice a0 N.length c0, .slice a1 T.length c1, .slice a2 Y.length c2] w fun e w' => e = .returned (.bool true) ∧ Below w.heap.size w w' := by
  obtain ⟨hn, hn2, hwf, h0⟩ := g0
  obtain ⟨ht, ht2, htl, h1⟩ := g1
  obtain ⟨hy, hy2, h2⟩ := g2
  have H0 := Lib.hid h0
  have H1 := Lib.hid h1
  have H2 := Lib.hid h2
  have HF := Lib.hid hwf
  have HT := Lib.hid htl
  clear h0 h1 h2 hwf htl
  go_enter Try.func6, Try.ntmps6
  have q0 : 0 ≤ min (N.length : Int) 30 := by omega
  have q1 : 0 ≤ min (T.length : Int) 30 := by omega
  have q2 : 0 ≤ min (Y.length : Int) 30 := by omega
  have r0 : min (N.length : Int) 30 ≤ c0 := by omega
  have r1 : min (T.length : Int) 30 ≤ c1 := by omega
  have r2 : min (Y.length : Int) 30 ≤ c2 := by omega
  go_upto_region 1 with fail
  go_cut [0, 1, 2] (fun s0 s1 s2 wx => s0 = .slice a0 (min (N.length : Int) 30).toNat c0 ∧ s1 = .slice a1 (min (T.length : Int) 30).toNat c1 ∧ s2 = .slice a2 (min (Y.length : Int) 30).toNat c2 ∧ Hid (Below w.heap.size w wx))
  case first =>
    go_region_held3 (fun _ => True) (trivial) (go_simp)
    all_goals
      go_wp2_with fail
      go_meet
      case rel => exact ⟨rfl, rfl, rfl, Lib.hid (Below.refl _ _).drew⟩
  obtain ⟨rfl, rfl, rfl, B0⟩ := hcut
  have e0 : (min (N.length : Int) 30).toNat = (N.take 30).length := by rw [List.length_take]; omega
  have e1 : (min (T.length : Int) 30).toNat = (T.take 30).length := by rw [List.length_take]; omega
  have e2 : (min (Y.length : Int) 30).toNat = (Y.take 30).length := by rw [List.length_take]; omega
  have f0 : (N.take 30).length ≤ 30 := by rw [List.length_take]; omega
  have f1 : (T.take 30).length ≤ 30 := by rw [List.length_take]; omega
  have f2 : (Y.take 30).length ≤ 30 := by rw [List.length_take]; omega
  have V0 := Lib.hid ((H0.out.take 30).below B0.out (Nat.le_refl _))
  have V1 := Lib.hid ((H1.out.take 30).below B0.out (Nat.le_refl _))
  have V2 := Lib.hid ((H2.out.take 30).below B0.out (Nat.le_refl _))
  rw [show (zvals N).take 30 = zvals (N.take 30) by simp [zvals]] at V0
  rw [show (svals T).take 30 = svals (T.take 30) by simp [svals]] at V1
  rw [show (fvals Y).take 30 = fvals (Y.take 30) by simp [fvals]] at V2
  have F0 : Hid (∀ z ∈ N.take 30, (Lit.int .i64 z).wf = true) := Lib.hid fun z hz => HF.out z (List.mem_of_mem_take hz)
  have F1 : Hid (∀ l ∈ T.take 30, l.length ≤ 9223372036854775807) := Lib.hid fun z hz => HT.out z (List.mem_of_mem_take hz)
  rw [e0, e1, e2]
  clear q0 q1 q2 r0 r1 r2 e0 e1 e2 hn ht hy H0 H1 H2 HF HT
  generalize N.take 30 = N at *
  generalize T.take 30 = T at *
  generalize Y.take 30 = Y at *
  go_wp2_with fail
  go_loopw [7] (fun i wr => ∃ j : Nat, j ≤ T.length ∧ i = .int .i64 (j : Int) ∧ Hid (∀ x ∈ T.take j, x.length ≤ 1000) ∧ wr = wc) (fun i _ => T.length - (intOf i).toNat)
  case atStart => exact ⟨0, Nat.zero_le _, rfl, Lib.hid (by simp), rfl⟩
  case round =>
    obtain ⟨j, hj, rfl, K1, rfl⟩ := hrel
    have p0 : 0 ≤ (j : Int) := by omega
    by_cases hlt : j < T.length
    · have q0 : (j : Int) < (T.length : Int) := by omega
      obtain ⟨bb, bo, rfl, d⟩ := V1.out.at j (by rw [svals_length]; exact hlt)
      have e1 : (svals T)[j]'(by rw [svals_length]; exact hlt) = .string (str (T.getD j [])) := by simp [svals, hlt]
      rw [e1] at d
      clear e1
      have KT : Hid ((T.getD j []).length ≤ 1000 → ∀ x ∈ T.take (j + 1), x.length ≤ 1000) := Lib.hid (by
        intro h x hx
        rw [List.take_add_one, List.mem_append] at hx
        rcases hx with hx | hx
        · exact K1.out x hx
        · have e : T.getD j [] = T[j] := by simp [hlt]
          rw [e] at h
          simp [hlt] at hx
          rw [hx]; exact h)
      have hsz := str_size (T.getD j [])
      have hbig : (T.getD j []).length ≤ 9223372036854775807 := by
        have : T.getD j [] = T[j] := by simp [hlt]
        rw [this]
        exact F1.out _ (List.getElem_mem hlt)
      generalize T.getD j [] = x at *
      by_cases hx : x.length ≤ 1000
      · have hx2 : (x.length : Int) ≤ 1000 := by omega
        go_wp2_with fail
        go_roundw
        case rel => exact ⟨j + 1, by omega, by go_num, Lib.hid (KT.out hx), trivial⟩
        case measure => simp [intOf]; omega
      · have hx2 : ¬ (x.length : Int) ≤ 1000 := by omega
        have hx3 : (1000 : Int) < (x.length : Int) := by omega
        go_wp2_with fail
        with_reducible refine (glyphs_any _).mono ?_
        rintro e w1 ⟨rfl, hb⟩
        go_wp2_with fail
        go_ret
        exact ⟨rfl, B0.out.trans (hb.mono B0.out.size)⟩
    · obtain rfl : j = T.length := by omega
      rw [List.take_length] at K1
      go_wp2_with fail
      have L1 := outNums_len ([72, 89, 9], 0) N
      have L2 := outTexts_len (outNums ([72, 89, 9], 0) N) T 1000 K1.out
      have L3 := outFlags_len (outTexts (outNums ([72, 89, 9], 0) N) T) Y
      have L0 : (([72, 89, 9], 0) : List UInt8 × Int).1.length = 3 := rfl
      rw [L0] at L1
      have M1 : (outNums ([72, 89, 9], 0) N).1.length ≤ 300 := by omega
      have M2 : (outTexts (outNums ([72, 89, 9], 0) N) T).1.length ≤ 31000 := by omega
      have M3 : (outFlags (outTexts (outNums ([72, 89, 9], 0) N) T) Y).1.length ≤ 32000 := by omega
      have M1 := Lib.hid M1
      have M2 := Lib.hid M2
      have M3 := Lib.hid M3
      clear L0 L1 L2 L3
      with_reducible refine (begin_c 9 9 rfl wr).mono ?_
      rintro e w1 ⟨k1, rfl, ho, hb⟩
      have OO := Lib.hid ho
      have HH := Lib.hid hb
      clear ho hb
      go_wp2_with fail
      with_reducible refine (nums_any wr.heap.size k1 _ a0 N c0 w1 OO.out F0.out (by decide) (by omega) (fun w' hb _ => V0.out.below (HH.out.trans hb) (Nat.le_refl _))).mono ?_
      rintro e w2 ⟨rfl, ho, hb, -⟩
      have HH := Lib.hid (HH.out.trans hb)
      have OO := Lib.hid ho
      clear ho hb
      go_wp2_with fail
      with_reducible refine (texts_any wr.heap.size k1 _ a1 T c1 w2 1000 K1.out (by decide) (by have := M1.out; omega) OO.out (fun w' hb _ => V1.out.below (HH.out.trans hb) (Nat.le_refl _))).mono ?_
      rintro e w3 ⟨rfl, ho, hb, -⟩
      have HH := Lib.hid (HH.out.trans hb)
      have OO := Lib.hid ho
      clear ho hb
      go_wp2_with fail
      with_reducible refine (flags_any wr.heap.size k1 _ a2 Y c2 w3 OO.out (by have := M2.out; omega) (by omega) (fun w' hb _ => V2.out.below (HH.out.trans hb) (Nat.le_refl _))).mono ?_
      rintro e w4 ⟨rfl, ho, hb, -⟩
      have HH := Lib.hid (HH.out.trans hb)
      have OO := Lib.hid ho
      clear ho hb
      go_wp2_with fail
      with_reducible refine (nums_none wr.heap.size k1 _ w4 OO.out (by have := M3.out; omega)).mono ?_
      rintro e w5 ⟨rfl, ho, hb⟩
      have HH := Lib.hid (HH.out.trans hb)
      have OO := Lib.hid ho
      clear ho hb
      go_wp2_with fail
      with_reducible refine (texts_none wr.heap.size k1 _ w5 OO.out (by have := M3.out; omega)).mono ?_
      rintro e w6 ⟨rfl, ho, hb⟩
      have HH := Lib.hid (HH.out.trans hb)
      have OO := Lib.hid ho
      clear ho hb
      go_wp2_with fail
      with_reducible refine (raw_none wr.heap.size k1 _ w6 OO.out).mono ?_
      rintro e w7 ⟨rfl, ho, hb⟩
      have HH := Lib.hid (HH.out.trans hb)
      have OO := Lib.hid ho
      clear ho hb
      go_wp2_with fail
      with_reducible refine (bytes_either wr.heap.size k1 _ w7 OO.out (by have := M3.out; omega)).mono ?_
      rintro e w8 ⟨b1, d1, rfl, hin, hb⟩
      have H8 := Lib.hid (HH.out.trans (hb.mono HH.out.size))
      have I8 := Lib.hid hin
      have B8 := Lib.hid (B0.out.trans (H8.out.mono B0.out.size))
      have V0 := Lib.hid (V0.out.below H8.out (Nat.le_refl _))
      have V1 := Lib.hid (V1.out.below H8.out (Nat.le_refl _))
      have V2 := Lib.hid (V2.out.below H8.out (Nat.le_refl _))
      clear hin hb HH OO H8
      go_wp2_with fail
      with_reducible refine (begin_c 9 9 rfl w8).mono ?_
      rintro e w9 ⟨k2, rfl, ho, hb⟩
      have OO := Lib.hid ho
      have HH := Lib.hid hb
      clear ho hb
      go_wp2_with fail
      go_loopw [11] (fun i wx => ∃ j : Nat, j ≤ N.length ∧ i = .int .i64 (j : Int) ∧ Hid (OutAt wx w8.heap.size k2 (outNums ([72, 89, 9], 0) (N.take j))) ∧ Hid (Below w8.heap.size w8 wx)) (fun i _ => N.length - (intOf i).toNat)
      case atStart => exact ⟨0, Nat.zero_le _, rfl, OO, HH⟩
      case round =>
        clear OO HH
        obtain ⟨j, hj, rfl, OO, HH⟩ := hrel
        have p0 : 0 ≤ (j : Int) := by omega
        by_cases hlt : j < N.length
        · have q0 : (j : Int) < (N.length : Int) := by omega
          obtain ⟨bb, bo, rfl, d⟩ := (V0.out.below HH.out (Nat.le_refl _)).at j (by rw [zvals_length]; exact hlt)
          have e1 : (zvals N)[j]'(by rw [zvals_length]; exact hlt) = .int .i64 (N.getD j 0) := by simp [zvals, hlt]
          rw [e1] at d
          clear e1
          have HT := Lib.hid (outNums_take ([72, 89, 9], 0) N j hlt)
          have eg : N.getD j 0 = N[j] := by simp [hlt]
          have HX : Hid ((Lit.int .i64 (N.getD j 0)).wf = true) := Lib.hid (by rw [eg]; exact F0.out _ (List.getElem_mem hlt))
          have HL : Hid ((outNums ([72, 89, 9], 0) (N.take j)).1.length ≤ 100000) := Lib.hid (by
            have h1 := outNums_len ([72, 89, 9], 0) (N.take j)
            have h3 : (([72, 89, 9], 0) : List UInt8 × Int).1.length = 3 := rfl
            rw [h3, List.length_take] at h1
            omega)
          clear eg
          generalize N.getD j 0 = x at *
          go_wp2_with fail
          with_reducible refine (num1 w8.heap.size k2 _ x wr OO.out HX.out HL.out).mono ?_
          rintro e wy ⟨rfl, ho, hb⟩
          have OY := Lib.hid ho
          have HY := Lib.hid (HH.out.trans hb)
          clear ho hb
          rw [← HT.out] at OY
          go_wp2_with fail
          go_roundw
          case rel => exact ⟨j + 1, by omega, by go_num, OY, HY⟩
          case measure => simp [intOf]; omega
        · obtain rfl : j = N.length := by omega
          rw [List.take_length] at OO
          go_wp2_with fail
          go_loopw [12] (fun i wx => ∃ j : Nat, j ≤ T.length ∧ i = .int .i64 (j : Int) ∧ Hid (OutAt wx w8.heap.size k2 (outTexts (outNums ([72, 89, 9], 0) N) (T.take j))) ∧ Hid (Below w8.heap.size w8 wx)) (fun i _ => T.length - (intOf i).toNat)
          case atStart => exact ⟨0, Nat.zero_le _, rfl, OO, HH⟩
          case round =>
            clear OO HH
            obtain ⟨j, hj, rfl, OO, HH⟩ := hrel
            have p0 : 0 ≤ (j : Int) := by omega
            by_cases hlt : j < T.length
            · have q0 : (j : Int) < (T.length : Int) := by omega
              obtain ⟨bb, bo, rfl, d⟩ := (V1.out.below HH.out (Nat.le_refl _)).at j (by rw [svals_length]; exact hlt)
              have e1 : (svals T)[j]'(by rw [svals_length]; exact hlt) = .string (str (T.getD j [])) := by simp [svals, hlt]
              rw [e1] at d
              clear e1
              have HT := Lib.hid (outTexts_take (outNums ([72, 89, 9], 0) N) T j hlt)
              have eg : T.getD j [] = T[j] := by simp [hlt]
              have HX : Hid ((T.getD j []).length ≤ 1000) := Lib.hid (by rw [eg]; exact K1.out _ (List.getElem_mem hlt))
              have HL : Hid ((outTexts (outNums ([72, 89, 9], 0) N) (T.take j)).1.length ≤ 100000) := Lib.hid (by
                have h1 := outTexts_len (outNums ([72, 89, 9], 0) N) (T.take j) 1000 (fun l hl => K1.out l (List.mem_of_mem_take hl))
                have h3 := M1.out
                rw [List.length_take] at h1
                omega)
              clear eg
              generalize T.getD j [] = x at *
              go_wp2_with fail
              with_reducible refine (text1 w8.heap.size k2 _ x wr OO.out HL.out (by have := HX.out; omega)).mono ?_
              rintro e wy ⟨rfl, ho, hb⟩
              have OY := Lib.hid ho
              have HY := Lib.hid (HH.out.trans hb)
              clear ho hb
              rw [← HT.out] at OY
              go_wp2_with fail
              go_roundw
              case rel => exact ⟨j + 1, by omega, by go_num, OY, HY⟩
              case measure => simp [intOf]; omega
            · obtain rfl : j = T.length := by omega
              rw [List.take_length] at OO
              go_wp2_with fail
              go_loopw [13] (fun i wx => ∃ j : Nat, j ≤ Y.length ∧ i = .int .i64 (j : Int) ∧ Hid (OutAt wx w8.heap.size k2 (outFlags (outTexts (outNums ([72, 89, 9], 0) N) T) (Y.take j))) ∧ Hid (Below w8.heap.size w8 wx)) (fun i _ => Y.length - (intOf i).toNat)
              case atStart => exact ⟨0, Nat.zero_le _, rfl, OO, HH⟩
              case round =>
                clear OO HH
                obtain ⟨j, hj, rfl, OO, HH⟩ := hrel
                have p0 : 0 ≤ (j : Int) := by omega
                by_cases hlt : j < Y.length
                · have q0 : (j : Int) < (Y.length : Int) := by omega
                  obtain ⟨bb, bo, rfl, d⟩ := (V2.out.below HH.out (Nat.le_refl _)).at j (by rw [fvals_length]; exact hlt)
                  have e1 : (fvals Y)[j]'(by rw [fvals_length]; exact hlt) = .bool (Y.getD j false) := by simp [fvals, hlt]
                  rw [e1] at d
                  clear e1
                  have HT := Lib.hid (outFlags_take (outTexts (outNums ([72, 89, 9], 0) N) T) Y j hlt)
                  have eg : Y.getD j false = Y[j] := by simp [hlt]
                  have HL : Hid ((outFlags (outTexts (outNums ([72, 89, 9], 0) N) T) (Y.take j)).1.length ≤ 100000) := Lib.hid (by
                    have h1 := outFlags_len (outTexts (outNums ([72, 89, 9], 0) N) T) (Y.take j)
                    have h3 := M2.out
                    rw [List.length_take] at h1
                    omega)
                  clear eg
                  generalize Y.getD j false = x at *
                  go_wp2_with fail
                  with_reducible refine (flag1 w8.heap.size k2 _ x wr OO.out HL.out).mono ?_
                  rintro e wy ⟨rfl, ho, hb⟩
                  have OY := Lib.hid ho
                  have HY := Lib.hid (HH.out.trans hb)
                  clear ho hb
                  rw [← HT.out] at OY
                  go_wp2_with fail
                  go_roundw
                  case rel => exact ⟨j + 1, by omega, by go_num, OY, HY⟩
                  case measure => simp [intOf]; omega
                · obtain rfl : j = Y.length := by omega
                  rw [List.take_length] at OO
                  go_wp2_with fail
                  with_reducible refine (bytes_either w8.heap.size k2 _ wr OO.out (by have := M3.out; omega)).mono ?_
                  rintro e w10 ⟨b2, d2, rfl, hin, hb⟩
                  have HH := Lib.hid (HH.out.trans (hb.mono HH.out.size))
                  have I10 := Lib.hid hin
                  clear hin hb OO
                  generalize outFlags (outTexts (outNums ([72, 89, 9], 0) N) T) Y = Z at *
                  go_wp2_with fail
                  with_reducible refine (glyphs_any w10).mono ?_
                  rintro e w11 ⟨rfl, hb⟩
                  have HH := Lib.hid (HH.out.trans (hb.mono HH.out.size))
                  have H11 := Lib.hid (B8.out.trans (HH.out.mono B8.out.size))
                  have U1 := conv_string w11 b1 (got Z) d1 (I8.out.below HH.out (Nat.le_refl _))
                  have U2 := conv_string w11 b2 (got Z) d2 (I10.out.below hb (Nat.le_refl _))
                  clear hb HH
                  generalize got Z = z at *
                  go_wp2_with fail
                  go_ret
                  exact ⟨rfl, H11.out⟩

namespace glyphRows
open Go.ChangeShapes Go.WideShapes Go.ChangeAt Go.RowKit Go.Joins Go.Deep Go.ChangeMaps
set_option maxRecDepth 100000 in
theorem lifted (os : Os) (started : os.Started) (H : Type) (enc : TypeId × Value → H) :
    ReturnsInHanded {} Try.checked os 6 .any (Rows.glyphRowsSpec.pre6 enc Try.prog Try.f6 Rows.glyphRowsRow.domain false) (Rows.glyphRowsSpec.post enc Try.prog Try.f6 false true false false) := by
  refine returnsInHanded_of_change (C := Try.checked) own started (by kernel_rfl) Try.func6
    (ChangeSpec.witness6 (enc := enc) (C := Try.checked) false ⟨#[], #[.slice none 0 0, .slice none 0 0, .slice none 0 0], []⟩ 8 (by kernel_rfl) (by kernel_rfl) (by kernel_rfl) (by kernel_rfl)) ?_
  intro W base args ds gs before hval0 hW hcnd _
  have hval : ∀ (j : Nat) t v, Try.f6.params[j]? = some t → args[j]? = some v → Value.okWide Try.prog W .any base t v := hval0
  have hW' := hW
  obtain ⟨p, q, hA0, hV, rfl, hfz, hnd⟩ := hW
  have hA : DataW.TrodAll enc Try.prog W 0 (fun _ => true) true Try.f6.params.toList args.toList ds p := hA0
  rw [Try.params6] at hA hval
  obtain ⟨v0, vs0, d0, ds0, p0, q0, hargs, rfl, rfl, h0, r0⟩ := trodAll_cons hA
  obtain ⟨v1, vs1, d1, ds1, p1, q1, rfl, rfl, rfl, h1, r1⟩ := trodAll_cons r0
  obtain ⟨v2, vs2, d2, ds2, p2, q2, rfl, rfl, rfl, h2, r2⟩ := trodAll_cons r1
  obtain ⟨rfl, rfl, rfl⟩ := trodAll_nil r2
  obtain rfl : args = #[v0, v1, v2] := by cases args; simp_all
  obtain ⟨rfl, rfl⟩ := trodVars_none hV
  obtain ⟨a0, l0, c0, rfl⟩ := okWide_slice Try.underlying50 (hval 0 50 v0 rfl rfl)
  have h0k := h0
  obtain ⟨n0, g0⟩ := h0
  obtain ⟨b0, k0, F0, e0, hF0⟩ := open_intsz (v := .slice a0 l0 c0) (by simpa [Value.cells] using g0)
  obtain ⟨a1, l1, c1, rfl⟩ := okWide_slice Try.underlying51 (hval 1 51 v1 rfl rfl)
  have h1k := h1
  obtain ⟨n1, g1⟩ := h1
  obtain ⟨b1, k1, F1, e1, hF1⟩ := open_strsz (v := .slice a1 l1 c1) (by simpa [Value.cells] using g1)
  obtain ⟨a2, l2, c2, rfl⟩ := okWide_slice Try.underlying52 (hval 2 52 v2 rfl rfl)
  have h2k := h2
  obtain ⟨n2, g2⟩ := h2
  obtain ⟨b2, k2, F2, e2, hF2⟩ := open_boolsz (v := .slice a2 l2 c2) (by simpa [Value.cells] using g2)
  clear hA0 hval0
  simp only [List.append_nil, List.nil_append] at hW'
  have hlt : ∀ x ∈ p0 ++ p1 ++ p2, x.block < W.heap.size := fun x hx => hW'.lt x (by simpa using hx)
  rw [e0, e1, e2]
  refine (law_glyphRows b0 k0 F0 b1 k1 F1 b2 k2 F2 W hF0 hF1 hF2).mono fun e W' ⟨he, hb⟩ => ?_
  rw [← e0, ← e1, ← e2]
  subst he
  refine ⟨_, rfl, [d0, d1, d2], [], p0 ++ (p1 ++ p2), [], p0 ++ (p1 ++ p2), [], by simpa using hW', ?_, ?_, ?_, hb.frame _, fun h => by cases h⟩
  · exact trodAll_cons_mk (shut_bool Try.underlying4 _) trodAll_mk0
  · have : DataW.TrodAll enc Try.prog W' 0 (fun b => decide (b < W.heap.size)) true _ _ _ _ := (trodAll_cons_mk (Below.trod laidOut (by kernel_rfl) (of_decide_eq_true (by kernel_rfl)) h0k hb (fun x hx => hlt x (by simp [hx]))) (trodAll_cons_mk (Below.trod laidOut (by kernel_rfl) (of_decide_eq_true (by kernel_rfl)) h1k hb (fun x hx => hlt x (by simp [hx]))) (trodAll_cons_mk (Below.trod laidOut (by kernel_rfl) (of_decide_eq_true (by kernel_rfl)) h2k hb (fun x hx => hlt x (by simp [hx]))) trodAll_mk0)))
    simp only [List.append_nil, List.nil_append] at this
    exact this
  · rfl

theorem proved : Rows.GlyphRowsSaid :=
  OpenClaim.holds_of_wide 6 Try.f6 rfl rfl rfl rfl rfl rfl rfl ⟨rfl, rfl, rfl, rfl, rfl⟩ rfl rfl rfl rfl rfl (by kernel_rfl) Try.func6 (by kernel_rfl)
    (of_decide_eq_true (by kernel_rfl)) (by unfold Func.isWrapper; first | (rw [if_pos (by decide +kernel)]; kernel_rfl) | (rw [if_neg (by decide +kernel)]; exact ⟨rfl, rfl⟩))
    (fun os started H enc _ => lifted os started H enc)
end glyphRows
end Go.Proofs.Ytklmehjkmlphcaa
