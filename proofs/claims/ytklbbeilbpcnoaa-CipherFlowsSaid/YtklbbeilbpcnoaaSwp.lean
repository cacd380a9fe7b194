/- cipher: the table. -/
import Derived.Test.YtklbbeilbpcnoaaPck
namespace Go.Proofs.Ytklbbeilbpcnoaa
open Go.RowKit Sha Aes
attribute [local go_sem] V_xor V_shl1 V_shl2 V_shl4 V_shlw1 V_shlw2 V_shlw4 V_shr7 V_mul27 V_mul9 V_mulw27 V_mulw9 V_x63

theorem zeroBox (w : World) : (zeroValue 54).run Try.prog w = .ok (.agg (zeros 256).toArray) w := by kernel_rfl
theorem infoBox : (Try.prog.info? 54).map (·.size) = some 256 := by kernel_rfl
theorem build54 (w : World) : (Instr.build 54 #[(0, .int .u8 99)]).run Try.prog w = .ok (.agg (byteCells (tbl 0).box).toArray) w := by kernel_rfl
theorem byteCells_set (l : List UInt8) (i : Nat) (x : UInt8) : (byteCells l).set i (.int .u8 (V x)) = byteCells (l.set i x) := by
  simp [byteCells, List.map_set]
theorem V_natx (b : UInt8) : (V b).toNat = b.toNat := Int.toNat_natCast _

set_option maxRecDepth 100000 in
set_option maxHeartbeats 2000000 in
theorem swaps_any (w : World) : Calls Try.prog 24 #[] w fun e w' => e = .returned (.agg (byteCells sbox).toArray) ∧ Below w.heap.size w w' := by
  have hz := zeroBox
  have G0 := Lib.hid (blockIs.new w (zeros 256) 54)
  have A0 := Lib.hid (alloc_below w (.cells (zeros 256).toArray 54 (0, 0)))
  have S0 : Hid ((w.alloc (.cells (zeros 256).toArray 54 (0, 0))).heap.size = w.heap.size + 1) := Lib.hid (by simp)
  have N1 := Lib.hid (blockIs.new (w.alloc (.cells (zeros 256).toArray 54 (0, 0))) (zeros 256) 54)
  have B1 := Lib.hid (alloc_below (w.alloc (.cells (zeros 256).toArray 54 (0, 0))) (.cells (zeros 256).toArray 54 (0, 0)))
  rw [S0.out] at N1 B1
  have G1 := Lib.hid (G0.out.below B1.out (Nat.lt_succ_self _))
  have A1 := Lib.hid (A0.out.trans (B1.out.mono (Nat.le_succ _)))
  clear G0 A0 S0 B1
  go_enter Try.func24, Try.ntmps24
  go_wp2_with (first | (refine wpList_build rfl 54 _ rfl _ _ (build54 _) rfl ?_) | (refine wpList_store_block rfl 54 _ _ rfl (w.heap.size + 1) 0 (byteCells (tbl 0).box) rfl rfl (zeros 256) 54 N1.out (by rw [infoBox, byteCells_length, tbl_len]) (by rw [byteCells_length, tbl_len]; simp [zeros]) (byteCells_one _) ?_))
  intro w1 h1 h2 h3
  have h1 := h1.out
  rw [splice_all _ _ (by rw [byteCells_length, tbl_len]; simp [zeros])] at h1
  have E1 := Lib.hid h1
  have E2 := Lib.hid (h2.out.is G1.out (Nat.ne_of_lt (Nat.lt_succ_self _)))
  have E3 := Lib.hid (A1.out.trans (h2.out.below (Nat.le_succ _) A1.out.size))
  clear h1 h2 h3 G1 A1 N1 hz
  go_wp2_with fail
  go_loopw [5, 2, 3] (fun i x y wr => ∃ k : Nat, k ≤ 255 ∧ i = .int .i64 k ∧ x = .int .u8 (V (tbl k).x) ∧ y = .int .u8 (V (tbl k).y) ∧ blockIs wr (w.heap.size + 1) (byteCells (tbl k).box) 54 ∧ blockIs wr w.heap.size (zeros 256) 54 ∧ Below w.heap.size w wr) (fun i _ _ _ => 255 - (intOf i).toNat)
  case atStart => exact ⟨0, by omega, rfl, rfl, rfl, E1.out, E2.out, E3.out⟩
  case round =>
    obtain ⟨k, hk, rfl, rfl, rfl, h1, h2, h3⟩ := hrel
    have H1 := Lib.hid h1
    have H2 := Lib.hid h2
    have H3 := Lib.hid h3
    clear h1 h2 h3
    by_cases hlt : k < 255
    · have q : (k : Int) < 255 := by omega
      have HT : Hid (tbl (k + 1) = ⟨nextX (tbl k).x, nextY (tbl k).y, (tbl k).box.set (nextX (tbl k).x).toNat (boxOf (nextY (tbl k).y))⟩) := Lib.hid rfl
      have HL : Hid ((tbl k).box.length = 256) := Lib.hid (tbl_len k)
      generalize (tbl k).x = x at *
      generalize (tbl k).y = y at *
      generalize (tbl k).box = bx at *
      go_upto_region 6 with fail
      generalize hx1 : x ^^^ (shl8 x 1 ^^^ mul8 (shr8 x 7) 27) = xn
      have hx1 : nextX x = xn := hx1
      rw [hx1] at HT
      go_upto_region 7 with fail
      generalize hy1 : y ^^^ shl8 y 1 = ya
      go_upto_region 8 with fail
      generalize hy2 : ya ^^^ shl8 ya 2 = yb
      go_upto_region 9 with fail
      generalize hy3 : yb ^^^ shl8 yb 4 = yc
      go_upto_region 10 with fail
      generalize hy4 : yc ^^^ mul8 (shr8 yc 7) 9 = yn
      have hyn : nextY y = yn := by rw [← hy4, ← hy3, ← hy2, ← hy1]; rfl
      rw [hyn] at HT
      clear hx1 hy1 hy2 hy3 hy4 hyn
      have r1 := Lib.hid (fun X => rotb yn 1 (by omega) X)
      have r2 := Lib.hid (fun X => rotb yn 2 (by omega) X)
      have r3 := Lib.hid (fun X => rotb yn 3 (by omega) X)
      have r4 := Lib.hid (fun X => rotb yn 4 (by omega) X)
      go_wp2_with fail
      refine (r1.out _).mono ?_
      rintro e x1 ⟨rfl, rfl⟩
      go_wp2_with fail
      refine (r2.out _).mono ?_
      rintro e x1 ⟨rfl, rfl⟩
      go_wp2_with fail
      refine (r3.out _).mono ?_
      rintro e x1 ⟨rfl, rfl⟩
      go_wp2_with fail
      refine (r4.out _).mono ?_
      rintro e x1 ⟨rfl, rfl⟩
      clear r1 r2 r3 r4
      have b0 := V_nonneg xn
      have b1 := V_lt xn
      have b2 := V_natx xn
      have c1 : wr.cell? ⟨w.heap.size + 1, xn.toNat, none⟩ = some ((byteCells bx)[xn.toNat]'(by rw [byteCells_length, HL.out]; exact xn.toNat_lt)) := H1.out.at _ _
      have c2 := H1.out.free xn.toNat
      go_wp2_with fail
      go_roundw
      case rel =>
        refine ⟨k + 1, by omega, by go_num, by rw [HT.out], by rw [HT.out], ?_, H2.out.other _ _ (by simp), H3.out.setCell (by simp) _⟩
        rw [HT.out]
        have := H1.out.set xn.toNat (.int .u8 (V (boxOf yn)))
        rw [byteCells_set] at this
        exact this
      case measure => simp [intOf]; omega
    · obtain rfl : k = 255 := by omega
      rw [tbl_box] at H1
      have R1 := Lib.hid (range_of H1.out)
      have hl : (byteCells sbox).length = 256 := by rw [byteCells_length]; rfl
      have HL := Lib.hid hl
      clear hl
      have HO := Lib.hid (byteCells_one sbox)
      generalize (tbl 255).x = x at *
      generalize (tbl 255).y = y at *
      generalize hBX : byteCells sbox = BX at *
      have HBX := Lib.hid hBX
      clear hBX
      go_wp2_with (first | (refine wpList_load_mid rfl 54 _ rfl (w.heap.size + 1) 0 rfl BX _ R1.out Try.underlying54 rfl (by rw [infoBox, HL.out]) ?_) | (refine wpList_store_block rfl 54 _ _ rfl w.heap.size 0 BX rfl rfl (zeros 256) 54 H2.out (by rw [infoBox, HL.out]) (by simp [zeros, HL.out]) HO.out ?_))
      intro w8 h1 h2 h3
      have h1 := h1.out
      rw [splice_all _ _ (by simp [zeros, HL.out])] at h1
      have F1 := Lib.hid h1
      have F2 := Lib.hid (H3.out.trans (h2.out.below (Nat.le_refl _) H3.out.size))
      clear h1 h2 h3
      go_wp2_with fail
      refine bodyPost_ret (v := .agg BX.toArray) (results_cell_row rfl _ _ w.heap.size 54 _ (0, 0) _ rfl F1.out Try.underlying54 rfl (by rw [infoBox]; simp [HL.out])) rfl ?_
      exact ⟨by rw [HBX.out], F2.out⟩
end Go.Proofs.Ytklbbeilbpcnoaa
