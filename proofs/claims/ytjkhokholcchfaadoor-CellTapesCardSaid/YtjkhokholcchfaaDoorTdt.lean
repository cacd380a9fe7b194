/- The document's own Tape. -/
import Derived.Test.YtjkhokholcchfaaDoorTwd
import Derived.Test.YtjkhokholcchfaaDoorGf
import Derived.Lib.AppendStr
namespace Go.Proofs.YtjkhokholcchfaaDoor
open Go.RowKit Sha

theorem be8_succ (c j : Nat) (h : j < 8) : (be8 c).take (j + 1) = (be8 c).take j ++ [beB c j] := by
  rw [List.take_succ_eq_append_getElem (by rw [be8_length]; exact h)]
  congr 1
  simp [be8]
theorem tbytes_one (F : List UInt8) (d k : Nat) : tbytes F (32 * d) (32 * k) ++ trow F (d + k) = tbytes F (32 * d) (32 * (k + 1)) := by
  have h := tbytes_row F (32 * (d + k)) 32 (by omega)
  rw [show 32 * (d + k) / 32 = d + k by omega, show 32 * (d + k) % 32 = 0 by omega, List.drop_zero, List.take_of_length_le (by rw [trow_length]; exact Nat.le_refl _)] at h
  rw [h, show 32 * (d + k) = 32 * d + 32 * k by omega, tbytes_append]
  rfl
theorem tbytes_sub (F : List UInt8) (a r n m : Nat) (h : r + n ≤ m) : ((tbytes F a m).take (r + n)).drop r = tbytes F (a + r) n := by
  apply List.ext_getElem
  · rw [List.length_drop, List.length_take, tbytes_length, tbytes_length]; omega
  · intro i h1 h2
    rw [tbytes_length] at h2
    simp only [tbytes, List.getElem_drop, List.getElem_take, List.getElem_map, List.getElem_range, Nat.add_assoc]
set_option maxRecDepth 100000 in
set_option maxHeartbeats 4000000 in
theorem docTape_any (F : List UInt8) (at_ n : Nat) (w : World) (hF : F.length ≤ 400) (ha : at_ ≤ 1000000) (hn : n ≤ 1000) :
    Calls Tryd.prog 17 #[.string (str F), .int .i64 (at_ : Int), .int .i64 (n : Int)] w fun e w' => e = .returned (.string (str (tbytes F at_ n))) ∧ Below w.heap.size w w' := by
  obtain ⟨d, hd⟩ : ∃ d, d = at_ / 32 := ⟨_, rfl⟩
  obtain ⟨r, hr⟩ : ∃ r, r = at_ % 32 := ⟨_, rfl⟩
  have d1 : (at_ : Int).tdiv 32 = (d : Int) := by rw [Int.tdiv_eq_ediv_of_nonneg (by omega)]; omega
  have d2 : (at_ : Int).tmod 32 = (r : Int) := by rw [Int.tmod_eq_emod_of_nonneg (by omega)]; omega
  have d3 : IntKind.i64.wrap (d : Int) = d := IntWalk.i64_in _ (by omega)
  have d4 : IntKind.i64.wrap ((r : Int) + (n : Int)) = ((r + n : Nat) : Int) := by rw [IntWalk.i64_in _ (by omega)]; omega
  have hr32 : r < 32 := by omega
  have HAT : Hid (at_ = 32 * d + r) := Lib.hid (by omega)
  obtain ⟨q, hq⟩ : ∃ q, q = r + n := ⟨_, rfl⟩
  rw [← hq] at d4
  have HQ := Lib.hid hq
  have HRR := Lib.hid hr32
  have HFL := Lib.hid hF
  have hd6 : d ≤ 100000 := by omega
  clear hd hr hq hr32
  go_enter Tryd.func17, Tryd.ntmps17
  go_wp2_with fail
  go_loopw [7, 8] (fun v i wr => ∃ k : Nat, i = .int .i64 ((d + k : Nat) : Int) ∧ 32 * k < q + 32 ∧ Ci.ownB wr w.heap.size v (tbytes F (32 * d) (32 * k)) ∧ Below w.heap.size w wr) (fun v _ _ => 2000 - (match v with | .slice _ m _ => m | _ => 0))
  case atStart => exact ⟨0, by first | rfl | simp, by omega, own_nil _ _, Below.refl _ _⟩
  case round =>
    obtain ⟨k, rfl, hk, ho, hB⟩ := hrel
    rename World => wo
    have HO := Lib.hid ho
    have HB := Lib.hid hB
    obtain ⟨va, vc, rfl, o1, o2, o3, o4⟩ := ho.form
    rw [tbytes_length] at o1 ⊢
    rw [tbytes_length] at HO
    have hq2 : q ≤ 1032 := by have := HQ.out; have := HRR.out; omega
    by_cases hlt : 32 * k < q
    · obtain ⟨m, hm⟩ : ∃ m, m = 32 * k := ⟨_, rfl⟩
      rw [← hm] at HO o1 ⊢
      have p1 : (m : Int) < (q : Int) := by omega
      obtain ⟨c, hc⟩ : ∃ c, c = d + k := ⟨_, rfl⟩
      rw [← hc]
      have hc6 : c ≤ 200000 := by omega
      have HC := Lib.hid hc
      have HM := Lib.hid hm
      clear hc hm ho hB o1 o2 o3 o4
      go_wp2_with fail
      go_loopw [9, 10] (fun cv kv wr => ∃ j : Nat, j ≤ 8 ∧ kv = .int .i64 (56 - 8 * (j : Int)) ∧ Ci.ownB wr wo.heap.size cv ((be8 c).take j) ∧ Below wo.heap.size wo wr) (fun cv _ _ => 8 - (match cv with | .slice _ m _ => m | _ => 0))
      case atStart => exact ⟨0, by omega, by first | rfl | simp, own_nil _ _, Below.refl _ _⟩
      case round =>
        obtain ⟨j, hj, rfl, hc9, hb9⟩ := hrel
        have H9 := Lib.hid hc9
        have B9 := Lib.hid hb9
        obtain ⟨ca, cc, rfl, o1, o2, o3, o4⟩ := hc9.form
        have hjl : ((be8 c).take j).length = j := by rw [List.length_take, be8_length]; omega
        rw [hjl] at o1 ⊢
        rw [hjl] at H9
        clear hc9 hb9 o1 o2 o4
        by_cases hj8 : j < 8
        · obtain ⟨s, hs⟩ : ∃ s, s = 8 * (7 - j) := ⟨_, rfl⟩
          have es : (56 : Int) - 8 * (j : Int) = (s : Int) := by omega
          rw [es]
          have p2 : (0 : Int) ≤ (s : Int) := by omega
          have p3 : (s : Int) ≤ 64 := by omega
          have p4 : ¬ (s : Int) < 0 := by omega
          have p5 : IntKind.u8.wrap ((c : Int) / 2 ^ s) = V (beB c j) := wrap_be c j s hs
          have p6 : IntKind.i64.wrap ((s : Int) - 8) = (s : Int) - 8 := IntWalk.i64_in _ (by omega)
          obtain ⟨x, hx⟩ : ∃ x, x = beB c j := ⟨_, rfl⟩
          have E9 := Lib.hid (be8_succ c j hj8)
          rw [← hx] at p5 E9
          have kl := alloc_below wr (.cells [.int .u8 (V x)].toArray 5 (0, 0))
          have IN : Hid (bytesIn (wr.alloc (.cells [.int .u8 (V x)].toArray 5 (0, 0))) (some ⟨wr.heap.size, 0, none⟩) [x]) := Lib.hid (Or.inr ⟨_, _, rfl, fun i hi => by
            obtain rfl : i = 0 := by simpa using hi
            rw [(blockIs.new wr [.int .u8 (V x)] 5).cell]
            rfl⟩)
          have OC := Lib.hid (own_kept H9.out kl)
          have BL := Lib.hid (B9.out.trans (kl.mono B9.out.size))
          have hl2 : ((be8 c).take j).length + [x].length ≤ 1000000 := by rw [hjl]; show j + 1 ≤ _; omega
          have HS := Lib.hid es
          have HJL := Lib.hid hjl
          clear kl hs es hx H9 B9 hjl o3
          go_wp2_with (at_builtin; (refine Ci.wpList_append_ownB rfl _ _ rfl wo.heap.size _ ((be8 c).take j) rfl OC.out _ 1 1 [x] rfl rfl (fun e => by cases e) IN.out hl2 BL.out.size ?_; intro v4 w4 r4 r5; rw [← E9.out] at r4; have R4 := Lib.hid r4.out; have B4 := Lib.hid (BL.out.trans r5.out); clear r4 r5))
          obtain ⟨ca4, cc4, rfl, -⟩ := R4.out.form
          go_roundw
          case rel =>
            have := HS.out
            exact ⟨j + 1, by omega, by first | go_num | (congr 1; omega), R4.out, B4.out⟩
          case measure =>
            show 8 - ((be8 c).take (j + 1)).length < 8 - j
            rw [List.length_take, be8_length]; omega
        · obtain rfl : j = 8 := by omega
          have p4 : (56 : Int) - 8 * ((8 : Nat) : Int) < 0 := by omega
          have e8 : (be8 c).take 8 = be8 c := List.take_of_length_le (by rw [be8_length]; exact Nat.le_refl _)
          rw [e8] at H9 o3
          have cv := conv_string wr ca (be8 c) cc o3
          rw [be8_length] at cv
          have f1 := str_size F
          have f2 := str_size (be8 c)
          have f4 : (str F).size + (str (be8 c)).size ≤ 9223372036854775807 := by rw [f1, f2, be8_length]; have := HFL.out; omega
          have OW := Lib.hid (own_kept HO.out B9.out)
          have BW := Lib.hid (HB.out.trans (B9.out.mono HB.out.size))
          clear hjl H9 o3 B9
          have hsa := str_append F (be8 c)
          have hl0 : (F ++ be8 c).length ≤ 100000 := by rw [List.length_append, be8_length]; have := HFL.out; omega
          have CO := Lib.hid (rof_any (F ++ be8 c) wr hl0)
          rw [show sha (F ++ be8 c) = trow F c from rfl, ← hsa] at CO
          have HTL := Lib.hid (trow_length F c)
          generalize hD : trow F c = D at *
          have HD := Lib.hid hD
          clear hD hsa hl0 e8
          go_wp2_with fail
          with_reducible refine CO.out.mono ?_
          rintro e w5 ⟨rfl, kk⟩
          have O5 := Lib.hid (own_kept OW.out kk)
          have B5 := Lib.hid (BW.out.trans (kk.mono BW.out.size))
          obtain ⟨i0, hi, hz0, hz1, hz2⟩ := info_parts Ci.info_u8
          have hds := str_size D
          have hn1 : m + (str D).size ≤ maxLen := by rw [hds, HTL.out]; unfold maxLen; omega
          have hn2 : m + (str D).size ≤ 140737488355328 := by rw [hds, HTL.out]; omega
          have O5' : w5.ownsRow w.heap.size 5 1 (.slice va m vc) m (byteCells (tbytes F (32 * d) m)) := by
            have := O5.out
            unfold Ci.ownB at this
            rwa [tbytes_length] at this
          have O6 := Lib.hid O5'
          clear kk CO cv f1 f2 f4 OW BW O5'
          go_wp2_with (at_builtin; (refine Go.Lib.wpList_append_own_string w5 rfl _ _ 22 9 rfl w.heap.size 5 i0 Tryd.underlying22 Tryd.underlying9 hi hz0 hz1 hz2 _ m _ rfl O6.out (str D) rfl hn1 hn2 B5.out.size ?_; intro v6 w6 r6 r7 r8; have R6 := Lib.hid r6; have B6 := Lib.hid (B5.out.trans (Ci.grown_below O6.out r7 B5.out.size)); clear r6 r7 r8))
          have O7 : Hid (Ci.ownB w6 w.heap.size v6 (tbytes F (32 * d) (32 * (k + 1)))) := Lib.hid (by
            have h := R6.out
            rw [hds, HTL.out, show Lib.strCells (str D) = byteCells D from rfl, ← Ci.byteCells_append, ← HD.out, HC.out, HM.out, tbytes_one] at h
            unfold Ci.ownB
            rwa [tbytes_length, show 32 * (k + 1) = 32 * k + 32 by omega])
          clear R6 O5 O6
          obtain ⟨va6, vc6, rfl, -⟩ := O7.out.form
          go_roundw
          case rel =>
            have h1 := HC.out
            have h2 := HM.out
            exact ⟨k + 1, by first | go_num | (congr 1; omega), by omega, O7.out, B6.out⟩
          case measure =>
            have h2 := HM.out
            show 2000 - (tbytes F (32 * d) (32 * (k + 1))).length < 2000 - m
            rw [tbytes_length]; omega
    · have p1 : ¬ ((32 * k : Nat) : Int) < (q : Int) := by omega
      obtain ⟨m, hm⟩ : ∃ m, m = 32 * k := ⟨_, rfl⟩
      have hqm : q ≤ m := by omega
      have hrq : r ≤ q := by have := HQ.out; omega
      have okp : (⟨va, vc, tbytes F (32 * d) (32 * k)⟩ : Pt).ok wo := ⟨by show (tbytes F (32 * d) (32 * k)).length ≤ vc; rw [tbytes_length]; exact o1, o2, o3⟩
      have hlm : (tbytes F (32 * d) (32 * k)).length = m := by rw [tbytes_length, hm]
      have gs := fun X => (⟨va, vc, tbytes F (32 * d) (32 * k)⟩ : Pt).run_lh r q hrq (by show q ≤ (tbytes F (32 * d) (32 * k)).length; omega) okp.1 X
      have ok2 := Pt.sub_ok okp r q hrq (by show q ≤ (tbytes F (32 * d) (32 * k)).length; omega)
      dsimp only at gs
      rw [hlm] at gs
      have hpl : ((⟨va, vc, tbytes F (32 * d) (32 * k)⟩ : Pt).sub r q).l = tbytes F at_ n := by
        show ((tbytes F (32 * d) (32 * k)).take q).drop r = _
        rw [HQ.out, tbytes_sub F (32 * d) r n (32 * k) (by have := HQ.out; omega), HAT.out]
      generalize (⟨va, vc, tbytes F (32 * d) (32 * k)⟩ : Pt).sub r q = pq at *
      have cv := conv_string wo pq.a pq.l pq.c ok2.2.2
      have HPL := Lib.hid hpl
      rw [← hm] at p1 ⊢
      have r0 : (0 : Int) ≤ (r : Int) := by omega
      clear okp hlm ok2 hpl hm HO ho
      go_wp2_with fail
      go_ret
      exact ⟨congrArg (fun b => Ending.returned (.string (str b))) HPL.out, HB.out⟩
end Go.Proofs.YtjkhokholcchfaaDoor
