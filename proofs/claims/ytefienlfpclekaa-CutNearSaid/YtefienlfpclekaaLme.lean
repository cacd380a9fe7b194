/- CutMeeting: for every rule and all bytes the law returns true, and its argument reads as before. No condition. -/
import Derived.Test.YtefienlfpclekaaStep
import Derived.Lib.SmallJoins
import Derived.Deep.DeepCutAuto
namespace Go.Proofs.Ytefienlfpclekaa
open Go.RowKit

theorem valsIn.drop {w : World} {a : Option Addr} {xs : List Value} (h : valsIn w a xs) (k : Nat) : valsIn w (a.map fun x => x.add k) (xs.drop k) := by
  rcases h with h | ⟨bb, bo, rfl, h2⟩
  · exact Or.inl (by rw [h, List.drop_nil])
  · refine Or.inr ⟨bb, bo + k, by show some (Addr.add _ k) = _; rw [Addr.add_lit], fun j hj => ?_⟩
    rw [List.length_drop] at hj
    rw [show bo + k + j = bo + (k + j) by omega, h2 (k + j) (by omega), List.getElem?_drop]
/-- Where both rows have an end at one place of what is alike, all pieces behind it are the same. -/
theorem Rl.meet (r : Rl) (one two same : List UInt8) (i k : Nat) (h1 : one.length ≤ ((r.sizes (one ++ same)).take i).sum) (h2 : two.length ≤ ((r.sizes (two ++ same)).take k).sum) (h3 : ((r.sizes (one ++ same)).take i).sum - one.length = ((r.sizes (two ++ same)).take k).sum - two.length) :
    (r.sizes (one ++ same)).drop i = (r.sizes (two ++ same)).drop k := by
  rw [r.sizes_drop, r.sizes_drop, List.drop_append, List.drop_append, List.drop_of_length_le h1, List.drop_of_length_le h2, h3]
def twinCells (a b c : Int) (m : W) (a1 : Option Addr) (x1 n1 : Nat) (a2 : Option Addr) (x2 n2 : Nat) (a3 : Option Addr) (x3 n3 : Nat) : List Value := [.int .i64 a, .int .i64 b, .int .i64 c, .int .u64 (U m), .slice a1 x1 n1, .slice a2 x2 n2, .slice a3 x3 n3]
set_option maxRecDepth 100000 in
set_option maxHeartbeats 4000000 in
theorem law_cutMeeting (la ma ba : Int) (po : W) (a1 : Option Addr) (n1 : Nat) (L1 : List UInt8) (a2 : Option Addr) (n2 : Nat) (L2 : List UInt8) (a3 : Option Addr) (n3 : Nat) (L3 : List UInt8) (w : World) (h1 : (Lit.int .i64 la).wf = true) (h2 : (Lit.int .i64 ma).wf = true) (h3 : (Lit.int .i64 ba).wf = true) (hl1 : L1.length ≤ n1) (hin1 : bytesIn w a1 L1) (hz1 : a1 = none → n1 = 0) (hl2 : L2.length ≤ n2) (hin2 : bytesIn w a2 L2) (hz2 : a2 = none → n2 = 0) (hl3 : L3.length ≤ n3) (hin3 : bytesIn w a3 L3) (hz3 : a3 = none → n3 = 0) :
    Calls Try.prog 7 #[.agg #[.int .i64 la, .int .i64 ma, .int .i64 ba, .int .u64 (U po), .slice a1 L1.length n1, .slice a2 L2.length n2, .slice a3 L3.length n3]] w fun e w' => e = .returned (.bool true) ∧ Below w.heap.size w w' := by
  have I1 := Lib.hid (hin1.take 2500)
  have I2 := Lib.hid (hin2.take 2500)
  have I3 := Lib.hid (hin3.take 2500)
  have Z1 := Lib.hid hz1
  have Z2 := Lib.hid hz2
  have Z3 := Lib.hid hz3
  clear hin1 hin2 hin3 hz1 hz2 hz3
  have B0 := Lib.hid (blockIs.new w (twinCells la ma ba po a1 L1.length n1 a2 L2.length n2 a3 L3.length n3) 52)
  go_enter Try.func7, Try.ntmps7
  go_wp2_with fail
  refine (tame_any la ma ba po _ h1 h2 h3).mono ?_
  rintro e w2 ⟨r, hr, rfl, hb⟩
  have H2 := Lib.hid (((Below.refl w.heap.size w).alloc (Nat.le_refl _) (.cells (twinCells la ma ba po a1 L1.length n1 a2 L2.length n2 a3 L3.length n3).toArray 52 (0, 0))).trans (hb.mono (by simp)))
  have B2 := Lib.hid (B0.out.below hb (by simp))
  have hsz : w.heap.size < w2.heap.size := B2.out.lt
  clear hb B0
  have c4 : w2.cell? ⟨w.heap.size, 4, none⟩ = some (.slice a1 L1.length n1) := B2.out.cell 4
  have c5 : w2.cell? ⟨w.heap.size, 5, none⟩ = some (.slice a2 L2.length n2) := B2.out.cell 5
  have c6 : w2.cell? ⟨w.heap.size, 6, none⟩ = some (.slice a3 L3.length n3) := B2.out.cell 6
  go_wp2_with fail
  have B3 := Lib.hid (blockIs.new w2 (ruleCells (r.least : Int) (r.most : Int) (r.bits : Int) r.poly) 24)
  have H3 := Lib.hid (H2.out.alloc H2.out.size (.cells (ruleCells (r.least : Int) (r.most : Int) (r.bits : Int) r.poly).toArray 24 (0, 0)))
  have C3 := B2.out.alloc (.cells (ruleCells (r.least : Int) (r.most : Int) (r.bits : Int) r.poly).toArray 24 (0, 0))
  unfold ruleCells at B3 H3 C3
  have hg := B3.out.lt
  clear c4 c5 c6 B2 H2
  generalize w2.alloc (.cells #[Value.int .i64 (r.least : Int), .int .i64 (r.most : Int), .int .i64 (r.bits : Int), .int .u64 (U r.poly)] 24 (0, 0)) = w3 at *
  generalize w2.heap.size = gr at *
  have c4 : w3.cell? ⟨w.heap.size, 4, none⟩ = some (.slice a1 L1.length n1) := C3.cell 4
  have c5 : w3.cell? ⟨w.heap.size, 5, none⟩ = some (.slice a2 L2.length n2) := C3.cell 5
  have c6 : w3.cell? ⟨w.heap.size, 6, none⟩ = some (.slice a3 L3.length n3) := C3.cell 6
  go_region_held3 (fun w' => w'.cell? ⟨w.heap.size, 4, none⟩ = some (.slice a1 L1.length n1) ∧ w'.cell? ⟨w.heap.size, 5, none⟩ = some (.slice a2 L2.length n2) ∧ w'.cell? ⟨w.heap.size, 6, none⟩ = some (.slice a3 L3.length n3))
    (first | assumption | go_keep)
    (first
    | (go_at_call 10
       with_reducible refine (bytes_any a1 _ _ _ hl1).mono ?_
       rintro e w2 ⟨rfl, rfl⟩)
    | (go_at_call 10
       with_reducible refine (bytes_any a2 _ _ _ hl2).mono ?_
       rintro e w2 ⟨rfl, rfl⟩)
    | (go_at_call 10
       with_reducible refine (bytes_any a3 _ _ _ hl3).mono ?_
       rintro e w2 ⟨rfl, rfl⟩))
  have B4 : Hid (blockIs (w3.drew) gr (ruleCells (r.least : Int) (r.most : Int) (r.bits : Int) r.poly) 24) := Lib.hid B3.out
  have H4 := Lib.hid H3.out.drew
  have hg4 : gr < (w3.drew).heap.size := hg
  clear c4 c5 c6 B3 H3 C3 hg
  generalize w3.drew = w4 at *
  have e4_1 : min L1.length 2500 = (L1.take 2500).length := by rw [List.length_take]; omega
  have e5_1 : (L1.take 2500).length ≤ 2500 := by rw [List.length_take]; omega
  have e4_2 : min L2.length 2500 = (L2.take 2500).length := by rw [List.length_take]; omega
  have e5_2 : (L2.take 2500).length ≤ 2500 := by rw [List.length_take]; omega
  have e4_3 : min L3.length 2500 = (L3.take 2500).length := by rw [List.length_take]; omega
  have e5_3 : (L3.take 2500).length ≤ 2500 := by rw [List.length_take]; omega
  rw [e4_1, e4_2, e4_3]
  clear e4_1 e4_2 e4_3
  generalize L1.take 2500 = l1 at *
  generalize L2.take 2500 = l2 at *
  generalize L3.take 2500 = l3 at *
  have c0 : w4.cell? ⟨gr, 0, none⟩ = some (.int .i64 (r.least : Int)) := B4.out.cell 0
  have c1 : w4.cell? ⟨gr, 1, none⟩ = some (.int .i64 (r.most : Int)) := B4.out.cell 1
  have c2 : w4.cell? ⟨gr, 2, none⟩ = some (.int .i64 (r.bits : Int)) := B4.out.cell 2
  have c3 : w4.cell? ⟨gr, 3, none⟩ = some (.int .u64 (U r.poly)) := B4.out.cell 3
  go_wp2_with fail
  with_reducible refine (to_any _ _ _ _ _).mono ?_
  rintro e w5 ⟨rfl, hb⟩
  have H5 := Lib.hid (H4.out.trans (hb.mono H4.out.size))
  have B5 := Lib.hid (B4.out.below hb B4.out.lt)
  have G5 : Hid (gr < w5.heap.size) := Lib.hid (Nat.lt_of_lt_of_le hg4 hb.size)
  clear hb B4 H4 c0 c1 c2 c3
  go_wp2_with (at_builtin; refine append_bytes rfl _ _ rfl w5.heap.size _ [] rfl (rowIs.empty _ _ (Nat.le_refl _)) a1 _ n1 l1 rfl rfl Z1.out ((I1.out.below H5.out (Nat.le_refl _)).below ((Below.refl w5.heap.size w5).alloc (Nat.le_refl _) _) (Nat.le_refl _)) (by simp; omega) (by simp) ?_)
  intro v6 w6 hown hgr
  have M6 := Lib.hid (((Below.refl w5.heap.size w5).alloc (Nat.le_refl _) _).trans ((rowIs.empty w5 w5.heap.size (Nat.le_refl _)).grew (by simp) hgr))
  have R6 := Lib.hid hown
  clear hown hgr
  go_wp2_with (at_builtin; refine append_bytes rfl _ _ rfl w5.heap.size _ l1 rfl R6.out a3 _ n3 l3 rfl rfl Z3.out ((I3.out.below H5.out (Nat.le_refl _)).below M6.out (Nat.le_refl _)) (by omega) M6.out.size ?_)
  intro v7 w7 hown hgr
  have M7 := Lib.hid (M6.out.trans (R6.out.grew M6.out.size hgr))
  obtain ⟨ar, cr, rfl, lr, ir, zr⟩ := hown.bytes
  have R7 := Lib.hid ir
  clear hown hgr ir zr R6 M6
  go_wp2_with fail
  have P := sizes_any r hr ar (l1 ++ l3) cr w7 lr (by rw [List.length_append]; omega) R7.out
  rw [List.length_append] at P
  with_reducible refine P.mono ?_
  clear P
  rintro e w8 ⟨v, rfl, hrow, hb⟩
  have M8 := Lib.hid (M7.out.trans (hb.mono M7.out.size))
  have H8 := Lib.hid (H5.out.trans (M8.out.mono H5.out.size))
  have B8 := Lib.hid (B5.out.below M8.out G5.out)
  have G8 : Hid (gr < w8.heap.size) := Lib.hid (Nat.lt_of_lt_of_le G5.out M8.out.size)
  obtain ⟨sa, sc, rfl, sl, hv, hz⟩ := hrow.vals
  have V8 := Lib.hid hv
  clear hb hrow hv hz M7 R7 H5 B5 G5 M8
  rw [ivals_length] at sl ⊢
  have c0 : w8.cell? ⟨gr, 0, none⟩ = some (.int .i64 (r.least : Int)) := B8.out.cell 0
  have c1 : w8.cell? ⟨gr, 1, none⟩ = some (.int .i64 (r.most : Int)) := B8.out.cell 1
  have c2 : w8.cell? ⟨gr, 2, none⟩ = some (.int .i64 (r.bits : Int)) := B8.out.cell 2
  have c3 : w8.cell? ⟨gr, 3, none⟩ = some (.int .u64 (U r.poly)) := B8.out.cell 3
  go_wp2_with fail
  with_reducible refine (to_any _ _ _ _ _).mono ?_
  rintro e w9 ⟨rfl, hb⟩
  have H9 := Lib.hid (H8.out.trans (hb.mono H8.out.size))
  have V9 := Lib.hid (V8.out.below hb (Nat.le_refl _))
  clear hb B8 H8 V8 c0 c1 c2 c3 G8
  go_wp2_with (at_builtin; refine append_bytes rfl _ _ rfl w9.heap.size _ [] rfl (rowIs.empty _ _ (Nat.le_refl _)) a2 _ n2 l2 rfl rfl Z2.out ((I2.out.below H9.out (Nat.le_refl _)).below ((Below.refl w9.heap.size w9).alloc (Nat.le_refl _) _) (Nat.le_refl _)) (by simp; omega) (by simp) ?_)
  intro v10 w10 hown hgr
  have M10 := Lib.hid (((Below.refl w9.heap.size w9).alloc (Nat.le_refl _) _).trans ((rowIs.empty w9 w9.heap.size (Nat.le_refl _)).grew (by simp) hgr))
  have R10 := Lib.hid hown
  clear hown hgr
  go_wp2_with (at_builtin; refine append_bytes rfl _ _ rfl w9.heap.size _ l2 rfl R10.out a3 _ n3 l3 rfl rfl Z3.out ((I3.out.below H9.out (Nat.le_refl _)).below M10.out (Nat.le_refl _)) (by omega) M10.out.size ?_)
  intro v11 w11 hown hgr
  have M11 := Lib.hid (M10.out.trans (R10.out.grew M10.out.size hgr))
  obtain ⟨aq, cq, rfl, lq, iq, zq⟩ := hown.bytes
  have R11 := Lib.hid iq
  clear hown hgr iq zq R10 M10
  go_wp2_with fail
  have P := sizes_any r hr aq (l2 ++ l3) cq w11 lq (by rw [List.length_append]; omega) R11.out
  rw [List.length_append] at P
  with_reducible refine P.mono ?_
  clear P
  rintro e w12 ⟨v, rfl, hrow, hb⟩
  have M12 := Lib.hid (M11.out.trans (hb.mono M11.out.size))
  have H12 := Lib.hid (H9.out.trans (M12.out.mono H9.out.size))
  have V12 := Lib.hid (V9.out.below M12.out (Nat.le_refl _))
  obtain ⟨ta, tc, rfl, tl, hv, hz⟩ := hrow.vals
  have T12 := Lib.hid hv
  clear hb hrow hv hz M11 R11 H9 V9 M12
  rw [ivals_length] at tl ⊢
  go_wp2_with fail
  with_reducible refine (cuts_any _).mono ?_
  rintro e w13 ⟨rfl, hb⟩
  have H13 := Lib.hid (H12.out.trans (hb.mono H12.out.size))
  have V13 := Lib.hid (V12.out.below hb (Nat.le_refl _))
  have T13 := Lib.hid (T12.out.below hb (Nat.le_refl _))
  clear hb H12 V12 T12
  have HM := Lib.hid (r.meet l1 l2 l3)
  have HLS : Hid ((r.sizes (l1 ++ l3)).sum ≤ 5000 ∧ (r.sizes (l1 ++ l3)).length ≤ 5000) := Lib.hid (by have := r.sizes_sum (l1 ++ l3); have := r.sizes_len (l1 ++ l3); rw [List.length_append] at *; omega)
  have HLT : Hid ((r.sizes (l2 ++ l3)).sum ≤ 5000 ∧ (r.sizes (l2 ++ l3)).length ≤ 5000) := Lib.hid (by have := r.sizes_sum (l2 ++ l3); have := r.sizes_len (l2 ++ l3); rw [List.length_append] at *; omega)
  generalize r.sizes (l1 ++ l3) = S at *
  generalize r.sizes (l2 ++ l3) = T at *
  go_wp2_with fail
  go_loopw [11, 12, 13, 14] (fun u1 u2 u3 u4 wr => ∃ i k : Nat, i ≤ S.length ∧ k ≤ T.length ∧ u1 = .int .i64 (i : Int) ∧ u2 = .int .i64 (k : Int) ∧ u3 = .int .i64 ((S.take i).sum : Int) ∧ u4 = .int .i64 ((T.take k).sum : Int) ∧ Hid (Below w13.heap.size w13 wr)) (fun u1 u2 _ _ _ => (S.length - (intOf u1).toNat) + (T.length - (intOf u2).toNat))
  case atStart => exact ⟨0, 0, Nat.zero_le _, Nat.zero_le _, rfl, rfl, rfl, rfl, Lib.hid (Below.refl _ _)⟩
  case round =>
    obtain ⟨i, k, hi, hk, rfl, rfl, rfl, rfl, K1⟩ := hrel
    have p0 : 0 ≤ (i : Int) := by omega
    have p1 : 0 ≤ (k : Int) := by omega
    have p2 : (S.length : Int) ≤ 5000 := by have := HLS.out.2; omega
    have p3 : (T.length : Int) ≤ 5000 := by have := HLT.out.2; omega
    by_cases hlt : i < S.length ∧ k < T.length
    · obtain ⟨hi2, hk2⟩ := hlt
      have q0 : (i : Int) < (S.length : Int) := by omega
      have q1 : (k : Int) < (T.length : Int) := by omega
      have HTS := Lib.hid (sum_take S i hi2)
      have HTT := Lib.hid (sum_take T k hk2)
      have s1 := sum_le S (i + 1)
      have s2 := sum_le T (k + 1)
      rw [HTS.out] at s1
      rw [HTT.out] at s2
      have s3 : (S.take i).sum + S.getD i 0 ≤ 5000 := Nat.le_trans s1 HLS.out.1
      have s4 : (T.take k).sum + T.getD k 0 ≤ 5000 := Nat.le_trans s2 HLT.out.1
      clear s1 s2
      have HMM : Hid (l1.length ≤ (S.take i).sum → l2.length ≤ (T.take k).sum → (S.take i).sum - l1.length = (T.take k).sum - l2.length → S.drop i = T.drop k) := Lib.hid (HM.out i k)
      obtain ⟨b1, o1, rfl, d1⟩ := (V13.out.below K1.out (Nat.le_refl _)).at i (by rw [ivals_length]; omega)
      obtain ⟨b2, o2, rfl, d2⟩ := (T13.out.below K1.out (Nat.le_refl _)).at k (by rw [ivals_length]; omega)
      have e1 : (ivals S)[i]'(by rw [ivals_length]; omega) = .int .i64 ((S.getD i 0 : Nat) : Int) := by simp [ivals, hi2]
      have e2 : (ivals T)[k]'(by rw [ivals_length]; omega) = .int .i64 ((T.getD k 0 : Nat) : Int) := by simp [ivals, hk2]
      rw [e1] at d1
      rw [e2] at d2
      clear e1 e2
      have cs : ¬ sc = i := by omega
      have ct : ¬ tc = k := by omega
      have is1 : (i : Int) ≤ (sc : Int) := by omega
      have is2 : (k : Int) ≤ (tc : Int) := by omega
      have PI : Hid (∀ w', Below wr.heap.size wr w' → Calls Try.prog 21 #[.slice (some ⟨b1, o1 + i, none⟩) (S.length - i) (sc - i), .slice (some ⟨b2, o2 + k, none⟩) (T.length - k) (tc - k)] w' fun e w'' => e = .returned (.bool (decide (S.drop i = T.drop k))) ∧ Below w'.heap.size w' w'') := Lib.hid (fun w' hb => by
        have P := ints_any (some ⟨b1, o1 + i, none⟩) (sc - i) (S.drop i) (some ⟨b2, o2 + k, none⟩) (tc - k) (T.drop k) w' (by
            have := ((V13.out.below K1.out (Nat.le_refl _)).drop i).below hb (Nat.le_refl _)
            rw [show Option.map (fun x : Addr => x.add i) (some ⟨b1, o1, none⟩) = some ⟨b1, o1 + i, none⟩ by show some (Addr.add _ i) = _; rw [Addr.add_lit]] at this
            rw [show (ivals S).drop i = ivals (S.drop i) by simp [ivals]] at this
            exact this) (by
            have := ((T13.out.below K1.out (Nat.le_refl _)).drop k).below hb (Nat.le_refl _)
            rw [show Option.map (fun x : Addr => x.add k) (some ⟨b2, o2, none⟩) = some ⟨b2, o2 + k, none⟩ by show some (Addr.add _ k) = _; rw [Addr.add_lit]] at this
            rw [show (ivals T).drop k = ivals (T.drop k) by simp [ivals]] at this
            exact this) (by rw [List.length_drop]; omega)
        rw [List.length_drop, List.length_drop] at P
        exact P)
      generalize hp : (S.take i).sum = p at *
      generalize hq : (T.take k).sum = q at *
      have HP := Lib.hid hp
      have HQ := Lib.hid hq
      clear hp hq
      generalize S.getD i 0 = x at *
      generalize T.getD k 0 = y at *
      go_wp2_with fail
      · have hf : decide (S.drop i = T.drop k) = true := by
          have ha : l1.length ≤ p := by assumption
          have hb : l2.length ≤ q := by assumption
          have hc : ((p : Int) - (l1.length : Int) == (q : Int) - (l2.length : Int)) = true := by assumption
          apply decide_eq_true
          have hc2 : (p : Int) - (l1.length : Int) = (q : Int) - (l2.length : Int) := by simpa using hc
          exact HMM.out ha hb (by omega)
        rw [hf] at PI
        go_region_held3 (fun _ => True) (trivial)
          (first
          | (go_at_call 21
             with_reducible refine (PI.out _ (Below.refl _ _).drew).mono ?_
             rintro e w14 ⟨rfl, hb14⟩))
        all_goals
          go_wp2_with fail
          go_ret
          exact ⟨rfl, H13.out.trans ((K1.out.trans (((Below.refl wr.heap.size wr).drew.trans hb14).mono K1.out.size)).mono H13.out.size)⟩
      all_goals
        go_roundw
        case rel =>
          first
          | exact ⟨i + 1, k, by omega, by omega, by go_num, rfl, by rw [HTS.out]; go_num, by rw [HQ.out], K1⟩
          | exact ⟨i, k + 1, by omega, by omega, rfl, by go_num, by rw [HP.out], by rw [HTT.out]; go_num, K1⟩
        case measure => simp [intOf]; omega
    · go_wp2_with fail
      all_goals
        go_ret
        exact ⟨rfl, H13.out.trans (K1.out.mono H13.out.size)⟩

theorem array7 {α : Type} {cs : Array α} (h : cs.size = 7) : ∃ c0 c1 c2 c3 c4 c5 c6, cs = #[c0, c1, c2, c3, c4, c5, c6] := by
  obtain ⟨l⟩ := cs
  match l, h with
  | [c0, c1, c2, c3, c4, c5, c6], _ => exact ⟨c0, c1, c2, c3, c4, c5, c6, rfl⟩
namespace cutMeeting
open Go.ChangeShapes Go.WideShapes Go.ChangeAt Go.RowKit Go.Joins Go.Deep
theorem open_twins {H : Type} {enc : TypeId × Value → H} {w : World} {base : Nat} {r : Reach} {b0 : Nat} {v : Value} {d : DataW H} {p : List MemPlace}
    (hv : Value.okWide Try.prog w r b0 52 v) (h : DataW.Trod enc Try.prog w base (fun _ => true) true 52 v d p) :
    ∃ (a b c e : Int) (a1 : Option Addr) (n1 : Nat) (F1 : List UInt8) (a2 : Option Addr) (n2 : Nat) (F2 : List UInt8) (a3 : Option Addr) (n3 : Nat) (F3 : List UInt8),
      v = .agg #[.int .i64 a, .int .i64 b, .int .i64 c, .int .u64 e, .slice a1 F1.length n1, .slice a2 F2.length n2, .slice a3 F3.length n3] ∧
      (Lit.int .i64 a).wf = true ∧ (Lit.int .i64 b).wf = true ∧ (Lit.int .i64 c).wf = true ∧ (Lit.int .u64 e).wf = true ∧
      F1.length ≤ n1 ∧ bytesIn w a1 F1 ∧ (a1 = none → n1 = 0) ∧ F2.length ≤ n2 ∧ bytesIn w a2 F2 ∧ (a2 = none → n2 = 0) ∧ F3.length ≤ n3 ∧ bytesIn w a3 F3 ∧ (a3 = none → n3 = 0) := by
  have kr : Try.prog.cellsOf 24 = 4 := by kernel_rfl
  have kb : Try.prog.cellsOf 25 = 1 := by kernel_rfl
  have ki : Try.prog.cellsOf 3 = 1 := by kernel_rfl
  have ku : Try.prog.cellsOf 22 = 1 := by kernel_rfl
  obtain ⟨cs, rfl, hsz⟩ := okWide_struct Try.underlying52 hv
  obtain ⟨c0, c1, c2, c3, c4, c5, c6, rfl⟩ := array7 (hsz.trans (by kernel_rfl))
  obtain ⟨fuel, hf⟩ := h
  obtain ⟨y0, y1, y2, y3, n, _, _, h0, h1, h2, h3⟩ := trod_struct4 Try.underlying52 hf
  have h0 : DataW.trod enc Try.prog w base (fun _ => true) true n 24 [c0, c1, c2, c3] = some y0 := by simpa [Value.cells, kr] using h0
  have h1 : DataW.trod enc Try.prog w base (fun _ => true) true n 25 [c4] = some y1 := by simpa [Value.cells, kb] using h1
  have h2 : DataW.trod enc Try.prog w base (fun _ => true) true n 25 [c5] = some y2 := by simpa [Value.cells, kb] using h2
  have h3 : DataW.trod enc Try.prog w base (fun _ => true) true n 25 [c6] = some y3 := by simpa [Value.cells, kb] using h3
  obtain ⟨z0, z1, z2, z3, m, _, _, g0, g1, g2, g3⟩ := trod_struct4 Try.underlying24 h0
  obtain ⟨a, e0, _, w0⟩ := DataW.trod_int Try.underlying3 (by simpa [ki] using g0)
  obtain ⟨b, e1, _, w1⟩ := DataW.trod_int Try.underlying3 (by simpa [ki] using g1)
  obtain ⟨c, e2, _, w2⟩ := DataW.trod_int Try.underlying3 (by simpa [ki] using g2)
  obtain ⟨e, e3, _, w3⟩ := DataW.trod_int Try.underlying22 (by simpa [ku] using g3)
  obtain rfl : c0 = .int .i64 a := by simpa using e0
  obtain rfl : c1 = .int .i64 b := by simpa using e1
  obtain rfl : c2 = .int .i64 c := by simpa using e2
  obtain rfl : c3 = .int .u64 e := by simpa using e3
  obtain ⟨a1, n1, F1, rfl, k1, i1, q1⟩ := open_bytes h1
  obtain ⟨a2, n2, F2, rfl, k2, i2, q2⟩ := open_bytes h2
  obtain ⟨a3, n3, F3, rfl, k3, i3, q3⟩ := open_bytes h3
  exact ⟨a, b, c, e, a1, n1, F1, a2, n2, F2, a3, n3, F3, rfl, w0, w1, w2, w3, k1, i1, q1, k2, i2, q2, k3, i3, q3⟩
set_option maxRecDepth 100000 in
theorem lifted (os : Os) (started : os.Started) (H : Type) (enc : TypeId × Value → H) :
    ReturnsInHanded {} Try.checked os 7 .any (Rows.cutMeetingSpec.pre6 enc Try.prog Try.f7 Rows.cutMeetingRow.domain false) (Rows.cutMeetingSpec.post enc Try.prog Try.f7 false true false false) := by
  refine returnsInHanded_of_change (C := Try.checked) own started (by kernel_rfl) Try.func7
    (ChangeSpec.witness6 (enc := enc) (C := Try.checked) false ⟨#[], #[.agg #[.int .i64 0, .int .i64 0, .int .i64 0, .int .u64 0, .slice none 0 0, .slice none 0 0, .slice none 0 0]], []⟩ 8 (by kernel_rfl) (by kernel_rfl) (by kernel_rfl) (by kernel_rfl)) ?_
  intro W base args ds gs before hval0 hW hcnd _
  have hval : ∀ (j : Nat) t v, Try.f7.params[j]? = some t → args[j]? = some v → Value.okWide Try.prog W .any base t v := hval0
  have hW' := hW
  obtain ⟨p, q, hA0, hV, rfl, hfz, hnd⟩ := hW
  have hA : DataW.TrodAll enc Try.prog W 0 (fun _ => true) true Try.f7.params.toList args.toList ds p := hA0
  rw [Try.params7] at hA hval
  obtain ⟨v0, vs0, d0, ds0, p0, q0, hargs, rfl, rfl, h0, r0⟩ := trodAll_cons hA
  obtain ⟨rfl, rfl, rfl⟩ := trodAll_nil r0
  obtain rfl : args = #[v0] := by cases args; simp_all
  obtain ⟨rfl, rfl⟩ := trodVars_none hV
  have h0k := h0
  obtain ⟨a, b, c, e, a1, n1, F1, a2, n2, F2, a3, n3, F3, rfl, w0, w1, w2, w3, k1, i1, z1, k2, i2, z2, k3, i3, z3⟩ := open_twins (hval 0 52 v0 rfl rfl) h0
  obtain ⟨x0, rfl⟩ := word_of e w3
  clear hA0 hval0
  simp only [List.append_nil, List.nil_append] at hW'
  have hlt : ∀ x ∈ p0, x.block < W.heap.size := fun x hx => hW'.lt x (by simpa using hx)
  refine (law_cutMeeting a b c x0 a1 n1 F1 a2 n2 F2 a3 n3 F3 W w0 w1 w2 k1 i1 z1 k2 i2 z2 k3 i3 z3).mono fun e W' ⟨he, hb⟩ => ?_
  subst he
  refine ⟨_, rfl, [d0], [], p0, [], p0, [], by simpa using hW', ?_, ?_, ?_, hb.frame _, fun h => by cases h⟩
  · exact trodAll_cons_mk (shut_bool Try.underlying4 _) trodAll_mk0
  · have := (trodAll_cons_mk (Below.trod laidOut (by kernel_rfl) (of_decide_eq_true (by kernel_rfl)) h0k hb (fun x hx => hlt x (by simp [hx]))) trodAll_mk0)
    simp only [List.append_nil, List.nil_append] at this
    exact this
  · rfl

theorem proved : Rows.CutMeetingSaid :=
  OpenClaim.holds_of_wide 7 Try.f7 rfl rfl rfl rfl rfl rfl rfl ⟨rfl, rfl, rfl, rfl, rfl⟩ rfl rfl rfl rfl rfl (by kernel_rfl) Try.func7 (by kernel_rfl)
    (of_decide_eq_true (by kernel_rfl)) (by unfold Func.isWrapper; first | (rw [if_pos (by decide +kernel)]; kernel_rfl) | (rw [if_neg (by decide +kernel)]; exact ⟨rfl, rfl⟩))
    (fun os started H enc _ => lifted os started H enc)
end cutMeeting
end Go.Proofs.Ytefienlfpclekaa
