/- CellStands: for every number, row of names and bytes: whatever somebody else does to the store, the cell tells its number. No condition. -/
import Derived.Test.YtdkilnglaiciiaaChecked
import Derived.Test.YtdkilnglaiciiaaSy
import Derived.Test.YtdkilnglaiciiaaLti
namespace Go.Proofs.Ytdkilnglaiciiaa
open Go.RowKit Go.MapKept
def stSh (L : List Ent) : Sh := ⟨100000, L, 1, false, false, 0⟩
theorem forged_st (L : List Ent) (n b : List UInt8) : ∃ L', forgedS (stSh L) n b = stSh L' := by
  unfold forgedS
  split
  · exact ⟨_, rfl⟩
  · exact ⟨L, rfl⟩
theorem stolen_st (L : List Ent) (n : List UInt8) : ∃ L', stolenS (stSh L) n = stSh L' := by
  unfold stolenS
  split
  · exact ⟨_, rfl⟩
  · exact ⟨L, rfl⟩
theorem ImageAt.step {w w' : World} {B i k : Nat} {mi m' : Option Nat} {L : List Ent} {cs : List Value} {t : TypeId} (h : ImageAt w B i mi L) (hs : Step k none w m' w') (hk : blockIs w k cs t) (hi : i ≠ k) : ImageAt w' B i mi L := by
  refine ⟨h.lo, ?_, h.nil, fun g e => ⟨(h.map g e).1, (h.map g e).2.of_block (hs.block g (h.map g e).2.lt ((h.map g e).2.ne_block hk) (fun e => by cases e))⟩⟩
  have e := hs.block i h.is.lt hi (fun e => by cases e)
  have := h.is
  unfold blockIs at this ⊢
  rw [e, this]
theorem strs_at {W : World} {a : Option Addr} {c : Nat} {T : List (List UInt8)} (h : rowStrs W a c T) (j : Nat) (hj : j < T.length) : ∃ b o, a = some ⟨b, o, none⟩ ∧ W.cell? ⟨b, o + j, none⟩ = some (.string (str (T.getD j []))) ∧ (T.getD j []).length ≤ 9223372036854775807 := by
  obtain ⟨b, o, e, d⟩ := h.2.2.2.at j (by rw [svals_length]; exact hj)
  have g : T.getD j [] = T[j] := by simp [hj]
  refine ⟨b, o, e, ?_, ?_⟩
  · rw [d]
    simp [svals, hj]
  · rw [g]
    exact h.2.2.1 _ (List.getElem_mem hj)
set_option maxRecDepth 100000 in
set_option maxHeartbeats 8000000 in
theorem law_cellStands (x : Int) (a1 : Option Addr) (c1 : Nat) (T : List (List UInt8)) (a2 : Option Addr) (c2 : Nat) (F : List UInt8) (W : World) (hx : (Lit.int .i64 x).wf = true) (g1 : rowStrs W a1 c1 T) (hFc : F.length ≤ c2) (hF : bytesIn W a2 F) (hz : a2 = none → c2 = 0) :
    Calls Try.prog 9 #[.int .i64 x, .slice a1 T.length c1, .slice a2 F.length c2] W fun e w' => e = .returned (.bool true) ∧ Below W.heap.size W w' := by
  have G1 := Lib.hid g1
  have GF := Lib.hid hF
  have GZ := Lib.hid hz
  have hl : (T.length : Int) ≤ 9223372036854775807 := by have := g1.1; have := g1.2.1; omega
  clear g1 hF hz
  have hX : (IntKind.u64.wrap x).tmod 1000 = ((x % 18446744073709551616).toNat % 1000 : Nat) := by
    rw [IntKind.wrap_u64, Int.tmod_eq_emod_of_nonneg (by omega), Int.natCast_emod, Int.toNat_of_nonneg (Int.emod_nonneg _ (by decide))]
    rfl
  have hN : (x % 18446744073709551616).toNat % 1000 < 1000 := Nat.mod_lt _ (by decide)
  generalize (x % 18446744073709551616).toNat % 1000 = N at *
  have n0 : 0 ≤ (N : Int) := by omega
  have n1 : (N : Int) < 1000 := by omega
  go_enter Try.func9, Try.ntmps9
  go_wp2_with fail
  have e2 : (min (F.length : Int) 1000).toNat = (F.take 1000).length := by rw [List.length_take]; omega
  have FB := Lib.hid (GF.out.take 1000)
  have FL : (F.take 1000).length ≤ 1000 := by rw [List.length_take]; omega
  rw [e2]
  clear e2 hFc GF hX
  generalize F.take 1000 = b at *
  have HFL := Lib.hid FL
  clear FL
  with_reducible refine (new_any 100000 W (by decide) (by decide)).mono ?_
  rintro e w1 ⟨k, rfl, h1, b1⟩
  have H1 := Lib.hid h1
  have B1 := Lib.hid b1
  clear h1 b1
  go_wp2_with fail
  with_reducible refine (cellnew_any k w1).mono ?_
  rintro e w2 ⟨q, rfl, hq, h2, b2⟩
  have H2 := Lib.hid (H1.out.below b2)
  have C2 := Lib.hid h2
  have B2 := Lib.hid (B1.out.trans (b2.mono B1.out.size))
  have HQ : Hid (W.heap.size ≤ q) := Lib.hid (Nat.le_trans B1.out.size hq)
  clear h2 b2 hq
  go_wp2_with fail
  with_reducible refine (cellnew_any k w2).mono ?_
  rintro e w3 ⟨r, rfl, hr, h3, b3⟩
  have H3 := Lib.hid (H2.out.below b3)
  have C3 : Hid (cellAt w3 q k 0) := Lib.hid (blockIs.below b3 C2.out (blockIs.lt C2.out))
  have D3 := Lib.hid h3
  have B3 := Lib.hid (B2.out.trans (b3.mono B2.out.size))
  have HR : Hid (r ≠ q) := Lib.hid (by have := blockIs.lt C2.out; omega)
  clear h3 b3 hr
  go_wp2_with fail
  with_reducible refine (rises_any w3).mono ?_
  rintro e w4 ⟨rfl, b4⟩
  have H4 := Lib.hid (H3.out.below b4)
  have C4 : Hid (cellAt w4 q k 0) := Lib.hid (blockIs.below b4 C3.out (blockIs.lt C3.out))
  have D4 : Hid (cellAt w4 r k 0) := Lib.hid (blockIs.below b4 D3.out (blockIs.lt D3.out))
  have B4 := Lib.hid (B3.out.trans (b4.mono B3.out.size))
  clear b4
  go_wp2_with fail
  have P := raise_any W.heap.size k q none (newSh 100000) 0 (1 + (N : Int)) w4 H4.out (newSh_ok 100000 (by decide) (by decide)) C4.out HQ.out
  have hlow : lowN 0 (1 + (N : Int)) = false := by simp [lowN]; omega
  have e1 : raisedE (newSh 100000) 0 (1 + (N : Int)) = 0 := by simp [raisedE, hlow, newSh, spentE]
  have e2 : raisedS (newSh 100000) 0 (1 + (N : Int)) = stSh [] := by simp [raisedS, hlow, newSh, spent, stSh]
  have e3 : raisedN (newSh 100000) 0 (1 + (N : Int)) = 1 + (N : Int) := by simp [raisedN, e1]
  rw [e1, e2, e3] at P
  clear e1 e2 e3 hlow
  with_reducible refine P.mono ?_
  clear P
  rintro e w5 ⟨rfl, h5, c5, b5, k5⟩
  have H5 := Lib.hid h5
  have C5 := Lib.hid c5
  have D5 : Hid (cellAt w5 r k 0) := Lib.hid (k5 r _ _ D4.out (cellAt.ne D4.out H4.out) HR.out)
  have B5 := Lib.hid (B4.out.trans b5)
  clear h5 c5 b5 k5
  go_wp2_with fail
  with_reducible refine (photo_any W.heap.size k none _ w5 H5.out).mono ?_
  rintro e w6 ⟨i, mi, rfl, h6, b6⟩
  have H6 := Lib.hid (H5.out.below b6)
  have C6 : Hid (cellAt w6 q k (1 + (N : Int))) := Lib.hid (blockIs.below b6 C5.out (blockIs.lt C5.out))
  have D6 : Hid (cellAt w6 r k 0) := Lib.hid (blockIs.below b6 D5.out (blockIs.lt D5.out))
  have I6 := Lib.hid h6
  have HI : Hid (i ≠ k) := Lib.hid (by have := h6.lo; have := H5.out.is.lt; omega)
  have B6 := Lib.hid (B5.out.trans (b6.mono B5.out.size))
  clear h6 b6
  go_wp2_with fail
  go_loopw [14] (fun v wr => ∃ (j : Nat) (m : Option Nat) (L : List Ent), v = .int .i64 (j : Int) ∧ j ≤ T.length ∧ Hid (ShAt wr W.heap.size k m (stSh L)) ∧ Hid (Step k none w6 m wr)) (fun v _ => T.length - (intOf v).toNat)
  case atStart => exact ⟨0, none, [], rfl, Nat.zero_le _, H6, Lib.hid (Step.refl _ _ _)⟩
  case round =>
    obtain ⟨j, m, L, rfl, hj, K1, K2⟩ := hrel
    have p0 : 0 ≤ (j : Int) := by omega
    have KB := Lib.hid (B6.out.trans (H6.out.step_below K2.out))
    have KC : Hid (cellAt wr q k (1 + (N : Int))) := Lib.hid (H6.out.keeps K2.out C6.out (cellAt.ne C6.out H6.out))
    have KD : Hid (cellAt wr r k 0) := Lib.hid (H6.out.keeps K2.out D6.out (cellAt.ne D6.out H6.out))
    by_cases hend : j < T.length ∧ j < 20
    · obtain ⟨hlt, h20⟩ := hend
      have q0 : (j : Int) < (T.length : Int) := by omega
      have q1 : (j : Int) < 20 := by omega
      have hm : j * 3 % T.length < T.length := Nat.mod_lt _ (by omega)
      obtain ⟨bb, bo, ha, d, hwf⟩ := strs_at G1.out j hlt
      obtain ⟨bb', bo', ha', d', hwf'⟩ := strs_at G1.out (j * 3 % T.length) hm
      rw [ha] at ha'
      injection ha' with ha'
      injection ha' with hb1 hb2 hb3
      subst hb1 hb2 ha
      have WA := Lib.hid hwf
      have WB := Lib.hid hwf'
      have DB : Hid (bb < W.heap.size) := Lib.hid (block_lt_of_cell d)
      have d1 := (KB.out.cell (p := ⟨bb, bo + j, none⟩) DB.out).trans d
      have D' := Lib.hid d'
      clear d d' hwf hwf'
      generalize T.getD j [] = n at *
      generalize T.getD (j * 3 % T.length) [] = n' at *
      have hq0 : 0 ≤ (j : Int) * 3 := by omega
      have hq1 : (j : Int) * 3 ≤ 60 := by omega
      have hq2 : 0 < (T.length : Int) := by omega
      have hq3 : (j : Int) * 3 % (T.length : Int) < (T.length : Int) := Int.emod_lt_of_pos _ hq2
      have hq4 : 0 ≤ (j : Int) * 3 % (T.length : Int) := Int.emod_nonneg _ (by omega)
      go_wp2_with fail
      with_reducible refine (forge_any W.heap.size k m (stSh L) n a2 b c2 wr K1.out WA.out (by have := HFL.out; omega) (fun w' hw => FB.out.below (KB.out.trans (hw.mono KB.out.size)) (Nat.le_refl _))).mono ?_
      obtain ⟨L1, hL1⟩ := forged_st L n b
      rw [hL1]
      clear hL1
      generalize forgedE (stSh L) n b = fe
      rintro e w7 ⟨rfl, m7, h7, s7⟩
      have H7 := Lib.hid h7
      have S7 := Lib.hid (K2.out.trans s7)
      have d2 := ((B6.out.trans (H6.out.step_below S7.out)).cell (p := ⟨bb, bo + j * 3 % T.length, none⟩) DB.out).trans D'.out
      clear h7 s7 d1
      go_wp2_with fail
      have PS := steal_any W.heap.size k m7 (stSh L1) n' w7 H7.out
      obtain ⟨L2, hL2⟩ := stolen_st L1 n'
      rw [hL2] at PS
      clear hL2
      generalize stolenE (stSh L1) n' = se at PS
      with_reducible refine PS.mono ?_
      clear PS
      rintro e w8 ⟨rfl, m8, h8, s8⟩
      have H8 := Lib.hid h8
      have S8 := Lib.hid (S7.out.trans s8)
      have C8 : Hid (cellAt w8 q k (1 + (N : Int))) := Lib.hid (H6.out.keeps S8.out C6.out (cellAt.ne C6.out H6.out))
      clear h8 s8 d2
      go_wp2_with fail
      have PR := read_any W.heap.size k q m8 (stSh L2) _ w8 H8.out C8.out
      rw [show (stSh L2).off = false from rfl] at PR
      with_reducible refine PR.mono ?_
      clear PR
      rintro e w9 ⟨rfl, rfl⟩
      go_wp2_with fail
      go_roundw
      case rel => exact ⟨j + 1, m8, L2, by go_num, by omega, H8, S8⟩
      case measure => simp [intOf]; omega
    · have PX : Hid (∀ Q : Prop, Q → Q) := Lib.hid (fun _ h => h)
      have I7 := Lib.hid (I6.out.step K2.out H6.out.is HI.out)
      by_cases hlt : j < T.length
      · have q0 : (j : Int) < (T.length : Int) := by omega
        have q1 : ¬ (j : Int) < 20 := by omega
        clear hend
        go_wp2_with fail
        with_reducible refine (restore_any W.heap.size k m (stSh L) _ i mi _ wr K1.out I7.out).mono ?_
        rintro e w7 ⟨rfl, m7, h7, s7⟩
        have H7 := Lib.hid h7
        have S7 := Lib.hid (K2.out.trans s7)
        have C7 : Hid (cellAt w7 q k (1 + (N : Int))) := Lib.hid (H6.out.keeps S7.out C6.out (cellAt.ne C6.out H6.out))
        have D7 : Hid (cellAt w7 r k 0) := Lib.hid (H6.out.keeps S7.out D6.out (cellAt.ne D6.out H6.out))
        have B7 := Lib.hid (B6.out.trans (H6.out.step_below S7.out))
        clear h7 s7
        go_wp2_with fail
        have PR := read_any W.heap.size k q m7 _ _ w7 H7.out C7.out
        rw [show (restoredS (stSh L) (stSh []).objs).off = false from rfl] at PR
        with_reducible refine PR.mono ?_
        clear PR
        rintro e w9 ⟨rfl, rfl⟩
        go_wp2_with fail
        have PR := read_any W.heap.size k r m7 _ _ w7 H7.out D7.out
        rw [show (restoredS (stSh L) (stSh []).objs).off = false from rfl] at PR
        with_reducible refine PR.mono ?_
        clear PR
        rintro e w9 ⟨rfl, rfl⟩
        go_wp2_with fail
        go_ret
        exact ⟨rfl, B7.out⟩
      · have q0 : ¬ (j : Int) < (T.length : Int) := by omega
        clear hend
        go_wp2_with fail
        with_reducible refine (restore_any W.heap.size k m (stSh L) _ i mi _ wr K1.out I7.out).mono ?_
        rintro e w7 ⟨rfl, m7, h7, s7⟩
        have H7 := Lib.hid h7
        have S7 := Lib.hid (K2.out.trans s7)
        have C7 : Hid (cellAt w7 q k (1 + (N : Int))) := Lib.hid (H6.out.keeps S7.out C6.out (cellAt.ne C6.out H6.out))
        have D7 : Hid (cellAt w7 r k 0) := Lib.hid (H6.out.keeps S7.out D6.out (cellAt.ne D6.out H6.out))
        have B7 := Lib.hid (B6.out.trans (H6.out.step_below S7.out))
        clear h7 s7
        go_wp2_with fail
        have PR := read_any W.heap.size k q m7 _ _ w7 H7.out C7.out
        rw [show (restoredS (stSh L) (stSh []).objs).off = false from rfl] at PR
        with_reducible refine PR.mono ?_
        clear PR
        rintro e w9 ⟨rfl, rfl⟩
        go_wp2_with fail
        have PR := read_any W.heap.size k r m7 _ _ w7 H7.out D7.out
        rw [show (restoredS (stSh L) (stSh []).objs).off = false from rfl] at PR
        with_reducible refine PR.mono ?_
        clear PR
        rintro e w9 ⟨rfl, rfl⟩
        go_wp2_with fail
        go_ret
        exact ⟨rfl, B7.out⟩
namespace cellStands
open Go.ChangeShapes Go.WideShapes Go.ChangeAt Go.RowKit Go.Joins Go.Deep Go.ChangeMaps
set_option maxRecDepth 100000 in
theorem lifted (os : Os) (started : os.Started) (H : Type) (enc : TypeId × Value → H) :
    ReturnsInHanded {} Try.checked os 9 .any (Rows.cellStandsSpec.pre6 enc Try.prog Try.f9 Rows.cellStandsRow.domain false) (Rows.cellStandsSpec.post enc Try.prog Try.f9 false true false false) := by
  refine returnsInHanded_of_change (C := Try.checked) own started (by kernel_rfl) Try.func9
    (ChangeSpec.witness6 (enc := enc) (C := Try.checked) false ⟨#[], #[.int .i64 0, .slice none 0 0, .slice none 0 0], []⟩ 8 (by kernel_rfl) (by kernel_rfl) (by kernel_rfl) (by kernel_rfl)) ?_
  intro W base args ds gs before hval0 hW hcnd _
  have hval : ∀ (j : Nat) t v, Try.f9.params[j]? = some t → args[j]? = some v → Value.okWide Try.prog W .any base t v := hval0
  have hW' := hW
  obtain ⟨p, q, hA0, hV, rfl, hfz, hnd⟩ := hW
  have hA : DataW.TrodAll enc Try.prog W 0 (fun _ => true) true Try.f9.params.toList args.toList ds p := hA0
  rw [Try.params9] at hA hval
  obtain ⟨v0, vs0, d0, ds0, p0, q0, hargs, rfl, rfl, h0, r0⟩ := trodAll_cons hA
  obtain ⟨v1, vs1, d1, ds1, p1, q1, rfl, rfl, rfl, h1, r1⟩ := trodAll_cons r0
  obtain ⟨v2, vs2, d2, ds2, p2, q2, rfl, rfl, rfl, h2, r2⟩ := trodAll_cons r1
  obtain ⟨rfl, rfl, rfl⟩ := trodAll_nil r2
  obtain rfl : args = #[v0, v1, v2] := by cases args; simp_all
  obtain ⟨rfl, rfl⟩ := trodVars_none hV
  obtain ⟨a0, rfl, rfl, rfl, w0⟩ := open_int Try.underlying3 (hval 0 3 v0 rfl rfl) h0
  obtain ⟨a1, l1, c1, rfl⟩ := okWide_slice Try.underlying32 (hval 1 32 v1 rfl rfl)
  have h1k := h1
  obtain ⟨n1, g1⟩ := h1
  obtain ⟨b1, k1, F1, e1, hF1⟩ := open_strsz (v := .slice a1 l1 c1) (by simpa [Value.cells] using g1)
  obtain ⟨a2, l2, c2, rfl⟩ := okWide_slice Try.underlying39 (hval 2 39 v2 rfl rfl)
  have h2k := h2
  obtain ⟨n2, g2⟩ := h2
  obtain ⟨b2, k2, F2, e2, hF2, hin2, hz2⟩ := open_bytes (v := .slice a2 l2 c2) (by simpa [Value.cells] using g2)
  clear hA0 hval0
  simp only [List.append_nil, List.nil_append] at hW'
  have hlt : ∀ x ∈ p1 ++ p2, x.block < W.heap.size := fun x hx => hW'.lt x (by simpa using hx)
  rw [e1, e2]
  refine (law_cellStands a0 b1 k1 F1 b2 k2 F2 W w0 hF1 hF2 hin2 hz2).mono fun e W' ⟨he, hb⟩ => ?_
  rw [← e1, ← e2]
  subst he
  refine ⟨_, rfl, [_, d1, d2], [], p1 ++ p2, [], p1 ++ p2, [], by simpa using hW', ?_, ?_, ?_, hb.frame _, fun h => by cases h⟩
  · exact trodAll_cons_mk (shut_bool Try.underlying4 _) trodAll_mk0
  · have : DataW.TrodAll enc Try.prog W' 0 (fun b => decide (b < W.heap.size)) true _ _ _ _ := (trodAll_cons_mk (shut_int Try.underlying3 w0) (trodAll_cons_mk (Below.trod laidOut (by kernel_rfl) (of_decide_eq_true (by kernel_rfl)) h1k hb (fun x hx => hlt x (by simp [hx]))) (trodAll_cons_mk (Below.trod laidOut (by kernel_rfl) (of_decide_eq_true (by kernel_rfl)) h2k hb (fun x hx => hlt x (by simp [hx]))) trodAll_mk0)))
    simp only [List.append_nil, List.nil_append] at this
    exact this
  · rfl

theorem proved : Rows.CellStandsSaid :=
  OpenClaim.holds_of_wide 9 Try.f9 rfl rfl rfl rfl rfl rfl rfl ⟨rfl, rfl, rfl, rfl, rfl⟩ rfl rfl rfl rfl rfl (by kernel_rfl) Try.func9 (by kernel_rfl)
    (of_decide_eq_true (by kernel_rfl)) (by unfold Func.isWrapper; first | (rw [if_pos (by decide +kernel)]; kernel_rfl) | (rw [if_neg (by decide +kernel)]; exact ⟨rfl, rfl⟩))
    (fun os started H enc _ => lifted os started H enc)
end cellStands
end Go.Proofs.Ytdkilnglaiciiaa
