/- ShelfNames: for every text IsName tells whether an object may be called so: just then one can be put, renamed so, or forged. No condition. -/
import Derived.Test.YtdkilnglaiciiaaChecked
import Derived.Test.YtdkilnglaiciiaaSd
import Derived.Test.YtdkilnglaiciiaaOpn
namespace Go.Proofs.Ytdkilnglaiciiaa
open Go.RowKit Go.MapKept
theorem idx_str (l : List UInt8) (j : Nat) (h : j < l.length) (w : World) : (Instr.index 9 (.string (str l)) (.int .i64 (j : Int))).run Try.prog w = .ok (.int .u8 (V (l.getD j 0))) w := by
  have hj : (str l)[j]? = some (l.getD j 0) := by
    rw [getElem?_pos (str l) j (by rw [str_size]; exact h)]
    simp [str, h]
    rfl
  simp [Instr.index, run_underlying Try.underlying9, asIntOf, hj, Result.andThen, V]
def okI (v : Int) : Bool := (decide (97 ≤ v) && decide (v ≤ 122)) || ((decide (48 ≤ v) && decide (v ≤ 57)) || (v == 45 || v == 47))
theorem okI_iff (v : Int) : okI v = true ↔ (97 ≤ v ∧ v ≤ 122) ∨ (48 ≤ v ∧ v ≤ 57) ∨ v = 45 ∨ v = 47 := by simp [okI]
theorem okI_no {v : Int} (h : ¬ ((97 ≤ v ∧ v ≤ 122) ∨ (48 ≤ v ∧ v ≤ 57) ∨ v = 45 ∨ v = 47)) : okI v = false := Bool.eq_false_iff.2 fun e => h ((okI_iff v).1 e)
set_option maxRecDepth 100000 in
set_option maxHeartbeats 4000000 in
theorem refName_any (l : List UInt8) (w : World) (hl : l.length ≤ 3000) : Calls Try.prog 13 #[.string (str l)] w fun e w' => e = .returned (.bool (isName l)) ∧ w = w' := by
  have hs := Lib.hid (str_size l)
  have hs1 : ((str l).size : Int) ≤ 3000 := by rw [hs.out]; omega
  have hs0 : 0 ≤ ((str l).size : Int) := by omega
  go_enter Try.func13, Try.ntmps13
  go_wp2_with fail
  go_loopw [3] (fun i wr => ∃ j : Nat, i = .int .i64 (j : Int) ∧ j ≤ l.length ∧ Hid ((l.take j).all okByte = true) ∧ wr = w) (fun i _ => l.length - (intOf i).toNat)
  case atStart => exact ⟨0, rfl, Nat.zero_le _, Lib.hid (by simp), rfl⟩
  case round =>
    obtain ⟨j, rfl, hj, K1, rfl⟩ := hrel
    have p0 : 0 ≤ (j : Int) := by omega
    by_cases hlt : j < l.length
    · have q0 : (j : Int) < ((str l).size : Int) := by rw [hs.out]; omega
      have qi := idx_str l j hlt
      have T := Lib.hid (List.take_succ_eq_append_getElem hlt)
      have G : Hid (l.getD j 0 = l[j]) := Lib.hid (by simp [hlt])
      have AL : Hid (okByte (l.getD j 0) = false → isName l = false) := Lib.hid (fun h => by
        have : l.all okByte = false := by
          rw [List.all_eq_false]
          exact ⟨l[j], List.getElem_mem hlt, by rw [← G.out, h]; simp⟩
        simp [isName, this])
      have AT : Hid (okByte (l.getD j 0) = true → (l.take (j + 1)).all okByte = true) := Lib.hid (fun h => by
        rw [T.out, List.all_append, K1.out]
        simp only [List.all_cons, List.all_nil, Bool.and_true, Bool.true_and]
        rw [← G.out, h])
      generalize l.getD j 0 = x at *
      have hV : V x < 256 := V_lt x
      have hV0 : 0 ≤ V x := V_nonneg x
      have OK : Hid (okByte x = okI (V x)) := Lib.hid rfl
      clear T G
      generalize V x = v at *
      generalize okByte x = ok at *
      by_cases h1 : 97 ≤ v
      · by_cases h2 : v ≤ 122
        · go_wp2_with fail
          go_roundw
          case rel => exact ⟨j + 1, by go_num, by omega, Lib.hid (AT.out (OK.out.trans ((okI_iff v).2 (by omega)))), by first | rfl | exact trivial⟩
          case measure => simp [intOf]; omega
        · have e4 : ¬ v ≤ 57 := by omega
          have e3 : 48 ≤ v := by omega
          have e5 : (v == 45) = false := by simp; omega
          have e6 : (v == 47) = false := by simp; omega
          go_wp2_with fail
          (try rw [Exit.noGoto_ret])
          go_ret
          exact ⟨ret_bool (AL.out (OK.out.trans (okI_no (by omega)))).symm, rfl⟩
      · by_cases h3 : 48 ≤ v
        · by_cases h4 : v ≤ 57
          · go_wp2_with fail
            go_roundw
            case rel => exact ⟨j + 1, by go_num, by omega, Lib.hid (AT.out (OK.out.trans ((okI_iff v).2 (by omega)))), by first | rfl | exact trivial⟩
            case measure => simp [intOf]; omega
          · have e5 : (v == 45) = false := by simp; omega
            have e6 : (v == 47) = false := by simp; omega
            go_wp2_with fail
            (try rw [Exit.noGoto_ret])
            go_ret
            exact ⟨ret_bool (AL.out (OK.out.trans (okI_no (by omega)))).symm, rfl⟩
        · by_cases h5 : v = 45
          · subst h5
            go_wp2_with fail
            go_roundw
            case rel => exact ⟨j + 1, by go_num, by omega, Lib.hid (AT.out (OK.out.trans ((okI_iff 45).2 (by decide)))), by first | rfl | exact trivial⟩
            case measure => simp [intOf]; omega
          · have e5 : (v == 45) = false := by simpa using h5
            by_cases h6 : v = 47
            · subst h6
              go_wp2_with fail
              go_roundw
              case rel => exact ⟨j + 1, by go_num, by omega, Lib.hid (AT.out (OK.out.trans ((okI_iff 47).2 (by decide)))), by first | rfl | exact trivial⟩
              case measure => simp [intOf]; omega
            · have e6 : (v == 47) = false := by simpa using h6
              go_wp2_with fail
              (try rw [Exit.noGoto_ret])
              go_ret
              exact ⟨ret_bool (AL.out (OK.out.trans (okI_no (by omega)))).symm, rfl⟩
    · obtain rfl : j = l.length := by omega
      have E : Hid (isName l = (decide (1 ≤ l.length) && decide (l.length ≤ 64))) := Lib.hid (by have := K1.out; rw [List.take_length] at this; simp [isName, this])
      by_cases h1 : 1 ≤ l.length
      · by_cases h64 : l.length ≤ 64
        · have q1 : 1 ≤ ((str l).size : Int) := by rw [hs.out]; omega
          have q2 : ((str l).size : Int) ≤ 64 := by rw [hs.out]; omega
          have q3 : ¬ (l.length : Int) < ((str l).size : Int) := by rw [hs.out]; omega
          go_wp2_with fail
          go_ret
          exact ⟨ret_bool (by rw [E.out]; simp [h1, h64]), rfl⟩
        · have q1 : 1 ≤ ((str l).size : Int) := by rw [hs.out]; omega
          have q2 : ¬ ((str l).size : Int) ≤ 64 := by rw [hs.out]; omega
          have q3 : ¬ (l.length : Int) < ((str l).size : Int) := by rw [hs.out]; omega
          go_wp2_with fail
          go_ret
          exact ⟨ret_bool (by rw [E.out]; simp [h1, h64]), rfl⟩
      · have q1 : ¬ 1 ≤ ((str l).size : Int) := by rw [hs.out]; omega
        have q3 : ¬ (l.length : Int) < ((str l).size : Int) := by rw [hs.out]; omega
        go_wp2_with fail
        go_ret
        exact ⟨ret_bool (by rw [E.out]; simp [h1]), rfl⟩
theorem str_of (s : ByteArray) : ∃ l, s = str l := ⟨s.data.toList, by simp [str]⟩
theorem str_le {l : List UInt8} (h : (str l).size ≤ maxLen) : l.length ≤ 9223372036854775807 := by rw [str_size] at h; simpa [maxLen] using h
def xSh : Sh := onSh 1000 [([120], ([], false))] 1
theorem xSh_ok : ShOk xSh := onSh_ok 1000 _ 1 (by decide) (by decide) (by decide) (by decide)
theorem put_x : putS (newSh 1000) [120] [] = xSh := by kernel_rfl
theorem put_xe : putE (newSh 1000) [120] [] = 0 := by decide
theorem has_x {l : List UInt8} (h : l ≠ [120]) : has xSh.objs l = false := by
  have : ¬ [120] = l := fun e => h e.symm
  simp [has, xSh, onSh, get, this]
theorem forge_x {l : List UInt8} (hi : isName l = true) (h : l ≠ [120]) : forgedE xSh l [] = 0 ∧ forgedS xSh l [] = onSh 1000 [([120], ([], false)), (l, ([], true))] 1 := by
  have hf : forgedE xSh l [] = 0 := by
    unfold forgedE
    rw [if_neg (by simp [hi]), if_neg (by simp), if_neg (by simp [xSh, onSh])]
  have : ¬ [120] = l := fun e => h e.symm
  refine ⟨hf, ?_⟩
  unfold forgedS
  rw [hf, if_pos rfl]
  simp [xSh, onSh, put, this]
set_option maxRecDepth 100000 in
set_option maxHeartbeats 8000000 in
theorem law_shelfNames (l : List UInt8) (W : World) (hl : l.length ≤ 9223372036854775807) :
    Calls Try.prog 3 #[.string (str l)] W fun e w' => e = .returned (.bool true) ∧ Below W.heap.size W w' := by
  have hs := Lib.hid (str_size l)
  have HN := Lib.hid hl
  by_cases h3 : 3000 < l.length
  · have q0 : (3000 : Int) < ((str l).size : Int) := by rw [hs.out]; omega
    go_enter Try.func3, Try.ntmps3
    go_wp2_with fail
    with_reducible refine (stands_any W).mono ?_
    rintro e w1 ⟨rfl, b1⟩
    have B1 := Lib.hid b1
    clear b1
    go_wp2_with fail
    go_ret
    exact ⟨rfl, B1.out⟩
  · have q0 : ¬ (3000 : Int) < ((str l).size : Int) := by rw [hs.out]; omega
    have hl3 := Lib.hid (show l.length ≤ 3000 by omega)
    go_enter Try.func3, Try.ntmps3
    go_wp2_with fail
    with_reducible refine (new_any 1000 W (by decide) (by decide)).mono ?_
    rintro e w1 ⟨k, rfl, h1, b1⟩
    have H1 := Lib.hid h1
    have B1 := Lib.hid b1
    clear h1 b1
    go_wp2_with fail
    with_reducible refine (refName_any l w1 hl3.out).mono ?_
    rintro e w' ⟨rfl, rfl⟩
    have PI := Lib.hid (fun (X : World) => isName_any l X HN.out)
    generalize hi : isName l = yes at *
    have HI := Lib.hid hi
    clear hi
    go_wp2_with fail
    with_reducible refine (stands_any w1).mono ?_
    rintro e w2 ⟨rfl, b2⟩
    have H2 := Lib.hid (H1.out.below b2)
    have B2 := Lib.hid (B1.out.trans (b2.mono B1.out.size))
    clear b2
    go_wp2_with fail
    with_reducible refine (PI.out w2).mono ?_
    rintro e w3 ⟨rfl, b3⟩
    have H3 := Lib.hid (H2.out.below b3)
    have B3 := Lib.hid (B2.out.trans (b3.mono B2.out.size))
    clear b3
    go_wp2_with fail
    have P := put_none W.heap.size k none (newSh 1000) [120] w3 H3.out (newSh_ok 1000 (by decide) (by decide)) (by decide) (by decide) (by decide)
    rw [put_x, put_xe] at P
    change Calls _ _ #[.pointer (some ⟨k, 0, none⟩), .string { data := #[120] }, .slice none 0 0] _ _ at P
    with_reducible refine P.mono ?_
    clear P
    rintro e w4 ⟨rfl, m4, h4, s4⟩
    have H4 := Lib.hid h4
    have B4 := Lib.hid (B3.out.trans (H3.out.step_below s4))
    clear h4 s4
    by_cases hx : l = [120]
    · have q1 : ((str l).toList == [120]) = true := by rw [str_toList, hx]; rfl
      have HX := Lib.hid hx
      clear hx
      go_wp2_with fail
      go_ret
      exact ⟨rfl, B4.out⟩
    · have q1 : ((str l).toList == [120]) = false := by rw [str_toList]; simpa using hx
      have HX := Lib.hid hx
      clear hx
      go_wp2_with fail
      have P := forge_any W.heap.size k m4 xSh l none [] 0 w4 H4.out HN.out (by decide) (fun _ _ => Or.inl rfl)
      change Calls _ _ #[.pointer (some ⟨k, 0, none⟩), .string (str l), .slice none 0 0] _ _ at P
      cases yes with
      | false =>
        have hF : forgedE xSh l [] = 5 := by simp [forgedE, HI.out]
        have hS : forgedS xSh l [] = xSh := by simp [forgedS, hF]
        rw [hF, hS] at P
        clear hF hS
        with_reducible refine P.mono ?_
        clear P
        rintro e w5 ⟨rfl, m5, h5, s5⟩
        have H5 := Lib.hid h5
        have B5 := Lib.hid (B4.out.trans (H4.out.step_below s5))
        clear h5 s5
        go_wp2_with fail
        have P := rename_any W.heap.size k m5 xSh [120] l w5 H5.out xSh_ok HN.out
        have hF : renamedE xSh [120] l = 5 := by simp [renamedE, HI.out, xSh, onSh]
        have hS : renamedS xSh [120] l = xSh := by simp [renamedS, HI.out, xSh, onSh]
        rw [hF, hS] at P
        change Calls _ _ #[.pointer (some ⟨k, 0, none⟩), .string { data := #[120] }, .string (str l)] _ _ at P
        clear hF hS
        with_reducible refine P.mono ?_
        clear P
        rintro e w6 ⟨rfl, m6, h6, s6⟩
        have H6 := Lib.hid h6
        have B6 := Lib.hid (B5.out.trans (H5.out.step_below s6))
        clear h6 s6
        go_wp2_with fail
        have P := put_none W.heap.size k m6 xSh l w6 H6.out xSh_ok HN.out (by decide) (by decide)
        have hF : putE xSh l [] = 5 := by simp [putE, takesE, HI.out, xSh, onSh]
        rw [hF] at P
        clear hF
        with_reducible refine P.mono ?_
        clear P
        rintro e w7 ⟨rfl, m7, h7, s7⟩
        have B7 := Lib.hid (B6.out.trans (H6.out.step_below s7))
        clear h7 s7
        go_wp2_with fail
        go_ret
        exact ⟨rfl, B7.out⟩
      | true =>
        rw [(forge_x HI.out HX.out).1, (forge_x HI.out HX.out).2] at P
        have NX : Hid (¬ [120] = l) := Lib.hid (fun e => HX.out e.symm)
        have LL : Hid (l ≠ [120]) := HX
        with_reducible refine P.mono ?_
        clear P
        rintro e w5 ⟨rfl, m5, h5, s5⟩
        have H5 := Lib.hid h5
        have B5 := Lib.hid (B4.out.trans (H4.out.step_below s5))
        clear h5 s5
        go_wp2_with fail
        have OK2 := Lib.hid (onSh_ok 1000 [([120], ([], false)), (l, ([], true))] 1 (by decide) (by decide) (by decide) (by decide))
        have P := rename_any W.heap.size k m5 _ [120] l w5 H5.out OK2.out HN.out
        have hh : has (onSh 1000 [([120], ([], false)), (l, ([], true))] 1).objs l = true := by simp [has, onSh, get, NX.out]
        have hx1 : has (onSh 1000 [([120], ([], false)), (l, ([], true))] 1).objs [120] = true := by simp [has, onSh, get]
        have hF : renamedE (onSh 1000 [([120], ([], false)), (l, ([], true))] 1) [120] l = 7 := by
          unfold renamedE
          rw [if_neg (by simp [onSh]), if_neg (by simp [HI.out]), if_neg (by simp [hx1]), if_pos ⟨hh, LL.out⟩]
        have hS : renamedS (onSh 1000 [([120], ([], false)), (l, ([], true))] 1) [120] l = onSh 1000 [([120], ([], false)), (l, ([], true))] 1 := by
          unfold renamedS
          rw [if_neg (by simp [onSh]), if_neg (by simp [HI.out]), if_neg (by simp [hx1]), if_pos ⟨hh, LL.out⟩]
        rw [hF, hS] at P
        change Calls _ _ #[.pointer (some ⟨k, 0, none⟩), .string { data := #[120] }, .string (str l)] _ _ at P
        clear hF hS hx1
        with_reducible refine P.mono ?_
        clear P
        rintro e w6 ⟨rfl, m6, h6, s6⟩
        have H6 := Lib.hid h6
        have B6 := Lib.hid (B5.out.trans (H5.out.step_below s6))
        clear h6 s6
        go_wp2_with fail
        have P := steal_any W.heap.size k m6 _ l w6 H6.out
        have hF : stolenE (onSh 1000 [([120], ([], false)), (l, ([], true))] 1) l = 0 := by simp [stolenE, hh]
        have hS : stolenS (onSh 1000 [([120], ([], false)), (l, ([], true))] 1) l = xSh := by
          unfold stolenS
          rw [if_pos hh]
          simp [onSh, xSh, del, NX.out]
        rw [hF, hS] at P
        clear hF hS hh
        with_reducible refine P.mono ?_
        clear P
        rintro e w7 ⟨rfl, m7, h7, s7⟩
        have H7 := Lib.hid h7
        have B7 := Lib.hid (B6.out.trans (H6.out.step_below s7))
        clear h7 s7
        go_wp2_with fail
        have P := rename_any W.heap.size k m7 xSh [120] l w7 H7.out xSh_ok HN.out
        have hh : has xSh.objs l = false := has_x LL.out
        have hx1 : has xSh.objs [120] = true := by decide
        have hF : renamedE xSh [120] l = 0 := by
          unfold renamedE
          rw [if_neg (by simp [xSh, onSh]), if_neg (by simp [HI.out]), if_neg (by simp [hx1]), if_neg (by simp [hh])]
          decide
        have hS : renamedS xSh [120] l = onSh 1000 [(l, ([], false))] 2 := by
          unfold renamedS
          rw [if_neg (by simp [xSh, onSh]), if_neg (by simp [HI.out]), if_neg (by simp [hx1]), if_neg (by simp [hh]), if_pos (by decide)]
          simp [xSh, onSh, spent, del, put, get, obOr]
        rw [hF, hS] at P
        change Calls _ _ #[.pointer (some ⟨k, 0, none⟩), .string { data := #[120] }, .string (str l)] _ _ at P
        clear hF hS hx1 hh
        with_reducible refine P.mono ?_
        clear P
        rintro e w8 ⟨rfl, m8, h8, s8⟩
        have H8 := Lib.hid h8
        have B8 := Lib.hid (B7.out.trans (H7.out.step_below s8))
        clear h8 s8
        go_wp2_with fail
        have OK3 := Lib.hid (onSh_ok 1000 [(l, ([], false))] 2 (by decide) (by decide) (by decide) (by decide))
        have P := put_none W.heap.size k m8 _ l w8 H8.out OK3.out HN.out (by simp [onSh, sizeSum]) (by simp [onSh])
        have hF : putE (onSh 1000 [(l, ([], false))] 2) l [] = 7 := by simp [putE, takesE, HI.out, onSh, has, get]
        rw [hF] at P
        clear hF
        with_reducible refine P.mono ?_
        clear P
        rintro e w9 ⟨rfl, m9, h9, s9⟩
        have B9 := Lib.hid (B8.out.trans (H8.out.step_below s9))
        clear h9 s9
        go_wp2_with fail
        go_ret
        exact ⟨rfl, B9.out⟩
namespace shelfNames
open Go.ChangeShapes Go.WideShapes Go.ChangeAt Go.RowKit Go.Joins Go.Deep Go.ChangeMaps
set_option maxRecDepth 100000 in
theorem lifted (os : Os) (started : os.Started) (H : Type) (enc : TypeId × Value → H) :
    ReturnsInHanded {} Try.checked os 3 .any (Rows.shelfNamesSpec.pre6 enc Try.prog Try.f3 Rows.shelfNamesRow.domain false) (Rows.shelfNamesSpec.post enc Try.prog Try.f3 false true false false) := by
  refine returnsInHanded_of_change (C := Try.checked) own started (by kernel_rfl) Try.func3
    (ChangeSpec.witness6 (enc := enc) (C := Try.checked) false ⟨#[], #[.string ⟨#[]⟩], []⟩ 8 (by kernel_rfl) (by kernel_rfl) (by kernel_rfl) (by kernel_rfl)) ?_
  intro W base args ds gs before hval0 hW hcnd _
  have hval : ∀ (j : Nat) t v, Try.f3.params[j]? = some t → args[j]? = some v → Value.okWide Try.prog W .any base t v := hval0
  have hW' := hW
  obtain ⟨p, q, hA0, hV, rfl, hfz, hnd⟩ := hW
  have hA : DataW.TrodAll enc Try.prog W 0 (fun _ => true) true Try.f3.params.toList args.toList ds p := hA0
  rw [Try.params3] at hA hval
  obtain ⟨v0, vs0, d0, ds0, p0, q0, hargs, rfl, rfl, h0, r0⟩ := trodAll_cons hA
  obtain ⟨rfl, rfl, rfl⟩ := trodAll_nil r0
  obtain rfl : args = #[v0] := by cases args; simp_all
  obtain ⟨rfl, rfl⟩ := trodVars_none hV
  obtain ⟨s0, rfl, rfl, rfl, w0⟩ := open_string Try.underlying9 (hval 0 9 v0 rfl rfl) h0
  obtain ⟨l0, rfl⟩ := str_of s0
  clear hA0 hval0
  simp only [List.append_nil, List.nil_append] at hW'
  refine (law_shelfNames l0 W (str_le w0)).mono fun e W' ⟨he, hb⟩ => ?_
  subst he
  refine ⟨_, rfl, [_], [], [], [], [], [], by simpa using hW', ?_, ?_, ?_, hb.frame _, fun h => by cases h⟩
  · exact trodAll_cons_mk (shut_bool Try.underlying4 _) trodAll_mk0
  · have : DataW.TrodAll enc Try.prog W' 0 (fun b => decide (b < W.heap.size)) true _ _ _ _ := (trodAll_cons_mk (shut_string Try.underlying9 w0) trodAll_mk0)
    simp only [List.append_nil, List.nil_append] at this
    exact this
  · rfl

theorem proved : Rows.ShelfNamesSaid :=
  OpenClaim.holds_of_wide 3 Try.f3 rfl rfl rfl rfl rfl rfl rfl ⟨rfl, rfl, rfl, rfl, rfl⟩ rfl rfl rfl rfl rfl (by kernel_rfl) Try.func3 (by kernel_rfl)
    (of_decide_eq_true (by kernel_rfl)) (by unfold Func.isWrapper; first | (rw [if_pos (by decide +kernel)]; kernel_rfl) | (rw [if_neg (by decide +kernel)]; exact ⟨rfl, rfl⟩))
    (fun os started H enc _ => lifted os started H enc)
end shelfNames
end Go.Proofs.Ytdkilnglaiciiaa
