/- GlyphLess: for any two numbers and every text the law returns true, and its arguments read as before. No condition. -/
import Derived.Test.YtklmehjkmlphcaaGly
import Derived.ChangeMaps5
namespace Go.Proofs.Ytklmehjkmlphcaa
open Go.RowKit

theorem outNum_nat (F : List UInt8) (n : Nat) (h : n < 4611686018427387904) : outNum (F, 0) (n : Int) = (F ++ numBytes n, 0) := by
  have : ¬ ((n : Int) < 0 ∨ 4611686018427387904 ≤ (n : Int)) := by omega
  simp [outNum, this]
theorem mod62 (x : Int) : ∃ y : Nat, wrap64 ((IntKind.u64.wrap x).tmod 4611686018427387904) = (y : Int) ∧ y < 4611686018427387904 := by
  have h2 : 0 ≤ IntKind.u64.wrap x := by rw [IntKind.wrap_u64]; omega
  rw [Int.tmod_eq_emod_of_nonneg h2]
  generalize IntKind.u64.wrap x = z at *
  exact ⟨(z % 4611686018427387904).toNat, by unfold wrap64; omega, by omega⟩
theorem str_take (l : List UInt8) (n : Nat) : (str l).extract 0 n = str (l.take n) := by
  apply ByteArray.ext
  rw [ByteArray.data_extract]
  apply Array.toList_inj.1
  simp [str]
theorem str_list (l : List UInt8) : (str l).toList = l := by
  rw [ByteArray.toList_eq]; simp [str]
theorem U_flag (y : Bool) : (outFlag ([72, 89, 1], 0) y).2 = 0 ∧ (outFlag ([72, 89, 1], 0) y).1.length = 4 := by
  have e0 : numBytes 0 = [0] := by rw [numBytes_small (by decide)]; rfl
  have e1 : numBytes 1 = [1] := by rw [numBytes_small (by decide)]; rfl
  cases y <;> simp [outFlag, outNum, e0, e1]
set_option maxRecDepth 100000 in
set_option maxHeartbeats 4000000 in
theorem law_glyphLess (a b : Int) (l : List UInt8) (w : World) (ha : (Lit.int .i64 a).wf = true) (hb : (Lit.int .i64 b).wf = true) (hl : l.length ≤ 9223372036854775807) :
    Calls Try.prog 7 #[.int .i64 a, .int .i64 b, .string (str l)] w fun e w' => e = .returned (.bool true) ∧ Below w.heap.size w w' := by
  obtain ⟨A, hA, hA2⟩ := mod62 a
  obtain ⟨Bb, hB, hB2⟩ := mod62 b
  have hsz := str_size l
  go_enter Try.func7, Try.ntmps7
  have hS : (str l).extract 0 (min (l.length : Int) 1000).toNat = str (l.take 1000) := by
    rw [str_take]
    congr 1
    rw [show (min (l.length : Int) 1000).toNat = min l.length 1000 by omega]
    by_cases h : l.length ≤ 1000
    · rw [Nat.min_eq_left h, List.take_of_length_le (Nat.le_refl _), List.take_of_length_le h]
    · rw [Nat.min_eq_right (by omega)]
  have hS2 : (l.take 1000).length ≤ 1000 := by rw [List.length_take]; omega
  have hssz := str_size (l.take 1000)
  go_wp2_with fail
  generalize (IntKind.u64.wrap a).tmod 4611686018427387904 = z1 at *
  generalize (IntKind.u64.wrap b).tmod 4611686018427387904 = z2 at *
  generalize min (l.length : Int) 1000 = z3 at *
  generalize l.take 1000 = S at *
  have hmn : min (A : Int) (Bb : Int) = ((min A Bb : Nat) : Int) := by omega
  have hmx : max (A : Int) (Bb : Int) = ((max A Bb : Nat) : Int) := by omega
  with_reducible refine (begin_c 1 1 rfl w).mono ?_
  rintro e w1 ⟨k1, rfl, ho, hb1⟩
  have O1 := Lib.hid ho
  have H1 := Lib.hid hb1
  clear ho hb1
  go_wp2_with fail
  have P := num1 w.heap.size k1 _ ((min A Bb : Nat) : Int) w1 O1.out (by simp [Lit.wf, IntKind.min, IntKind.max, IntKind.signed, IntKind.bits]; omega) (by decide)
  rw [outNum_nat _ _ (by omega)] at P
  with_reducible refine P.mono ?_
  clear P
  rintro e w2 ⟨rfl, ho, hb1⟩
  have O2 := Lib.hid ho
  have H2 := Lib.hid (H1.out.trans hb1)
  clear ho hb1 O1 H1
  go_wp2_with fail
  have n1 := numBytes_nine (min A Bb) (by omega)
  have n2 := numBytes_nine (max A Bb) (by omega)
  have n3 := numBytes_nine S.length (by omega)
  with_reducible refine (bytes_ok w.heap.size k1 _ w2 O2.out rfl (by show ([72, 89, 1] ++ numBytes (min A Bb)).length ≤ _; rw [List.length_append]; simp; omega)).mono ?_
  rintro e w3 ⟨vx, rfl, hr, hb1⟩
  have H3 := Lib.hid (H2.out.trans (hb1.mono H2.out.size))
  have RX3 := Lib.hid (rowIs.mono hr H2.out.size)
  clear hr hb1 O2 H2
  go_wp2_with fail
  with_reducible refine (begin_c 1 1 rfl w3).mono ?_
  rintro e w4 ⟨k2, rfl, ho, hb1⟩
  have O4 := Lib.hid (ho.mono H3.out.size)
  have H4 := Lib.hid (H3.out.trans (hb1.mono H3.out.size))
  have OO := Lib.hid ho
  have HH := Lib.hid hb1
  clear ho hb1 O4
  go_wp2_with fail
  have P := num1 w3.heap.size k2 _ ((max A Bb : Nat) : Int) w4 OO.out (by simp [Lit.wf, IntKind.min, IntKind.max, IntKind.signed, IntKind.bits]; omega) (by decide)
  rw [outNum_nat _ _ (by omega)] at P
  with_reducible refine P.mono ?_
  clear P
  rintro e w5 ⟨rfl, ho, hb1⟩
  have HH := Lib.hid (HH.out.trans hb1)
  have OO := Lib.hid ho
  clear ho hb1 H4
  go_wp2_with fail
  with_reducible refine (bytes_ok w3.heap.size k2 _ w5 OO.out rfl (by show ([72, 89, 1] ++ numBytes (max A Bb)).length ≤ _; rw [List.length_append]; simp; omega)).mono ?_
  rintro e w6 ⟨vy, rfl, hr, hb1⟩
  have HH := Lib.hid (HH.out.trans (hb1.mono HH.out.size))
  have H6 := Lib.hid (H3.out.trans (HH.out.mono H3.out.size))
  have RX6 := Lib.hid (rowIs.below RX3.out HH.out (Nat.le_refl _))
  have RY6 := Lib.hid hr
  clear hr hb1 OO HH H3 RX3
  go_wp2_with fail
  with_reducible refine (begin_c 1 1 rfl w6).mono ?_
  rintro e w7 ⟨k3, rfl, ho, hb1⟩
  have OO := Lib.hid ho
  have HH := Lib.hid hb1
  clear ho hb1
  go_wp2_with fail
  have eT : outText ([72, 89, 1], 0) S = ([72, 89, 1] ++ (numBytes S.length ++ S), 0) := by
    have : ¬ 131072 < S.length := by omega
    simp [outText, this]
  have P := text1 w6.heap.size k3 _ S w7 OO.out (by decide) (by omega)
  rw [eT] at P
  with_reducible refine P.mono ?_
  clear P
  rintro e w8 ⟨rfl, ho, hb1⟩
  have HH := Lib.hid (HH.out.trans hb1)
  have OO := Lib.hid ho
  clear ho hb1
  go_wp2_with fail
  with_reducible refine (bytes_ok w6.heap.size k3 _ w8 OO.out rfl (by show ([72, 89, 1] ++ (numBytes S.length ++ S)).length ≤ _; rw [List.length_append, List.length_append]; simp; omega)).mono ?_
  rintro e w9 ⟨vt, rfl, hr, hb1⟩
  have HH := Lib.hid (HH.out.trans (hb1.mono HH.out.size))
  have H9 := Lib.hid (H6.out.trans (HH.out.mono H6.out.size))
  have RX9 := Lib.hid (rowIs.below RX6.out HH.out (Nat.le_refl _))
  have RY9 := Lib.hid (rowIs.below RY6.out HH.out (Nat.le_refl _))
  have RT9 := Lib.hid hr
  clear hr hb1 OO HH H6 RX6 RY6
  go_wp2_with fail
  with_reducible refine (begin_c 1 1 rfl w9).mono ?_
  rintro e w10 ⟨k4, rfl, ho, hb1⟩
  have OO := Lib.hid ho
  have HH := Lib.hid hb1
  clear ho hb1
  go_wp2_with fail
  have P := num1 w9.heap.size k4 _ (S.length : Int) w10 OO.out (by simp [Lit.wf, IntKind.min, IntKind.max, IntKind.signed, IntKind.bits]; omega) (by decide)
  rw [outNum_nat _ _ (by omega)] at P
  with_reducible refine P.mono ?_
  clear P
  rintro e w11 ⟨rfl, ho, hb1⟩
  have HH := Lib.hid (HH.out.trans hb1)
  have OO := Lib.hid ho
  clear ho hb1
  go_wp2_with fail
  with_reducible refine (bytes_ok w9.heap.size k4 _ w11 OO.out rfl (by show ([72, 89, 1] ++ numBytes S.length).length ≤ _; rw [List.length_append]; simp; omega)).mono ?_
  rintro e w12 ⟨vc, rfl, hr, hb1⟩
  have HH := Lib.hid (HH.out.trans (hb1.mono HH.out.size))
  have H12 := Lib.hid (H9.out.trans (HH.out.mono H9.out.size))
  have RX12 := Lib.hid (rowIs.below RX9.out HH.out (Nat.le_refl _))
  have RY12 := Lib.hid (rowIs.below RY9.out HH.out (Nat.le_refl _))
  have RT12 := Lib.hid (rowIs.below RT9.out HH.out (Nat.le_refl _))
  have RC12 := Lib.hid hr
  clear hr hb1 OO HH H9 RX9 RY9 RT9
  go_wp2_with fail
  with_reducible refine (begin_c 1 1 rfl w12).mono ?_
  rintro e w13 ⟨k5, rfl, ho, hb1⟩
  have OO := Lib.hid ho
  have HH := Lib.hid hb1
  clear ho hb1
  go_wp2_with fail
  have hu := U_flag ((A : Int) % 2 == 0)
  have P := flag1 w12.heap.size k5 _ ((A : Int) % 2 == 0) w13 OO.out (by decide)
  with_reducible refine P.mono ?_
  clear P
  rintro e w14 ⟨rfl, ho, hb1⟩
  have HH := Lib.hid (HH.out.trans hb1)
  have OO := Lib.hid ho
  clear ho hb1
  generalize outFlag ([72, 89, 1], 0) ((A : Int) % 2 == 0) = U at *
  go_wp2_with fail
  with_reducible refine (bytes_ok w12.heap.size k5 U w14 OO.out hu.1 (by rw [hu.2]; decide)).mono ?_
  rintro e w15 ⟨vu, rfl, hr, hb1⟩
  have HH := Lib.hid (HH.out.trans (hb1.mono HH.out.size))
  have H15 := Lib.hid (H12.out.trans (HH.out.mono H12.out.size))
  have RX := Lib.hid (rowIs.below RX12.out HH.out (Nat.le_refl _))
  have RY := Lib.hid (rowIs.below RY12.out HH.out (Nat.le_refl _))
  have RT := Lib.hid (rowIs.below RT12.out HH.out (Nat.le_refl _))
  have RC := Lib.hid (rowIs.below RC12.out HH.out (Nat.le_refl _))
  have RU := Lib.hid hr
  clear hr hb1 OO HH H12 RX12 RY12 RT12 RC12
  have hxy : ([72, 89, 1] ++ numBytes (min A Bb)).length ≤ ([72, 89, 1] ++ numBytes (max A Bb)).length := by
    have := numBytes_mono (min A Bb) (max A Bb) (by omega)
    rw [List.length_append, List.length_append]; omega
  have hy : ([72, 89, 1] ++ numBytes (max A Bb)).length ≤ 12 := by
    rw [List.length_append]; simp; omega
  have hc : ([72, 89, 1] ++ numBytes S.length).length ≤ 12 := by
    rw [List.length_append]; simp; omega
  have hin : str ([72, 89, 1] ++ numBytes (min A Bb)) = str ([72, 89, 1] ++ numBytes (max A Bb)) ↔ A = Bb := by
    constructor
    · intro h
      have h := numBytes_inj _ _ (List.append_cancel_left (str_inj h))
      omega
    · intro h
      rw [h, Nat.min_self, Nat.max_self]
  have ht : ([72, 89, 1] ++ (numBytes S.length ++ S)).length = ([72, 89, 1] ++ numBytes S.length).length + S.length := by
    simp [Nat.add_assoc]; omega
  have hu := hu.2
  generalize [72, 89, 1] ++ numBytes (min A Bb) = X at *
  generalize [72, 89, 1] ++ numBytes (max A Bb) = Y at *
  generalize [72, 89, 1] ++ (numBytes S.length ++ S) = T at *
  generalize [72, 89, 1] ++ numBytes S.length = C at *
  go_wp2_with fail
  with_reducible refine (glyphs_any w15).mono ?_
  rintro e w16 ⟨rfl, hb1⟩
  have H16 := Lib.hid (H15.out.trans (hb1.mono H15.out.size))
  obtain ⟨ax, cx, rfl, -, bx, -⟩ := rowIs.bytes (rowIs.below RX.out hb1 (Nat.le_refl _))
  obtain ⟨ay, cy, rfl, -, bY, -⟩ := rowIs.bytes (rowIs.below RY.out hb1 (Nat.le_refl _))
  obtain ⟨at', ct, rfl, -, -, -⟩ := rowIs.bytes RT.out
  obtain ⟨ac, cc, rfl, -, -, -⟩ := rowIs.bytes RC.out
  obtain ⟨au, cu, rfl, -, -, -⟩ := rowIs.bytes RU.out
  have V1 := conv_string w16 ax X cx bx
  have V2 := conv_string w16 ay Y cy bY
  clear H15 RX RY RT RC RU hb1 bx bY
  have h1 : ((A : Int) == (Bb : Int)) = ((str X).toList == (str Y).toList) := by
    rw [str_list, str_list, Bool.eq_iff_iff, beq_iff_eq, beq_iff_eq]
    constructor
    · intro h
      exact str_inj (hin.2 (by omega))
    · intro h
      have := hin.1 (by rw [h])
      omega
  have h2 : wrap64 ((C.length : Int) + (str S).size) = (C.length : Int) + S.length := by
    rw [hssz]; unfold wrap64; omega
  have ht := Lib.hid ht
  clear hc hin hmn hmx n1 n2 n3 hA2 hB2 eT hS hssz hsz hA hB
  go_wp2_with fail
  go_ret
  exact ⟨rfl, H16.out⟩
theorem str_of (s : ByteArray) : ∃ l, s = str l := ⟨s.data.toList, by simp [str]⟩
theorem str_le {l : List UInt8} (h : (str l).size ≤ maxLen) : l.length ≤ 9223372036854775807 := by
  rw [str_size] at h
  exact Nat.le_trans h (by decide)

namespace glyphLess
open Go.ChangeShapes Go.WideShapes Go.ChangeAt Go.RowKit Go.Joins Go.Deep Go.ChangeMaps
set_option maxRecDepth 100000 in
theorem lifted (os : Os) (started : os.Started) (H : Type) (enc : TypeId × Value → H) :
    ReturnsInHanded {} Try.checked os 7 .any (Rows.glyphLessSpec.pre6 enc Try.prog Try.f7 Rows.glyphLessRow.domain false) (Rows.glyphLessSpec.post enc Try.prog Try.f7 false true false false) := by
  refine returnsInHanded_of_change (C := Try.checked) own started (by kernel_rfl) Try.func7
    (ChangeSpec.witness6 (enc := enc) (C := Try.checked) false ⟨#[], #[.int .i64 0, .int .i64 0, .string ⟨#[]⟩], []⟩ 8 (by kernel_rfl) (by kernel_rfl) (by kernel_rfl) (by kernel_rfl)) ?_
  intro W base args ds gs before hval0 hW hcnd _
  have hval : ∀ (j : Nat) t v, Try.f7.params[j]? = some t → args[j]? = some v → Value.okWide Try.prog W .any base t v := hval0
  have hW' := hW
  obtain ⟨p, q, hA0, hV, rfl, hfz, hnd⟩ := hW
  have hA : DataW.TrodAll enc Try.prog W 0 (fun _ => true) true Try.f7.params.toList args.toList ds p := hA0
  rw [Try.params7] at hA hval
  obtain ⟨v0, vs0, d0, ds0, p0, q0, hargs, rfl, rfl, h0, r0⟩ := trodAll_cons hA
  obtain ⟨v1, vs1, d1, ds1, p1, q1, rfl, rfl, rfl, h1, r1⟩ := trodAll_cons r0
  obtain ⟨v2, vs2, d2, ds2, p2, q2, rfl, rfl, rfl, h2, r2⟩ := trodAll_cons r1
  obtain ⟨rfl, rfl, rfl⟩ := trodAll_nil r2
  obtain rfl : args = #[v0, v1, v2] := by cases args; simp_all
  obtain ⟨rfl, rfl⟩ := trodVars_none hV
  obtain ⟨a0, rfl, rfl, rfl, w0⟩ := open_int Try.underlying3 (hval 0 3 v0 rfl rfl) h0
  obtain ⟨a1, rfl, rfl, rfl, w1⟩ := open_int Try.underlying3 (hval 1 3 v1 rfl rfl) h1
  obtain ⟨s2, rfl, rfl, rfl, w2⟩ := open_string Try.underlying9 (hval 2 9 v2 rfl rfl) h2
  obtain ⟨l2, rfl⟩ := str_of s2
  clear hA0 hval0
  simp only [List.append_nil, List.nil_append] at hW'
  refine (law_glyphLess a0 a1 l2 W w0 w1 (str_le w2)).mono fun e W' ⟨he, hb⟩ => ?_
  subst he
  refine ⟨_, rfl, [_, _, _], [], [], [], [], [], by simpa using hW', ?_, ?_, ?_, hb.frame _, fun h => by cases h⟩
  · exact trodAll_cons_mk (shut_bool Try.underlying4 _) trodAll_mk0
  · have : DataW.TrodAll enc Try.prog W' 0 (fun b => decide (b < W.heap.size)) true _ _ _ _ := (trodAll_cons_mk (shut_int Try.underlying3 w0) (trodAll_cons_mk (shut_int Try.underlying3 w1) (trodAll_cons_mk (shut_string Try.underlying9 w2) trodAll_mk0)))
    simp only [List.append_nil, List.nil_append] at this
    exact this
  · rfl

theorem proved : Rows.GlyphLessSaid :=
  OpenClaim.holds_of_wide 7 Try.f7 rfl rfl rfl rfl rfl rfl rfl ⟨rfl, rfl, rfl, rfl, rfl⟩ rfl rfl rfl rfl rfl (by kernel_rfl) Try.func7 (by kernel_rfl)
    (of_decide_eq_true (by kernel_rfl)) (by unfold Func.isWrapper; first | (rw [if_pos (by decide +kernel)]; kernel_rfl) | (rw [if_neg (by decide +kernel)]; exact ⟨rfl, rfl⟩))
    (fun os started H enc _ => lifted os started H enc)
end glyphLess
end Go.Proofs.Ytklmehjkmlphcaa
