/- The document's Encode. -/
import Derived.Test.YtjgmhaajcglpmaaNs
namespace Go.Proofs.Ytjgmhaajcglpmaa
open Go.RowKit

theorem refBegin_c (x : UInt8) (n : Int) (h : n = V x) (w : World) :
    Calls Try.prog 29 #[.int .u8 n] w fun e w' => e = .returned (.string (str [72, 89, x])) ∧ Below w.heap.size w w' := by
  subst h
  exact refBegin_any x w
theorem refNum_c (n : Int) (h0 : 0 ≤ n) (h1 : n < 4611686018427387904) (w : World) :
    Calls Try.prog 30 #[.int .i64 n] w fun e w' => e = .returned (.string (str (numBytes n.toNat))) ∧ Below w.heap.size w w' := by
  obtain ⟨k, rfl⟩ : ∃ k : Nat, n = (k : Int) := ⟨n.toNat, by omega⟩
  exact refNum_any k w (by omega)
section
variable {w : World} {ops : Array Oper} {rest : List Oper} {o : Oper} {a : Act} {K : Act → World → Prop} {Q : Exit → Act → World → Prop} {E : Prop}
theorem step_append_str (hw : Region.wanted o (yielded ops a.tmps) = true) (s x : Operand) (ho : o.op = .call { callee := .builtin .append, args := #[s, x], argTypes := #[40, 9] })
    (base : Nat) (v : Value) (xs l : List UInt8) (hs : a.eval s = v) (hx : a.eval x = .string (str l)) (hown : rowIs w base v xs) (hn : xs.length + l.length ≤ 1000000000) (hbase : base ≤ w.heap.size)
    (h : ∀ v' w', rowIs w' base v' (xs ++ l) → w.grownBy w' v.ownBlock → K (a.put o.dst v') w') : if Region.wanted o (yielded ops a.tmps) = true then Oper.wp Try.prog o a w K Q else E := by
  rw [if_pos hw]
  obtain ⟨i0, hi, hz0, hz1, hz2⟩ := info_parts info_u8
  have hsz := str_size l
  obtain ⟨v', w', hr, h2, h3, -⟩ := Go.Lib.run_append_own_string (P := Try.prog) (w := w) base 40 9 o.type 5 i0 Try.underlying40 Try.underlying9 hi hz0 hz1 hz2 v _ _ hown (str l) (by rw [hsz]; unfold maxLen; omega) (by rw [hsz]; omega) hbase
  unfold Oper.wp execOp
  simp only [ho, resolve, invoke, builtin, Sem.run_bind, Sem.run_pure, Result.andThen_ok, List.map_toArray, List.map_cons, List.map_nil, hs, hx, hr]
  refine h v' w' ?_ h3
  rw [str_cells] at h2
  unfold rowIs
  rw [List.length_append, bvals_append, ← hsz]
  exact h2
theorem append_str (hw : Region.wanted o (yielded ops a.tmps) = true) (s x : Operand) (ho : o.op = .call { callee := .builtin .append, args := #[s, x], argTypes := #[40, 9] })
    (base : Nat) (v : Value) (xs l : List UInt8) (hs : a.eval s = v) (hx : a.eval x = .string (str l)) (hown : rowIs w base v xs) (hn : xs.length + l.length ≤ 1000000000) (hbase : base ≤ w.heap.size)
    (h : ∀ v' w', rowIs w' base v' (xs ++ l) → w.grownBy w' v.ownBlock → wpList Try.prog ops Q rest (a.put o.dst v') w') : wpList Try.prog ops Q (o :: rest) a w :=
  wpList_step fun K hK => step_append_str hw s x ho base v xs l hs hx hown hn hbase (fun v' w' h1 h2 => hK _ _ (h v' w' h1 h2))
end
/-- A node's bytes, as the document writes them. -/
def ndA (n : Nd) : List UInt8 := (((numBytes n.name.length ++ n.name) ++ numBytes n.kind.toNat) ++ numBytes n.mode.toNat) ++ numBytes n.time.toNat
def ndB (n : Nd) : List UInt8 := if n.kind = 0 then (numBytes n.size.toNat ++ numBytes n.parts.length) ++ n.parts.flatten else if n.kind = 1 then n.tree else numBytes n.target.length ++ n.target
theorem nd_AB (n : Nd) : ndBytes n = ndA n ++ ndB n := by
  unfold ndBytes ndA ndB
  simp
theorem bytesIn_range {w : World} {b o : Nat} {l : List UInt8} (h : w.rangeAt b o (bvals l)) : bytesIn w (some ⟨b, o, none⟩) l := bytes_range h
theorem flat_take (L : List Nd) (j : Nat) (h : j < L.length) : (L.take (j + 1)).flatMap ndBytes = (L.take j).flatMap ndBytes ++ ndBytes L[j] := by
  rw [List.take_succ_eq_append_getElem h, List.flatMap_append]
  simp
theorem flatten_take (P : List (List UInt8)) (j : Nat) (h : j < P.length) : (P.take (j + 1)).flatten = (P.take j).flatten ++ P[j] := by
  rw [List.take_succ_eq_append_getElem h, List.flatten_append]
  simp
theorem flatten_len (P : List (List UInt8)) (h : ∀ p ∈ P, p.length = 32) : P.flatten.length = 32 * P.length := by
  induction P with
  | nil => simp
  | cons p P ih =>
    rw [List.flatten_cons, List.length_append, ih (fun q hq => h q (List.mem_cons_of_mem _ hq)), h p List.mem_cons_self, List.length_cons]
    omega
set_option maxRecDepth 100000 in
set_option maxHeartbeats 8000000 in
theorem docEncode_any (a : Option Addr) (c : Nat) (L : List Nd) (w : World) (hl : L.length ≤ 9223372036854775807) (hw : weight L ≤ 20000) (h : rowN w a L) :
    Calls Try.prog 17 #[.slice a L.length c] w fun e w' => e = .returned (.tuple #[.string (str (if checkL L = 0 then encBytes L else [])), .int .i64 (checkL L)]) ∧ Below w.heap.size w w' := by
  have H := Lib.hid h
  have HWT := Lib.hid hw
  have hse : (⟨#[]⟩ : ByteArray) = str [] := rfl
  obtain ⟨X, hX⟩ : ∃ X, X = (if checkL L = 0 then encBytes L else []) := ⟨_, rfl⟩
  obtain ⟨E, hE⟩ : ∃ E, E = checkL L := ⟨_, rfl⟩
  rw [← hX, ← hE]
  have HX := Lib.hid hX
  have HE := Lib.hid hE
  clear h hw hX hE
  by_cases hbig : 2000 < L.length
  · have hb : (2000 : Int) < (L.length : Int) := by omega
    have HC : Hid (checkL L = 4) := Lib.hid (by unfold checkL; rw [if_pos hbig])
    have HV : Hid (X = [] ∧ E = 4) := Lib.hid ⟨by rw [HX.out, HC.out]; rfl, by rw [HE.out, HC.out]⟩
    go_enter Try.func17, Try.ntmps17
    go_wp2_with fail
    go_ret2
    exact ⟨by rw [HV.out.1, HV.out.2]; rfl, Below.refl _ _⟩
  · have hb : ¬ (2000 : Int) < (L.length : Int) := by omega
    obtain ⟨FE, hFE⟩ : ∃ FE, FE = firstE L := ⟨_, rfl⟩
    have HFE := Lib.hid hFE
    have HC : Hid (checkL L = if FE ≠ 0 then FE else if risesN L then 0 else 2) := Lib.hid (by unfold checkL; rw [if_neg hbig, ← hFE])
    clear hFE
    have HL2 : Hid (L.length ≤ 2000) := Lib.hid (by omega)
    go_enter Try.func17, Try.ntmps17
    go_wp2_with fail
    go_loopw [4] (fun i wr => ∃ j : Nat, j ≤ L.length ∧ i = .int .i64 j ∧ Hid (FE = firstE (L.drop j)) ∧ Hid (Below w.heap.size w wr)) (fun i _ => L.length - (intOf i).toNat)
    case atStart => exact ⟨0, Nat.zero_le _, rfl, Lib.hid (by rw [HFE.out]; rfl), Lib.hid (Below.refl _ _)⟩
    case round =>
      obtain ⟨j, hj, rfl, HEj, HB⟩ := hrel
      have p0 : 0 ≤ (j : Int) := by omega
      by_cases hlt : j < L.length
      · have q0 : (j : Int) < (L.length : Int) := by omega
        obtain ⟨b, o, rfl, hn⟩ := (H.out.below HB.out (Nat.le_refl _)).at j hlt
        have HD := Lib.hid (firstE_drop L j hlt)
        obtain ⟨n, hnn⟩ : ∃ n, n = L[j] := ⟨_, rfl⟩
        rw [← hnn] at hn HD
        clear hnn
        obtain ⟨pa, pc, wf, -, hr⟩ := hn.form
        have R1 := Lib.hid hr
        have HT := Lib.hid wf.tree
        clear hr wf hn
        have HCL := Lib.hid (n.cells_length (.slice pa n.parts.length pc) HT.out)
        have CK := fun w => Lib.hid (refCheck_any n pa pc w HT.out)
        generalize n.cells (.slice pa n.parts.length pc) = cs at *
        go_wp2_with (refine load_rn (by rfl) _ rfl b (o + j * 39) rfl cs R1.out HCL.out ?_)
        with_reducible refine (CK _).out.mono ?_
        rintro e w6 ⟨rfl, b6⟩
        have B6 := Lib.hid (HB.out.trans (b6.mono HB.out.size))
        clear b6 R1 HB CK
        generalize n.check = C at *
        by_cases h0 : C = 0
        · have hb0 : (C != 0) = false := by simp [h0]
          have HN : Hid (FE = firstE (L.drop (j + 1))) := Lib.hid (by rw [HEj.out, HD.out, if_pos h0])
          clear h0
          go_wp2_with fail
          go_roundw
          case rel => exact ⟨j + 1, by omega, by go_num, HN, B6⟩
          case measure => simp [intOf]; omega
        · have hb0 : (C != 0) = true := by simp [h0]
          have HN : Hid (FE = C) := Lib.hid (by rw [HEj.out, HD.out, if_neg h0])
          have HNZ := Lib.hid h0
          have HV : Hid (X = [] ∧ E = C) := Lib.hid (by
            have hc : checkL L = C := by rw [HC.out, HN.out, if_pos h0]
            exact ⟨by rw [HX.out, hc, if_neg h0], by rw [HE.out, hc]⟩)
          clear h0
          go_wp2_with fail
          go_ret2
          exact ⟨by rw [HV.out.1, HV.out.2]; rfl, B6.out⟩
      · obtain rfl : j = L.length := by omega
        have H0 : Hid (FE = 0) := Lib.hid (by rw [HEj.out, List.drop_length]; rfl)
        have q0 : ¬ ((L.length : Int) < (L.length : Int)) := by omega
        have HC2 : Hid (checkL L = if risesN L then 0 else 2) := Lib.hid (by rw [HC.out, if_neg (by rw [H0.out]; simp)])
        have HOK : Hid (∀ n ∈ L, n.check = 0) := Lib.hid (firstE_zero (by rw [← HFE.out, H0.out]))
        have HWF := Lib.hid H.out.wf
        have B1 := HB
        clear HEj HB hj p0 HC HFE
        go_wp2_with fail
        with_reducible refine (refBegin_c 110 110 rfl wr).mono ?_
        rintro e w2 ⟨rfl, b2⟩
        have B2 := Lib.hid (B1.out.trans (b2.mono B1.out.size))
        clear b2 B1
        have N9 := Lib.hid (numBytes_nine L.length (by omega))
        have PN := Lib.hid (refNum_any L.length w2 (by omega))
        obtain ⟨M, hM⟩ : ∃ M, M = numBytes L.length := ⟨_, rfl⟩
        rw [← hM] at PN N9
        have HM := Lib.hid hM
        clear hM
        go_wp2_with fail
        with_reducible refine PN.out.mono ?_
        rintro e w3 ⟨rfl, b3⟩
        have B3 := Lib.hid (B2.out.trans (b3.mono B2.out.size))
        clear b3 B2 PN
        have hs1 : (str [72, 89, 110]).size = 3 := str_size [72, 89, 110]
        have hs2 := str_size M
        have hap := str_append [72, 89, 110] M
        have c0 : ¬ (9223372036854775807 < 3 + M.length) := by have := N9.out; omega
        obtain ⟨F, hF⟩ : ∃ F, F = [72, 89, 110] ++ M := ⟨_, rfl⟩
        have HFL : Hid (F.length ≤ 12) := Lib.hid (by rw [hF, List.length_append]; have := N9.out; simp; omega)
        have HF : Hid (F = [72, 89, 110] ++ numBytes L.length) := Lib.hid (by rw [hF, HM.out])
        rw [← hF] at hap
        clear hF
        go_wp2_with (at_builtin; refine Hid.out ?_)
        refine Lib.hid ?_
        refine append_str (by rfl) _ _ rfl w.heap.size (.slice none 0 0) [] F rfl rfl (World.ownsRow_nil _ _ _ _) (by have := HFL.out; simp; omega) B3.out.size ?_
        intro v1 w4 o4 g4
        rw [List.nil_append] at o4
        have O4 := Lib.hid o4
        have B4 : Hid (Below w.heap.size w w4) := Lib.hid (B3.out.trans (rowIs.grew (show rowIs w3 w.heap.size (.slice none 0 0) [] from World.ownsRow_nil _ _ _ _) B3.out.size g4))
        clear o4 g4 B3 hs1 hs2 hap c0
        go_wp2_with fail
        go_loopw [7, 6] (fun i v wr => ∃ j : Nat, j ≤ L.length ∧ i = .int .i64 j ∧ Hid (rowIs wr w.heap.size v (F ++ (L.take j).flatMap ndBytes)) ∧ Hid (risesN L = risesN (L.drop (j - 1))) ∧ Hid (Below w.heap.size w wr)) (fun i _ _ => L.length - (intOf i).toNat)
        case atStart => exact ⟨0, Nat.zero_le _, rfl, by simpa using O4, Lib.hid rfl, B4⟩
        case round =>
          rename World => wz
          obtain ⟨j, hj, rfl, OR, HRS, BR⟩ := hrel
          have p0 : 0 ≤ (j : Int) := by omega
          by_cases hlt : j < L.length
          · have q0 : (j : Int) < (L.length : Int) := by omega
            obtain ⟨b, o, rfl, hn⟩ := H.out.at j hlt
            have HCK := Lib.hid (HOK.out _ (List.getElem_mem hlt))
            have HTK := Lib.hid (flat_take L j hlt)
            have HPW := Lib.hid (weight_mem (List.getElem_mem hlt))
            have HQ : Hid (∃ q : Bool, q = (decide (0 < j) && leN (L.getD (j - 1) L[j]) L[j])) := Lib.hid ⟨_, rfl⟩
            obtain ⟨q, hq⟩ := HQ.out
            have HNM : Hid (0 < j → ∃ nm0, wz.cell? ⟨b, o + (j - 1) * 39, none⟩ = some (.string (str nm0)) ∧ ((Op.bytesLess (str L[j].name).toList (str nm0).toList || (str L[j].name).toList == (str nm0).toList) = q) ∧ risesN (L.drop (j - 1)) = (!q && risesN (L.drop j))) := Lib.hid (fun h0 => by
              obtain ⟨b', o', e', hn2⟩ := (H.out.below BR.out (Nat.le_refl _)).at (j - 1) (by omega)
              injection e' with e'
              injection e' with e1 e2
              subst e1 e2
              have hg : L.getD (j - 1) L[j] = L[j - 1] := by simp [show j - 1 < L.length by omega]
              refine ⟨L[j - 1].name, hn2.name, ?_, ?_⟩
              · rw [hq, hg, Lib.toList_data, Lib.toList_data, decide_eq_true h0]
                rfl
              · have hd := risesN_drop L (j - 1) (by omega)
                have hj1 : j - 1 + 1 = j := by omega
                simp only [hj1] at hd
                rw [hd, hq, hg, decide_eq_true h0]
                rfl)
            have HQ0 : Hid (j = 0 → q = false) := Lib.hid (fun h => by rw [hq, decide_eq_false (by omega)]; rfl)
            have HRD : Hid (q = false → risesN L = risesN (L.drop j)) := Lib.hid (fun h => by
              by_cases h0 : 0 < j
              · obtain ⟨_, -, -, h3⟩ := HNM.out h0
                rw [HRS.out, h3, h]
                rfl
              · rw [HRS.out, show j - 1 = j by omega])
            have HRT : Hid (q = true → risesN L = false) := Lib.hid (fun h => by
              by_cases h0 : 0 < j
              · obtain ⟨_, -, -, h3⟩ := HNM.out h0
                rw [HRS.out, h3, h]
                rfl
              · have := HQ0.out (by omega)
                rw [h] at this
                cases this)
            clear hq HQ
            generalize L[j] = n at *
            obtain ⟨pa, pc, wf, hid, hr⟩ := hn.form
            have WF := Lib.hid wf
            have R1 := Lib.hid (range_below hr BR.out (Nat.le_refl _))
            have ID7 : Hid (∀ x, Below w.heap.size w x → idsIn x (.slice pa n.parts.length pc) n.parts) := Lib.hid (fun x hx => hid.below hx (Nat.le_refl _))
            clear hn wf hid hr
            have HCL := Lib.hid (n.cells_length (.slice pa n.parts.length pc) WF.out.tree)
            have HC1 := Lib.hid (cells_one n (.slice pa n.parts.length pc) rfl)
            have HZ := Lib.hid (zeroNd.cells_length (.slice none 0 0) rfl)
            have hz := zero_rn
            generalize hcs : n.cells (.slice pa n.parts.length pc) = cs at *
            have HCS := Lib.hid hcs
            clear hcs
            generalize zeroNd.cells (.slice none 0 0) = zs at *
            go_wp2_with (first | (refine load_rn (by rfl) _ rfl b (o + j * 39) rfl cs R1.out HCL.out ?_) | (refine store_new 26 info_rn rfl _ _ rfl cs zs rfl rfl HCL.out HZ.out HC1.out ?_))
            intro w5 h1 h2
            have O5 := Lib.hid (rowIs.below OR.out h2.out (Nat.le_refl _))
            have B5 := Lib.hid (BR.out.trans (h2.out.mono BR.out.size))
            have HNM5 : Hid (0 < j → ∃ nm0, w5.cell? ⟨b, o + (j - 1) * 39, none⟩ = some (.string (str nm0)) ∧ ((Op.bytesLess (str n.name).toList (str nm0).toList || (str n.name).toList == (str nm0).toList) = q)) := Lib.hid (fun h0 => by
              obtain ⟨nm0, e1, e2, -⟩ := HNM.out h0
              exact ⟨nm0, (h2.out.cell (block_lt_of_cell e1)).trans e1, e2⟩)
            have HBK := h1
            rw [← HCS.out] at HBK
            clear h1 h2 hz R1 OR BR HNM HC1 HZ HCL HRS
            generalize wz.heap.size = g at *
            obtain ⟨c0, c1, c2, c3, c4, c5, c6⟩ := nd_block HBK.out
            go_upto_region 15 with fail
            go_cut [56] (fun v wx => v = .bool q ∧ Hid (Below w5.heap.size w5 wx))
            case first =>
              by_cases h0 : 0 < j
              · obtain ⟨nm0, e1, e2⟩ := HNM5.out h0
                have d0 : decide (0 < j) = true := decide_eq_true h0
                have ew : IntKind.i64.wrap ((j : Int) - 1) = ((j - 1 : Nat) : Int) := by rw [IntWalk.i64_in _ (by omega)]; omega
                obtain ⟨m, hm⟩ : ∃ m, m = j - 1 := ⟨_, rfl⟩
                rw [← hm] at e1 ew
                have hm0 : 0 ≤ (m : Int) := by omega
                have hm1 : (m : Int) < (L.length : Int) := by omega
                clear hm h0
                go_quiet (fail)
                have BQ := Lib.hid (below_drewN (Below.refl w5.heap.size w5) nq)
                generalize w5.drewN nq = w6 at *
                go_wp2_with fail
                go_meet
                case rel => exact ⟨rfl, BQ⟩
              · have d0 : decide (0 < j) = false := decide_eq_false h0
                have HQF := HQ0.out (by omega)
                clear h0
                go_quiet (fail)
                have BQ := Lib.hid (below_drewN (Below.refl w5.heap.size w5) nq)
                generalize w5.drewN nq = w6 at *
                go_wp2_with fail
                go_meet
                case rel => exact ⟨by rw [HQF], BQ⟩
            obtain ⟨rfl, HK⟩ := hcut
            rename World => w6
            have O6 := Lib.hid (rowIs.below O5.out HK.out (Nat.le_refl _))
            have B6 := Lib.hid (B5.out.trans (HK.out.mono B5.out.size))
            have HBK6 := Lib.hid (HBK.out.below HK.out HBK.out.lt)
            clear O5 B5 HBK HK HNM5 c0 c1 c2 c3 c4 c5 c6
            cases q with
            | true =>
              have HV : Hid (X = [] ∧ E = 2) := Lib.hid (by
                have hc : checkL L = 2 := by rw [HC2.out, HRT.out rfl]; rfl
                exact ⟨by rw [HX.out, hc]; rfl, by rw [HE.out, hc]⟩)
              go_wp2_with fail
              go_ret2
              exact ⟨by rw [HV.out.1, HV.out.2]; rfl, B6.out⟩
            | false =>
              have HRJ : Hid (risesN L = risesN (L.drop (j + 1 - 1))) := Lib.hid (HRD.out rfl)
              have hko := check_ok HCK.out
              obtain ⟨g1, g2, g3⟩ := check_small HCK.out
              obtain ⟨-, m1, m2, hkok⟩ := hko
              have hkr : 0 ≤ n.kind ∧ n.kind ≤ 2 := by rcases kind_cases hkok with h | h | h <;> omega
              have HKC := Lib.hid (kind_cases hkok)
              clear hkok
              have CL : Hid (∀ x, Below w.heap.size w x ∧ blockIs x g (n.cells (.slice pa n.parts.length pc)) 26 → x.cell? ⟨g, 0, none⟩ = some (.string (str n.name)) ∧ x.cell? ⟨g, 1, none⟩ = some (.int .i64 n.kind) ∧ x.cell? ⟨g, 2, none⟩ = some (.int .i64 n.mode) ∧ x.cell? ⟨g, 3, none⟩ = some (.int .i64 n.time) ∧ x.cell? ⟨g, 4, none⟩ = some (.int .i64 n.size) ∧ x.cell? ⟨g, 5, none⟩ = some (.string (str n.target)) ∧ x.cell? ⟨g, 6, none⟩ = some (.slice pa n.parts.length pc)) := Lib.hid (fun x hb => nd_block hb.2)
              have PT := fun w => Lib.hid (refText_any n.name w (by omega))
              have PK := fun w => Lib.hid (refNum_c n.kind hkr.1 (by omega) w)
              have PM := fun w => Lib.hid (refNum_c n.mode m1.1 (by omega) w)
              have PZ := fun w => Lib.hid (refNum_c n.time m2.1 (by omega) w)
              have l1 := numBytes_nine n.name.length (by omega)
              have l2 := numBytes_nine n.kind.toNat (by omega)
              have l3 := numBytes_nine n.mode.toNat (by omega)
              have l4 := numBytes_nine n.time.toNat (by omega)
              have HAB := Lib.hid (nd_AB n)
              have HA : Hid (ndA n = (((numBytes n.name.length ++ n.name) ++ numBytes n.kind.toNat) ++ numBytes n.mode.toNat) ++ numBytes n.time.toNat) := Lib.hid rfl
              have l0 : (numBytes n.name.length ++ n.name).length ≤ 264 := by rw [List.length_append]; omega
              generalize numBytes n.name.length ++ n.name = TB at *
              generalize numBytes n.kind.toNat = KB at *
              generalize numBytes n.mode.toNat = MB at *
              generalize numBytes n.time.toNat = ZB at *
              obtain ⟨D1, hD1⟩ : ∃ D1, D1 = TB ++ KB := ⟨_, rfl⟩
              obtain ⟨D2, hD2⟩ : ∃ D2, D2 = D1 ++ MB := ⟨_, rfl⟩
              obtain ⟨D3, hD3⟩ : ∃ D3, D3 = D2 ++ ZB := ⟨_, rfl⟩
              have k1 : D1.length ≤ 273 := by rw [hD1, List.length_append]; omega
              have k2 : D2.length ≤ 282 := by rw [hD2, List.length_append]; omega
              have k3 : D3.length ≤ 291 := by rw [hD3, List.length_append]; omega
              have P1 : Hid (str TB ++ str KB = str D1 ∧ ¬ (9223372036854775807 < TB.length + KB.length)) := Lib.hid ⟨by rw [hD1]; exact str_append _ _, by omega⟩
              have P2 : Hid (str D1 ++ str MB = str D2 ∧ ¬ (9223372036854775807 < D1.length + MB.length)) := Lib.hid ⟨by rw [hD2]; exact str_append _ _, by omega⟩
              have P3 : Hid (str D2 ++ str ZB = str D3 ∧ ¬ (9223372036854775807 < D2.length + ZB.length)) := Lib.hid ⟨by rw [hD3]; exact str_append _ _, by omega⟩
              have HA : Hid (ndA n = D3) := Lib.hid (by rw [HA.out, hD3, hD2, hD1])
              clear hD1 hD2 hD3
              have HXL : Hid ((F ++ (L.take j).flatMap ndBytes).length ≤ 10000000) := Lib.hid (by
                have h1 := flat_len (L.take j) (fun n hn => HOK.out n (List.mem_of_mem_take hn)) (fun n hn => HWF.out n (List.mem_of_mem_take hn))
                have h2 := weight_take L j
                have h3 : (L.take j).length ≤ 2000 := by rw [List.length_take]; have := HL2.out; omega
                have h4 := HFL.out
                have h5 := HWT.out
                rw [List.length_append]
                omega)
              generalize hfx : F ++ (L.take j).flatMap ndBytes = FX at *
              have HFX := Lib.hid hfx
              clear hfx
              go_upto_region 17 with fail
              refine wp_region_noPanic ?_
              have hB := below_drewN (Below.refl w6.heap.size w6) 1
              refine wp_region_held_drew (S := fun x => Below w.heap.size w x ∧ blockIs x g (n.cells (.slice pa n.parts.length pc)) 26) (by kernel_rfl) ⟨below_drewN B6.out 1, HBK6.out⟩ (fun hH => ?_)
              change Below w6.heap.size w6 w6.drew at hB
              generalize w6.drew = y0 at *
              refine wpAnyH_take (i := 0) (oi := { dst := some 57, op := Op.move (Operand.tmp 6), type := 40, pos := "ref.go:85", after := #[], guard := none }) (v := u6) rfl (by kernel_rfl) (by kernel_rfl) (by kernel_rfl) (fun _ _ _ h => h) (Or.inl ⟨by rfl, fun wx hS => ?_⟩) hH ?_
              · go_simp
              simp only [Act.put, List.setIfInBounds_toArray, List.set_cons_zero, List.set_cons_succ]
              refine wpAnyH_take (i := 1) (oi := { dst := some 58, op := Op.fieldAddr 26 (Operand.tmp 8) 0, type := 0, pos := "ref.go:85", after := #[], guard := none }) (v := .pointer (some ⟨g, 0, none⟩)) rfl (by kernel_rfl) (by kernel_rfl) (by kernel_rfl) (fun _ _ _ h => h) (Or.inl ⟨by rfl, fun wx hS => ?_⟩) hH ?_
              · go_simp
              simp only [Act.put, List.setIfInBounds_toArray, List.set_cons_zero, List.set_cons_succ]
              refine wpAnyH_take (i := 2) (oi := { dst := some 59, op := Op.load 9 (Operand.tmp 58), type := 9, pos := "ref.go:85", after := #[{ on := 1, ground := Ground.data }], guard := none }) (v := .string (str n.name)) rfl (by kernel_rfl) (by kernel_rfl) (by kernel_rfl) (fun _ _ _ h => h) (Or.inl ⟨by rfl, fun wx hS => ?_⟩) hH ?_
              · have c := (CL.out wx hS).1; go_simp
              simp only [Act.put, List.setIfInBounds_toArray, List.set_cons_zero, List.set_cons_succ]
              refine wpAnyH_take (i := 4) (oi := { dst := some 61, op := Op.fieldAddr 26 (Operand.tmp 8) 1, type := 0, pos := "ref.go:85", after := #[], guard := none }) (v := .pointer (some ⟨g, 1, none⟩)) rfl (by kernel_rfl) (by kernel_rfl) (by kernel_rfl) (fun _ _ _ h => h) (Or.inl ⟨by rfl, fun wx hS => ?_⟩) hH ?_
              · go_simp
              simp only [Act.put, List.setIfInBounds_toArray, List.set_cons_zero, List.set_cons_succ]
              refine wpAnyH_take (i := 5) (oi := { dst := some 62, op := Op.load 3 (Operand.tmp 61), type := 3, pos := "ref.go:85", after := #[{ on := 4, ground := Ground.data }], guard := none }) (v := .int .i64 n.kind) rfl (by kernel_rfl) (by kernel_rfl) (by kernel_rfl) (fun _ _ _ h => h) (Or.inl ⟨by rfl, fun wx hS => ?_⟩) hH ?_
              · have c := (CL.out wx hS).2.1; go_simp
              simp only [Act.put, List.setIfInBounds_toArray, List.set_cons_zero, List.set_cons_succ]
              refine wpAnyH_take (i := 8) (oi := { dst := some 65, op := Op.fieldAddr 26 (Operand.tmp 8) 2, type := 0, pos := "ref.go:85", after := #[], guard := none }) (v := .pointer (some ⟨g, 2, none⟩)) rfl (by kernel_rfl) (by kernel_rfl) (by kernel_rfl) (fun _ _ _ h => h) (Or.inl ⟨by rfl, fun wx hS => ?_⟩) hH ?_
              · go_simp
              simp only [Act.put, List.setIfInBounds_toArray, List.set_cons_zero, List.set_cons_succ]
              refine wpAnyH_take (i := 9) (oi := { dst := some 66, op := Op.load 3 (Operand.tmp 65), type := 3, pos := "ref.go:85", after := #[{ on := 8, ground := Ground.data }], guard := none }) (v := .int .i64 n.mode) rfl (by kernel_rfl) (by kernel_rfl) (by kernel_rfl) (fun _ _ _ h => h) (Or.inl ⟨by rfl, fun wx hS => ?_⟩) hH ?_
              · have c := (CL.out wx hS).2.2.1; go_simp
              simp only [Act.put, List.setIfInBounds_toArray, List.set_cons_zero, List.set_cons_succ]
              refine wpAnyH_take (i := 12) (oi := { dst := some 69, op := Op.fieldAddr 26 (Operand.tmp 8) 3, type := 0, pos := "ref.go:85", after := #[], guard := none }) (v := .pointer (some ⟨g, 3, none⟩)) rfl (by kernel_rfl) (by kernel_rfl) (by kernel_rfl) (fun _ _ _ h => h) (Or.inl ⟨by rfl, fun wx hS => ?_⟩) hH ?_
              · go_simp
              simp only [Act.put, List.setIfInBounds_toArray, List.set_cons_zero, List.set_cons_succ]
              refine wpAnyH_take (i := 13) (oi := { dst := some 70, op := Op.load 3 (Operand.tmp 69), type := 3, pos := "ref.go:85", after := #[{ on := 12, ground := Ground.data }], guard := none }) (v := .int .i64 n.time) rfl (by kernel_rfl) (by kernel_rfl) (by kernel_rfl) (fun _ _ _ h => h) (Or.inl ⟨by rfl, fun wx hS => ?_⟩) hH ?_
              · have c := (CL.out wx hS).2.2.2.1; go_simp
              simp only [Act.put, List.setIfInBounds_toArray, List.set_cons_zero, List.set_cons_succ]
              refine wpAnyH_ready (rs := [3]) (by kernel_rfl) (by simp) ?_
              refine AllReadyH.cons (o := { dst := some 60, op := Op.call { callee := Callee.value (Operand.func 31), args := #[Operand.tmp 59], argTypes := #[9] }, type := 9, pos := "ref.go:85", after := #[{ on := 2, ground := Ground.data }], guard := none }) rfl (fun KK hKK => ?_) AllReadyH.nil
              go_simp
              with_reducible refine ((PT _)).out.mono ?_
              rintro e y1 ⟨rfl, kb⟩
              have hN := And.intro (hH.1.trans (kb.mono hH.1.size)) (hH.2.below kb hH.2.lt)
              replace hB := hB.trans (kb.mono hB.size)
              clear hH kb
              refine hKK.out _ _ hN (fun hH => ?_)
              clear hKK KK hN
              try simp only [Act.put, List.setIfInBounds_toArray, List.set_cons_zero, List.set_cons_succ]
              refine wpAnyH_ready (rs := [6]) (by kernel_rfl) (by simp) ?_
              refine AllReadyH.cons (o := { dst := some 63, op := Op.call { callee := Callee.value (Operand.func 30), args := #[Operand.tmp 62], argTypes := #[3] }, type := 9, pos := "ref.go:85", after := #[{ on := 5, ground := Ground.data }, { on := 3, ground := Ground.chain }], guard := none }) rfl (fun KK hKK => ?_) AllReadyH.nil
              go_simp
              with_reducible refine ((PK _)).out.mono ?_
              rintro e y2 ⟨rfl, kb⟩
              have hN := And.intro (hH.1.trans (kb.mono hH.1.size)) (hH.2.below kb hH.2.lt)
              replace hB := hB.trans (kb.mono hB.size)
              clear hH kb
              refine hKK.out _ _ hN (fun hH => ?_)
              clear hKK KK hN
              try simp only [Act.put, List.setIfInBounds_toArray, List.set_cons_zero, List.set_cons_succ]
              refine wpAnyH_take (i := 7) (oi := { dst := some 64, op := Op.binOp BinOp.add 9 (Operand.tmp 60) (Operand.tmp 63) 9, type := 9, pos := "ref.go:85", after := #[{ on := 3, ground := Ground.data }, { on := 6, ground := Ground.data }], guard := none }) (v := .string (str D1)) rfl (by kernel_rfl) (by kernel_rfl) (by kernel_rfl) (fun _ _ _ h => h) (Or.inl ⟨by rfl, fun wx hS => ?_⟩) hH ?_
              · have e1 := str_size TB; have e2 := str_size KB; have e3 := P1.out.1; have e4 := P1.out.2; go_simp
              simp only [Act.put, List.setIfInBounds_toArray, List.set_cons_zero, List.set_cons_succ]
              refine wpAnyH_ready (rs := [10]) (by kernel_rfl) (by simp) ?_
              refine AllReadyH.cons (o := { dst := some 67, op := Op.call { callee := Callee.value (Operand.func 30), args := #[Operand.tmp 66], argTypes := #[3] }, type := 9, pos := "ref.go:85", after := #[{ on := 9, ground := Ground.data }, { on := 6, ground := Ground.chain }], guard := none }) rfl (fun KK hKK => ?_) AllReadyH.nil
              go_simp
              with_reducible refine ((PM _)).out.mono ?_
              rintro e y3 ⟨rfl, kb⟩
              have hN := And.intro (hH.1.trans (kb.mono hH.1.size)) (hH.2.below kb hH.2.lt)
              replace hB := hB.trans (kb.mono hB.size)
              clear hH kb
              refine hKK.out _ _ hN (fun hH => ?_)
              clear hKK KK hN
              try simp only [Act.put, List.setIfInBounds_toArray, List.set_cons_zero, List.set_cons_succ]
              refine wpAnyH_take (i := 11) (oi := { dst := some 68, op := Op.binOp BinOp.add 9 (Operand.tmp 64) (Operand.tmp 67) 9, type := 9, pos := "ref.go:85", after := #[{ on := 7, ground := Ground.data }, { on := 10, ground := Ground.data }], guard := none }) (v := .string (str D2)) rfl (by kernel_rfl) (by kernel_rfl) (by kernel_rfl) (fun _ _ _ h => h) (Or.inl ⟨by rfl, fun wx hS => ?_⟩) hH ?_
              · have e1 := str_size D1; have e2 := str_size MB; have e3 := P2.out.1; have e4 := P2.out.2; go_simp
              simp only [Act.put, List.setIfInBounds_toArray, List.set_cons_zero, List.set_cons_succ]
              refine wpAnyH_ready (rs := [14]) (by kernel_rfl) (by simp) ?_
              refine AllReadyH.cons (o := { dst := some 71, op := Op.call { callee := Callee.value (Operand.func 30), args := #[Operand.tmp 70], argTypes := #[3] }, type := 9, pos := "ref.go:85", after := #[{ on := 13, ground := Ground.data }, { on := 10, ground := Ground.chain }], guard := none }) rfl (fun KK hKK => ?_) AllReadyH.nil
              go_simp
              with_reducible refine ((PZ _)).out.mono ?_
              rintro e y4 ⟨rfl, kb⟩
              have hN := And.intro (hH.1.trans (kb.mono hH.1.size)) (hH.2.below kb hH.2.lt)
              replace hB := hB.trans (kb.mono hB.size)
              clear hH kb
              refine hKK.out _ _ hN (fun hH => ?_)
              clear hKK KK hN
              try simp only [Act.put, List.setIfInBounds_toArray, List.set_cons_zero, List.set_cons_succ]
              refine wpAnyH_take (i := 15) (oi := { dst := some 72, op := Op.binOp BinOp.add 9 (Operand.tmp 68) (Operand.tmp 71) 9, type := 9, pos := "ref.go:85", after := #[{ on := 11, ground := Ground.data }, { on := 14, ground := Ground.data }], guard := none }) (v := .string (str D3)) rfl (by kernel_rfl) (by kernel_rfl) (by kernel_rfl) (fun _ _ _ h => h) (Or.inl ⟨by rfl, fun wx hS => ?_⟩) hH ?_
              · have e1 := str_size D2; have e2 := str_size ZB; have e3 := P3.out.1; have e4 := P3.out.2; go_simp
              simp only [Act.put, List.setIfInBounds_toArray, List.set_cons_zero, List.set_cons_succ]
              refine wpAnyH_ready (rs := [16]) (by kernel_rfl) (by simp) ?_
              refine AllReadyH.cons (o := { dst := some 73, op := Op.call { callee := Callee.builtin Builtin.append, args := #[Operand.tmp 57, Operand.tmp 72], argTypes := #[40, 9] }, type := 40, pos := "ref.go:85", after := #[{ on := 0, ground := Ground.data }, { on := 15, ground := Ground.data }, { on := 14, ground := Ground.chain }], guard := none }) rfl (fun KK hKK => ?_) AllReadyH.nil
              have q_row := rowIs.below O6.out hB (Nat.le_refl _)
              refine step_append_str (by rfl) _ _ rfl w.heap.size u6 FX (D3) rfl rfl q_row (by have := HXL.out; omega) hH.1.size ?_
              intro v' y5 o7 g7
              have hN := And.intro (hH.1.trans (rowIs.grew q_row hH.1.size g7)) ((KeptT.grown (k := g + 1) q_row g7).is hH.2 (by omega) (by decide))
              have k7 := KeptT.grown (k := g + 1) q_row g7
              clear q_row
              refine hKK.out _ _ hN (fun hH => ?_)
              clear hKK KK hN
              try simp only [Act.put, List.setIfInBounds_toArray, List.set_cons_zero, List.set_cons_succ]
              refine wpAnyH_take (i := 17) (oi := { dst := some 6, op := Op.assign (Operand.tmp 73), type := 40, pos := "ref.go:85", after := #[{ on := 16, ground := Ground.data }, { on := 16, ground := Ground.chain }, { on := 0, ground := Ground.phase }, { on := 1, ground := Ground.phase }, { on := 2, ground := Ground.phase }, { on := 3, ground := Ground.phase }, { on := 4, ground := Ground.phase }, { on := 5, ground := Ground.phase }, { on := 6, ground := Ground.phase }, { on := 7, ground := Ground.phase }, { on := 8, ground := Ground.phase }, { on := 9, ground := Ground.phase }, { on := 10, ground := Ground.phase }, { on := 11, ground := Ground.phase }, { on := 12, ground := Ground.phase }, { on := 13, ground := Ground.phase }, { on := 14, ground := Ground.phase }, { on := 15, ground := Ground.phase }, { on := 16, ground := Ground.phase }], guard := none }) (v := v') rfl (by kernel_rfl) (by kernel_rfl) (by kernel_rfl) (fun _ _ _ h => h) (Or.inl ⟨by rfl, fun wx hS => ?_⟩) hH ?_
              · go_simp
              simp only [Act.put, List.setIfInBounds_toArray, List.set_cons_zero, List.set_cons_succ]
              refine wpAnyH_done (by kernel_rfl) ?_ _
              refine NoPanic.normal ?_
              rw [← HA.out] at o7
              have O7 := Lib.hid o7
              have B7 := Lib.hid hH.1
              have HBK7 := Lib.hid hH.2
              have HAL : Hid ((FX ++ ndA n).length ≤ 10000400) := Lib.hid (by
                have := HXL.out
                rw [List.length_append, HA.out]
                omega)
              clear o7 g7 k7 hH hB O6 B6 HBK6 PT PK PM PZ HA P1 P2 P3 l0 l1 l2 l3 l4 k1 k2 k3
              have HFIN : Hid (F ++ (L.take (j + 1)).flatMap ndBytes = (FX ++ ndA n) ++ ndB n) := Lib.hid (by
                rw [HTK.out, HAB.out, ← List.append_assoc, HFX.out, List.append_assoc])
              generalize FX ++ ndA n = FA at *
              obtain ⟨-, e1, -, -, e4, e5, e6⟩ := CL.out y5 ⟨B7.out, HBK7.out⟩
              rcases HKC.out with ⟨k0, t0, t1, t2⟩ | ⟨k0, t0, t1, t2⟩ | ⟨k0, t0, t1, t2, t3, t4⟩
              · have HND : Hid (ndB n = (numBytes n.size.toNat ++ numBytes n.parts.length) ++ n.parts.flatten) := Lib.hid (by unfold ndB; rw [if_pos k0])
                rw [k0] at e1
                have z0 := t2.1.1
                have z1 := t2.1.2
                have z2 := t2.2.1
                have PS := fun w => Lib.hid (refNum_c n.size z0 (by omega) w)
                have PL := fun w => Lib.hid (refNum_c (n.parts.length : Int) (by omega) (by omega) w)
                have l5 := numBytes_nine n.size.toNat (by omega)
                have l6 := numBytes_nine n.parts.length (by omega)
                rw [Int.toNat_natCast] at PL
                obtain ⟨SB, hSB⟩ : ∃ SB, SB = numBytes n.size.toNat := ⟨_, rfl⟩
                obtain ⟨LB, hLB⟩ : ∃ LB, LB = numBytes n.parts.length := ⟨_, rfl⟩
                rw [← hSB] at HND PS l5
                rw [← hLB] at HND PL l6
                clear hSB hLB k0 t0 t1 t2
                obtain ⟨D4, hD4⟩ : ∃ D4, D4 = SB ++ LB := ⟨_, rfl⟩
                have k4 : D4.length ≤ 18 := by rw [hD4, List.length_append]; omega
                have P4 : Hid (str SB ++ str LB = str D4 ∧ ¬ (9223372036854775807 < SB.length + LB.length)) := Lib.hid ⟨by rw [hD4]; exact str_append _ _, by omega⟩
                rw [← hD4] at HND
                clear hD4
                go_upto_region 20 with fail
                refine wp_region_noPanic ?_
                have hB := below_drewN (Below.refl y5.heap.size y5) 1
                refine wp_region_held_drew (S := fun x => Below w.heap.size w x ∧ blockIs x g (n.cells (.slice pa n.parts.length pc)) 26) (by kernel_rfl) ⟨below_drewN B7.out 1, HBK7.out⟩ (fun hH => ?_)
                change Below y5.heap.size y5 y5.drew at hB
                generalize y5.drew = z0 at *
                refine wpAnyH_take (i := 0) (oi := { dst := some 78, op := Op.move (Operand.tmp 6), type := 40, pos := "ref.go:88", after := #[], guard := none }) (v := v') rfl (by kernel_rfl) (by kernel_rfl) (by kernel_rfl) (fun _ _ _ h => h) (Or.inl ⟨by rfl, fun wx hS => ?_⟩) hH ?_
                · go_simp
                simp only [Act.put, List.setIfInBounds_toArray, List.set_cons_zero, List.set_cons_succ]
                refine wpAnyH_take (i := 1) (oi := { dst := some 79, op := Op.fieldAddr 26 (Operand.tmp 8) 4, type := 0, pos := "ref.go:88", after := #[], guard := none }) (v := .pointer (some ⟨g, 4, none⟩)) rfl (by kernel_rfl) (by kernel_rfl) (by kernel_rfl) (fun _ _ _ h => h) (Or.inl ⟨by rfl, fun wx hS => ?_⟩) hH ?_
                · go_simp
                simp only [Act.put, List.setIfInBounds_toArray, List.set_cons_zero, List.set_cons_succ]
                refine wpAnyH_take (i := 2) (oi := { dst := some 80, op := Op.load 3 (Operand.tmp 79), type := 3, pos := "ref.go:88", after := #[{ on := 1, ground := Ground.data }], guard := none }) (v := .int .i64 n.size) rfl (by kernel_rfl) (by kernel_rfl) (by kernel_rfl) (fun _ _ _ h => h) (Or.inl ⟨by rfl, fun wx hS => ?_⟩) hH ?_
                · have c := (CL.out wx hS).2.2.2.2.1; go_simp
                simp only [Act.put, List.setIfInBounds_toArray, List.set_cons_zero, List.set_cons_succ]
                refine wpAnyH_take (i := 4) (oi := { dst := some 82, op := Op.fieldAddr 26 (Operand.tmp 8) 6, type := 0, pos := "ref.go:88", after := #[], guard := none }) (v := .pointer (some ⟨g, 6, none⟩)) rfl (by kernel_rfl) (by kernel_rfl) (by kernel_rfl) (fun _ _ _ h => h) (Or.inl ⟨by rfl, fun wx hS => ?_⟩) hH ?_
                · go_simp
                simp only [Act.put, List.setIfInBounds_toArray, List.set_cons_zero, List.set_cons_succ]
                refine wpAnyH_take (i := 5) (oi := { dst := some 83, op := Op.load 22 (Operand.tmp 82), type := 22, pos := "ref.go:88", after := #[{ on := 4, ground := Ground.data }], guard := none }) (v := .slice pa n.parts.length pc) rfl (by kernel_rfl) (by kernel_rfl) (by kernel_rfl) (fun _ _ _ h => h) (Or.inl ⟨by rfl, fun wx hS => ?_⟩) hH ?_
                · have c := (CL.out wx hS).2.2.2.2.2.2; go_simp
                simp only [Act.put, List.setIfInBounds_toArray, List.set_cons_zero, List.set_cons_succ]
                refine wpAnyH_take (i := 6) (oi := { dst := some 84, op := Op.call { callee := Callee.builtin Builtin.len, args := #[Operand.tmp 83], argTypes := #[22] }, type := 3, pos := "ref.go:88", after := #[{ on := 5, ground := Ground.data }], guard := none }) (v := .int .i64 (n.parts.length : Int)) rfl (by kernel_rfl) (by kernel_rfl) (by kernel_rfl) (fun _ _ _ h => h) (Or.inl ⟨by rfl, fun wx hS => ?_⟩) hH ?_
                · go_simp
                simp only [Act.put, List.setIfInBounds_toArray, List.set_cons_zero, List.set_cons_succ]
                refine wpAnyH_ready (rs := [3]) (by kernel_rfl) (by simp) ?_
                refine AllReadyH.cons (o := { dst := some 81, op := Op.call { callee := Callee.value (Operand.func 30), args := #[Operand.tmp 80], argTypes := #[3] }, type := 9, pos := "ref.go:88", after := #[{ on := 2, ground := Ground.data }], guard := none }) rfl (fun KK hKK => ?_) AllReadyH.nil
                go_simp
                with_reducible refine ((PS _)).out.mono ?_
                rintro e z1 ⟨rfl, kb⟩
                have hN := And.intro (hH.1.trans (kb.mono hH.1.size)) (hH.2.below kb hH.2.lt)
                replace hB := hB.trans (kb.mono hB.size)
                clear hH kb
                refine hKK.out _ _ hN (fun hH => ?_)
                clear hKK KK hN
                try simp only [Act.put, List.setIfInBounds_toArray, List.set_cons_zero, List.set_cons_succ]
                refine wpAnyH_ready (rs := [7]) (by kernel_rfl) (by simp) ?_
                refine AllReadyH.cons (o := { dst := some 85, op := Op.call { callee := Callee.value (Operand.func 30), args := #[Operand.tmp 84], argTypes := #[3] }, type := 9, pos := "ref.go:88", after := #[{ on := 6, ground := Ground.data }, { on := 3, ground := Ground.chain }], guard := none }) rfl (fun KK hKK => ?_) AllReadyH.nil
                go_simp
                with_reducible refine ((PL _)).out.mono ?_
                rintro e z2 ⟨rfl, kb⟩
                have hN := And.intro (hH.1.trans (kb.mono hH.1.size)) (hH.2.below kb hH.2.lt)
                replace hB := hB.trans (kb.mono hB.size)
                clear hH kb
                refine hKK.out _ _ hN (fun hH => ?_)
                clear hKK KK hN
                try simp only [Act.put, List.setIfInBounds_toArray, List.set_cons_zero, List.set_cons_succ]
                refine wpAnyH_take (i := 8) (oi := { dst := some 86, op := Op.binOp BinOp.add 9 (Operand.tmp 81) (Operand.tmp 85) 9, type := 9, pos := "ref.go:88", after := #[{ on := 3, ground := Ground.data }, { on := 7, ground := Ground.data }], guard := none }) (v := .string (str D4)) rfl (by kernel_rfl) (by kernel_rfl) (by kernel_rfl) (fun _ _ _ h => h) (Or.inl ⟨by rfl, fun wx hS => ?_⟩) hH ?_
                · have e1 := str_size SB; have e2 := str_size LB; have e3 := P4.out.1; have e4 := P4.out.2; go_simp
                simp only [Act.put, List.setIfInBounds_toArray, List.set_cons_zero, List.set_cons_succ]
                refine wpAnyH_ready (rs := [9]) (by kernel_rfl) (by simp) ?_
                refine AllReadyH.cons (o := { dst := some 87, op := Op.call { callee := Callee.builtin Builtin.append, args := #[Operand.tmp 78, Operand.tmp 86], argTypes := #[40, 9] }, type := 40, pos := "ref.go:88", after := #[{ on := 0, ground := Ground.data }, { on := 8, ground := Ground.data }, { on := 7, ground := Ground.chain }], guard := none }) rfl (fun KK hKK => ?_) AllReadyH.nil
                have q_row := rowIs.below O7.out hB (Nat.le_refl _)
                refine step_append_str (by rfl) _ _ rfl w.heap.size v' FA (D4) rfl rfl q_row (by have := HAL.out; omega) hH.1.size ?_
                intro v2 z3 o8 g8
                have hN := And.intro (hH.1.trans (rowIs.grew q_row hH.1.size g8)) ((KeptT.grown (k := g + 1) q_row g8).is hH.2 (by omega) (by decide))
                clear q_row
                refine hKK.out _ _ hN (fun hH => ?_)
                clear hKK KK hN
                try simp only [Act.put, List.setIfInBounds_toArray, List.set_cons_zero, List.set_cons_succ]
                refine wpAnyH_take (i := 10) (oi := { dst := some 6, op := Op.assign (Operand.tmp 87), type := 40, pos := "ref.go:88", after := #[{ on := 9, ground := Ground.data }, { on := 9, ground := Ground.chain }, { on := 0, ground := Ground.phase }, { on := 1, ground := Ground.phase }, { on := 2, ground := Ground.phase }, { on := 3, ground := Ground.phase }, { on := 4, ground := Ground.phase }, { on := 5, ground := Ground.phase }, { on := 6, ground := Ground.phase }, { on := 7, ground := Ground.phase }, { on := 8, ground := Ground.phase }, { on := 9, ground := Ground.phase }], guard := none }) (v := v2) rfl (by kernel_rfl) (by kernel_rfl) (by kernel_rfl) (fun _ _ _ h => h) (Or.inl ⟨by rfl, fun wx hS => ?_⟩) hH ?_
                · go_simp
                simp only [Act.put, List.setIfInBounds_toArray, List.set_cons_zero, List.set_cons_succ]
                refine wpAnyH_done (by kernel_rfl) ?_ _
                refine NoPanic.normal ?_
                have O8 := Lib.hid o8
                have B8 := Lib.hid hH.1
                have HB8 := Lib.hid hH.2
                have HPW2 : Hid (n.parts.length ≤ 20000) := Lib.hid (Nat.le_trans HPW.out HWT.out)
                have HA8 : Hid ((FA ++ D4).length ≤ 10000418) := Lib.hid (by have := HAL.out; rw [List.length_append]; omega)
                have HFIN2 : Hid (F ++ (L.take (j + 1)).flatMap ndBytes = (FA ++ D4) ++ n.parts.flatten) := Lib.hid (by rw [HFIN.out, HND.out, List.append_assoc])
                clear o8 g8 hH hB O7 B7 HBK7 PS PL P4 l5 l6 k4 e1 e4 e5 e6 HND HFIN HAL
                generalize FA ++ D4 = FB at *
                go_wp2_with fail
                go_loopw [9, 6] (fun i v wx => ∃ k : Nat, k ≤ n.parts.length ∧ i = .int .i64 k ∧ Hid (rowIs wx w.heap.size v (FB ++ (n.parts.take k).flatten)) ∧ Hid (Below w.heap.size w wx) ∧ Hid (blockIs wx g (n.cells (.slice pa n.parts.length pc)) 26)) (fun i _ _ => n.parts.length - (intOf i).toNat)
                case atStart => exact ⟨0, Nat.zero_le _, rfl, by simpa using O8, B8, HB8⟩
                case round =>
                  rename World => wx
                  obtain ⟨k, hk, rfl, OX, BX, HBX⟩ := hrel
                  have p1 : 0 ≤ (k : Int) := by omega
                  obtain ⟨-, -, -, -, -, -, e6⟩ := nd_block HBX.out
                  by_cases hkl : k < n.parts.length
                  · have q1 : (k : Int) < (n.parts.length : Int) := by omega
                    obtain ⟨aa, cc, ee, -, -, -, h32, hv⟩ := ID7.out wx BX.out
                    injection ee with f1 f2 f3
                    subst f1 f3
                    obtain ⟨sb, so, rfl, hs1⟩ := ids_at hv h32 k hkl
                    have S1 := Lib.hid (bytes_range hs1)
                    have HP : Hid (n.parts[k].length = 32) := Lib.hid (h32 _ (List.getElem_mem hkl))
                    have HTP := Lib.hid (flatten_take n.parts k hkl)
                    have HLX : Hid ((FB ++ (n.parts.take k).flatten).length ≤ 20000000) := Lib.hid (by
                      have h1 := flatten_len (n.parts.take k) (fun p hp => h32 p (List.mem_of_mem_take hp))
                      have h2 : (n.parts.take k).length ≤ 20000 := by rw [List.length_take]; have := HPW2.out; omega
                      have := HA8.out
                      rw [List.length_append]
                      omega)
                    clear hv hs1 h32
                    generalize n.parts[k] = p at *
                    go_wp2_with (at_builtin; refine Hid.out ?_)
                    refine Lib.hid ?_
                    refine append_bytes rfl _ _ rfl w.heap.size _ (FB ++ (n.parts.take k).flatten) rfl OX.out (some ⟨sb, so + k * 32, none⟩) 32 32 p HP.out.symm rfl (fun h => by cases h) S1.out (by have := HLX.out; have := HP.out; omega) BX.out.size ?_
                    intro v3 w9 o9 g9
                    have O9 : Hid (rowIs w9 w.heap.size v3 (FB ++ (n.parts.take (k + 1)).flatten)) := Lib.hid (by rw [HTP.out, ← List.append_assoc]; exact o9)
                    have B9 := Lib.hid (BX.out.trans (rowIs.grew OX.out BX.out.size g9))
                    have HB9 := Lib.hid ((KeptT.grown (k := g + 1) OX.out g9).is HBX.out (by omega) (by decide))
                    clear o9 g9 OX BX HBX
                    go_wp2_with fail
                    go_roundw
                    case rel => exact ⟨k + 1, by omega, by go_num, O9, B9, HB9⟩
                    case measure => simp [intOf]; omega
                  · obtain rfl : k = n.parts.length := by omega
                    have q1 : ¬ ((n.parts.length : Int) < (n.parts.length : Int)) := by omega
                    rw [List.take_length] at OX
                    rw [← HFIN2.out] at OX
                    go_wp2_with fail
                    go_roundw
                    case rel => exact ⟨j + 1, by omega, by go_num, OX, HRJ, BX⟩
                    case measure => simp [intOf]; omega
              · have HND : Hid (ndB n = n.tree) := Lib.hid (by unfold ndB; rw [if_neg (by omega), if_pos k0])
                rw [k0] at e1
                have RT := Lib.hid (bytes_range (nd_tree HBK7.out))
                have HTR := Lib.hid WF.out.tree
                clear k0 t0 t1 t2
                go_wp2_with (at_builtin; refine Hid.out ?_)
                refine Lib.hid ?_
                refine append_bytes rfl _ _ rfl w.heap.size _ FA rfl O7.out (some ⟨g, 7, none⟩) 32 32 n.tree HTR.out.symm rfl (fun h => by cases h) RT.out (by have := HAL.out; have := HTR.out; omega) B7.out.size ?_
                intro v3 w9 o9 g9
                have O9 : Hid (rowIs w9 w.heap.size v3 (F ++ (L.take (j + 1)).flatMap ndBytes)) := Lib.hid (by rw [HFIN.out, HND.out]; exact o9)
                have B9 := Lib.hid (B7.out.trans (rowIs.grew O7.out B7.out.size g9))
                clear o9 g9 O7 B7 RT HBK7 e1 e4 e5 e6
                go_wp2_with fail
                go_roundw
                case rel => exact ⟨j + 1, by omega, by go_num, O9, HRJ, B9⟩
                case measure => simp [intOf]; omega
              · have HND : Hid (ndB n = numBytes n.target.length ++ n.target) := Lib.hid (by unfold ndB; rw [if_neg (by omega), if_neg (by omega)])
                rw [k0] at e1
                have PT := Lib.hid (refText_any n.target y5 (by omega))
                have l5 := numBytes_nine n.target.length (by omega)
                have l6 : (numBytes n.target.length ++ n.target).length ≤ 4104 := by rw [List.length_append]; omega
                generalize numBytes n.target.length ++ n.target = TT at *
                clear k0 t0 t1 t2 t3 t4 l5
                go_wp2_with fail
                with_reducible refine PT.out.mono ?_
                rintro e y6 ⟨rfl, b6⟩
                have O8 := Lib.hid (rowIs.below O7.out b6 (Nat.le_refl _))
                have B8 := Lib.hid (B7.out.trans (b6.mono B7.out.size))
                clear b6 O7 B7 PT HBK7 e1 e4 e5 e6
                go_wp2_with (at_builtin; refine Hid.out ?_)
                refine Lib.hid ?_
                refine append_str (by rfl) _ _ rfl w.heap.size _ FA TT rfl rfl O8.out (by have := HAL.out; omega) B8.out.size ?_
                intro v3 w9 o9 g9
                have O9 : Hid (rowIs w9 w.heap.size v3 (F ++ (L.take (j + 1)).flatMap ndBytes)) := Lib.hid (by rw [HFIN.out, HND.out]; exact o9)
                have B9 := Lib.hid (B8.out.trans (rowIs.grew O8.out B8.out.size g9))
                clear o9 g9 O8 B8
                go_wp2_with fail
                go_roundw
                case rel => exact ⟨j + 1, by omega, by go_num, O9, HRJ, B9⟩
                case measure => simp [intOf]; omega
          · obtain rfl : j = L.length := by omega
            have q0 : ¬ ((L.length : Int) < (L.length : Int)) := by omega
            rw [List.take_length] at OR
            have HR : Hid (risesN L = true) := Lib.hid (by rw [HRS.out]; exact risesN_last L _ (by omega))
            have HV : Hid (X = F ++ L.flatMap ndBytes ∧ E = 0) := Lib.hid (by
              have hc : checkL L = 0 := by rw [HC2.out, HR.out]; rfl
              exact ⟨by rw [HX.out, if_pos hc, HF.out]; rfl, by rw [HE.out, hc]⟩)
            rw [← HV.out.1] at OR
            obtain ⟨va, vc, rfl, -, hin, -⟩ := OR.out.bytes
            have cv := conv_string wz va X vc hin
            clear hin
            go_wp2_with fail
            go_ret2
            exact ⟨by rw [HV.out.2]; rfl, BR.out⟩
end Go.Proofs.Ytjgmhaajcglpmaa
