/- The contracts of lose and Crash. -/
import Derived.Test.YthefledeoiegjaaSet
import Derived.Test.YthefledeoiegjaaNm

namespace Go.Proofs.Ythefledeoiegjaa
open Go.RowKit Go.MapKept

/-- What a crash leaves of an object that isn't synced. -/
def lostP (b : List UInt8) (pick : Int) : Nat := (pick % 18446744073709551616).toNat % (b.length + 2)
def loseIn (L : List Ent) (n : List UInt8) (pick : Int) : List Ent :=
  let b := (obOr (get L n)).1
  if lostP b pick = 0 then del L n else put L n (b.take (lostP b pick - 1), true)
theorem str_take (l : List UInt8) (n : Nat) : (str l).extract 0 n = str (l.take n) := by
  apply ByteArray.ext
  rw [ByteArray.data_extract]
  simp [str]
theorem field0 (b : ByteArray) (f : Bool) (w : World) : (Instr.field 58 (.agg #[.string b, .bool f]) 0).run Try.prog w = .ok (.string b) w := by kernel_rfl
theorem field1 (b : ByteArray) (f : Bool) (w : World) : (Instr.field 58 (.agg #[.string b, .bool f]) 1).run Try.prog w = .ok (.bool f) w := by kernel_rfl
set_option maxRecDepth 100000 in
set_option maxHeartbeats 2000000 in
theorem lose_any (B k : Nat) (m : Option Nat) (s : Sh) (n : List UInt8) (pick : Int) (w : World) (h : ShAt w B k m s) (_hp : (Lit.int .i64 pick).wf = true) (hl : (obOr (get s.objs n)).1.length ≤ 1000000000) :
    Calls Try.prog 27 #[.pointer (some ⟨k, 0, none⟩), .string (str n), .int .i64 pick] w fun e w' => e = .returned (.tuple #[]) ∧ ∃ m', ShAt w' B k m' { s with objs := loseIn s.objs n pick } ∧ Step k m w m' w' := by
  have H := Lib.hid h
  have c1 := h.c1
  have q := h.look false n
  simp only [Bool.false_eq_true, if_false] at q
  have EL : Hid (loseIn s.objs n pick = if lostP (obOr (get s.objs n)).1 pick = 0 then del s.objs n else put s.objs n ((obOr (get s.objs n)).1.take (lostP (obOr (get s.objs n)).1 pick - 1), true)) := Lib.hid rfl
  have q0 := field0 (str (obOr (get s.objs n)).1) (obOr (get s.objs n)).2
  clear h
  generalize (obOr (get s.objs n)).1 = b at *
  generalize (obOr (get s.objs n)).2 = f at *
  have hsz := Lib.hid (str_size b)
  have b0 : 0 ≤ ((str b).size : Int) := by omega
  have b1 : ((str b).size : Int) ≤ 1000000000 := by rw [hsz.out]; omega
  have hX : (IntKind.u64.wrap pick).tmod (((str b).size : Int) + 2) = (lostP b pick : Int) := by
    rw [hsz.out, IntKind.wrap_u64, Int.tmod_eq_emod_of_nonneg (by omega)]
    unfold lostP
    rw [Int.natCast_emod, Int.toNat_of_nonneg (Int.emod_nonneg _ (by decide))]
    rfl
  have hle : lostP b pick ≤ b.length + 1 := by unfold lostP; have := Nat.mod_lt ((pick % 18446744073709551616).toNat) (show 0 < b.length + 2 by omega); omega
  generalize lostP b pick = P at *
  by_cases h0 : P = 0
  · subst h0
    rw [if_pos rfl] at EL
    cases m with
    | none =>
      have qd := run_del_nil w n 0
      have E0 : Hid (loseIn s.objs n pick = s.objs) := Lib.hid (by rw [EL.out, H.out.nil rfl]; rfl)
      go_enter Try.func27, Try.ntmps27
      go_wp2_with fail
      (try simp only [Exit.inBlock, Exit.then])
      refine bodyPost_ret (results_none rfl _ _ _) rfl ?_
      exact ⟨rfl, none, by rw [E0.out]; exact H.out, Step.refl _ _ _⟩
    | some g =>
      go_enter Try.func27, Try.ntmps27
      go_wp2_with (at_delete; refine at_del rfl _ _ rfl g s.objs n rfl rfl (H.out.map g rfl).2 (fun w2 P1 P2 => ?_))
      (try simp only [Exit.inBlock, Exit.then])
      refine bodyPost_ret (results_none rfl _ _ _) rfl ?_
      exact ⟨rfl, some g, by rw [EL.out]; exact H.out.turn P2.out P1.out, Step.of_but P2.out⟩
  · rw [if_neg h0] at EL
    have hW : IntKind.u64.wrap ((P : Int) - 1) = ((P - 1 : Nat) : Int) := by rw [IntKind.wrap_u64]; omega
    have p1 : 1 ≤ (P : Int) := by omega
    have t0 : ((P : Int) == 0) = false := by simp; omega
    have hc : ((P - 1 : Nat) : Int) ≤ ((str b).size : Int) := by rw [hsz.out]; omega
    have hS := Lib.hid (str_take b (P - 1))
    generalize P - 1 = r at *
    go_enter Try.func27, Try.ntmps27
    go_wp2_with fail
    rw [hS.out]
    with_reducible refine (set_any B k m s n (b.take r) true w H.out).mono ?_
    rintro e w1 ⟨rfl, hq⟩
    have Q := Lib.hid hq
    clear hq
    go_wp2_with fail
    go_end0
    exact ⟨rfl, by rw [EL.out]; exact Q.out⟩
theorem ShAt.keeps_vals {w w' : World} {B k : Nat} {m m' : Option Nat} {s : Sh} (h : ShAt w B k m s) (hs : Step k m w m' w') {a : Option Addr} {xs : List Value} (hv : valsIn w a xs) (hk : ∀ p, a = some p → p.block ≠ k) : valsIn w' a xs := by
  rcases hv with hv | ⟨b, o, rfl, h3⟩
  · exact Or.inl hv
  · refine Or.inr ⟨b, o, rfl, fun j hj => ?_⟩
    have e := h3 j hj
    rw [List.getElem?_eq_getElem hj] at e ⊢
    exact h.keeps_cell hs e (show b ≠ k from hk ⟨b, o, none⟩ rfl)
/-- No object has more bytes. -/
def Small (L : List Ent) (M : Nat) : Prop := ∀ p ∈ L, p.2.1.length ≤ M
theorem get_mem {L : List Ent} {n : List UInt8} {o : Ob} (h : get L n = some o) : (n, o) ∈ L := by
  induction L with
  | nil => cases h
  | cons p r ih =>
    unfold get at h
    split at h
    · rename_i e
      cases h
      rw [← e]
      exact List.mem_cons_self
    · exact List.mem_cons_of_mem _ (ih h)
theorem mem_put {L : List Ent} {n : List UInt8} {o : Ob} {p : Ent} (h : p ∈ put L n o) : p = (n, o) ∨ p ∈ L := by
  induction L with
  | nil => exact Or.inl (by simpa [put] using h)
  | cons q r ih =>
    unfold put at h
    split at h
    · rcases List.mem_cons.1 h with h | h
      · exact Or.inl h
      · exact Or.inr (List.mem_cons_of_mem _ h)
    · rcases List.mem_cons.1 h with h | h
      · exact Or.inr (h ▸ List.mem_cons_self)
      · rcases ih h with h | h
        · exact Or.inl h
        · exact Or.inr (List.mem_cons_of_mem _ h)
theorem mem_del {L : List Ent} {n : List UInt8} {p : Ent} (h : p ∈ del L n) : p ∈ L := by
  induction L with
  | nil => cases h
  | cons q r ih =>
    unfold del at h
    split at h
    · exact List.mem_cons_of_mem _ h
    · rcases List.mem_cons.1 h with h | h
      · exact h ▸ List.mem_cons_self
      · exact List.mem_cons_of_mem _ (ih h)
theorem Small.get {L : List Ent} {M : Nat} (h : Small L M) (n : List UInt8) : (obOr (get L n)).1.length ≤ M := by
  cases e : Go.Proofs.Ythefledeoiegjaa.get L n with
  | none => simp [obOr]
  | some o => exact h _ (get_mem e)
theorem Small.put {L : List Ent} {M : Nat} (h : Small L M) {n : List UInt8} {o : Ob} (ho : o.1.length ≤ M) : Small (put L n o) M := fun p hp => by
  rcases mem_put hp with rfl | hp
  · exact ho
  · exact h p hp
theorem Small.del {L : List Ent} {M : Nat} (h : Small L M) (n : List UInt8) : Small (del L n) M := fun p hp => h p (mem_del hp)
theorem Small.lose {L : List Ent} {M : Nat} (h : Small L M) (n : List UInt8) (pick : Int) : Small (loseIn L n pick) M := by
  unfold loseIn
  dsimp only
  split
  · exact h.del n
  · refine h.put ?_
    have := h.get n
    simp
    omega
/-- A crash, name by name. -/
def crashGo : List (List UInt8) → List Int → List Ent → List Ent
  | [], _, L => L
  | n :: r, P, L => if (obOr (get L n)).2 then crashGo r P L else crashGo r P.tail (loseIn L n (P.headD 0))
def crashed (s : Sh) (P : List Int) : Sh := { s with objs := crashGo (namesOf s.objs []) P s.objs, off := false, armed := false, left := 0 }
def zvals (l : List Int) : List Value := l.map (Value.int .i64)
theorem zvals_length (l : List Int) : (zvals l).length = l.length := by simp [zvals]
theorem ShAt.drewN {w : World} {B k : Nat} {m : Option Nat} {s : Sh} (h : ShAt w B k m s) (n : Nat) : ShAt (w.drewN n) B k m s := h.below (below_drewN (Below.refl _ _) n)
theorem ShAt.relist {w : World} {B k : Nat} {m : Option Nat} {s : Sh} {L : List Ent} (h : ShAt w B k m { s with objs := L }) : ShAt w B k m { s with objs := L } := h
theorem crash_hit {N : List (List UInt8)} {P : List Int} {L R : List Ent} {j : Nat} (hj : j < N.length) (h : crashGo (N.drop j) P L = R) (hs : (obOr (get L (N.getD j []))).2 = true) : crashGo (N.drop (j + 1)) P L = R := by
  rw [← h, List.drop_eq_getElem_cons hj]
  have : N.getD j [] = N[j] := by simp [hj]
  rw [this] at hs
  simp [crashGo, hs]
theorem crash_miss {N : List (List UInt8)} {P : List Int} {L R : List Ent} {j : Nat} (hj : j < N.length) (h : crashGo (N.drop j) P L = R) (hs : (obOr (get L (N.getD j []))).2 = false) : crashGo (N.drop (j + 1)) P.tail (loseIn L (N.getD j []) (P.headD 0)) = R := by
  rw [← h, List.drop_eq_getElem_cons hj]
  have : N.getD j [] = N[j] := by simp [hj]
  rw [this] at hs ⊢
  simp [crashGo, hs]
set_option maxRecDepth 100000 in
set_option maxHeartbeats 4000000 in
theorem crash_any (B k : Nat) (m : Option Nat) (s : Sh) (a : Option Addr) (P : List Int) (c : Nat) (w : World) (h : ShAt w B k m s) (hl : s.objs.length ≤ 900000) (hM : Small s.objs 1000000000)
    (hP : ∀ z ∈ P, (Lit.int .i64 z).wf = true) (hPc : P.length ≤ c) (hc : c ≤ 9223372036854775807) (hz : a = none → c = 0) (hv : ∀ m' w', Step k m w m' w' → valsIn w' a (zvals P)) :
    Calls Try.prog 11 #[.pointer (some ⟨k, 0, none⟩), .slice a P.length c] w fun e w' => e = .returned (.tuple #[]) ∧ ∃ m', ShAt w' B k m' (crashed s P) ∧ Step k m w m' w' := by
  have H := Lib.hid h
  have HL := Lib.hid hl
  have HM := Lib.hid hM
  have HP := Lib.hid hP
  have HV := Lib.hid hv
  have HZ := Lib.hid hz
  clear h hl hM hP hv hz
  go_enter Try.func11, Try.ntmps11
  go_wp2_with fail
  have PN := names_any B k m s [] w H.out HL.out
  rw [show str [] = { data := #[] } from rfl] at PN
  with_reducible refine PN.mono ?_
  clear PN
  rintro e w1 ⟨v, rfl, hr, hb⟩
  have hgv := hr.vals
  have R1 := Lib.hid hr
  have B1 := Lib.hid hb
  clear hr hb
  obtain ⟨va, vc, rfl, hvc, hvi, hvz⟩ := hgv
  rw [svals_length]
  have hgk : ∀ p, va = some p → p.block ≠ k := fun p hp => by
    rcases R1.out.2 with ⟨e, h0⟩ | ⟨g', cap, cur, e, hba, -⟩
    · injection e with e1 _ _
      subst e1
      cases hp
    · injection e with e1 _ _
      subst e1
      cases hp
      have := H.out.is.lt
      show g' ≠ k
      omega
  have GK := Lib.hid hgk
  have VI := Lib.hid hvi
  have HNL : Hid ((namesOf s.objs []).length ≤ 900000) := Lib.hid (by
    have := namesIn_le s.objs []
    have := HL.out
    simp [namesOf]
    omega)
  have S1 := Lib.hid (H.out.below B1.out)
  have T1 := Lib.hid (Step.of_below (k := k) (m := m) B1.out)
  clear hgk hvi hvz R1
  generalize hN : namesOf s.objs [] = N at *
  have EN := Lib.hid hN
  clear hN
  have hlN : (N.length : Int) ≤ 900000 := by have := HNL.out; omega
  go_wp2_with fail
  go_loopw [12, 1] (fun i q wr => ∃ (j : Nat) (m' : Option Nat) (L : List Ent) (P' : List Int) (a' : Option Addr) (c' : Nat), j ≤ N.length ∧ i = .int .i64 (j : Int) ∧ q = .slice a' P'.length c' ∧ Hid (P'.length ≤ c' ∧ c' ≤ 9223372036854775807) ∧ Hid (∀ z ∈ P', (Lit.int .i64 z).wf = true) ∧
      Hid (∀ m' w', Step k m w m' w' → valsIn w' a' (zvals P')) ∧ Hid (ShAt wr B k m' { s with objs := L }) ∧ Hid (Step k m w1 m' wr) ∧ Hid (Small L 1000000000) ∧ Hid (crashGo (N.drop j) P' L = crashGo N P s.objs)) (fun i _ _ => N.length - (intOf i).toNat)
  case atStart => exact ⟨0, m, s.objs, P, a, c, Nat.zero_le _, rfl, rfl, Lib.hid ⟨hPc, hc⟩, HP, HV, S1, Lib.hid (Step.refl _ _ _), HM, Lib.hid rfl⟩
  case round =>
    obtain ⟨j, m', L, P', a', c', hj, rfl, rfl, K1, K2, K3, K4, K5, K6, K7⟩ := hrel
    have p0 : 0 ≤ (j : Int) := by omega
    by_cases hlt : j < N.length
    · have q0 : (j : Int) < (N.length : Int) := by omega
      obtain ⟨bb, bo, hbo, d⟩ := (S1.out.keeps_vals K5.out VI.out GK.out).at j (by rw [svals_length]; exact hlt)
      have e1 : (svals N)[j]'(by rw [svals_length]; exact hlt) = .string (str (N.getD j [])) := by simp [svals, hlt]
      rw [e1] at d
      subst hbo
      have c1 := K4.out.c1
      have q := K4.out.look false (N.getD j [])
      simp only [Bool.false_eq_true, if_false] at q
      have qf := field1 (str (obOr (get L (N.getD j []))).1) (obOr (get L (N.getD j []))).2
      have CH := Lib.hid (crash_hit hlt K7.out)
      have CM := Lib.hid (crash_miss hlt K7.out)
      have SG := Lib.hid (K6.out.get (N.getD j []))
      clear e1
      generalize N.getD j [] = n at *
      generalize hob : (obOr (get L n)).1 = ob at q qf
      generalize hof : (obOr (get L n)).2 = of at *
      clear hob
      cases of with
      | true =>
        go_wp2_with fail
        go_roundw
        case rel => exact ⟨j + 1, m', L, P', a', c', by omega, by go_num, rfl, K1, K2, K3, K4, K5, K6, Lib.hid (CH.out rfl)⟩
        case measure => simp [intOf]; omega
      | false =>
        cases P' with
        | nil =>
          go_wp2_with fail
          with_reducible refine (lose_any B k m' _ n 0 wr K4.out (by decide) SG.out).mono ?_
          rintro e w2 ⟨rfl, m2, h1, h2⟩
          have G1 := Lib.hid h1
          have G2 := Lib.hid (K5.out.trans h2)
          clear h1 h2
          go_wp2_with fail
          go_roundw
          case rel => exact ⟨j + 1, m2, loseIn L n 0, [], a', c', by omega, by go_num, rfl, K1, K2, K3, G1, G2, Lib.hid (K6.out.lose n 0), Lib.hid (CM.out (by first | rfl | exact trivial))⟩
          case measure => simp [intOf]; omega
        | cons z P1 =>
          have hwf := K2.out z List.mem_cons_self
          obtain ⟨b2, o2, ha2, g0⟩ := (K3.out m' wr (T1.out.trans K5.out)).at 0 (by simp [zvals])
          have e2 : (zvals (z :: P1))[0]'(by simp [zvals]) = .int .i64 z := rfl
          rw [e2, Nat.add_zero] at g0
          subst ha2
          have hlen : (z :: P1).length = P1.length + 1 := rfl
          have K1' := K1.out
          rw [hlen] at K1' ⊢
          obtain ⟨k1, k2⟩ := K1'
          have ht1 : (0 : Int) < ((P1.length + 1 : Nat) : Int) := by omega
          have VN : Hid (∀ m' w', Step k m w m' w' → valsIn w' (if c' = 1 then some ⟨b2, o2, none⟩ else some ⟨b2, o2 + 1, none⟩) (zvals P1)) := Lib.hid (fun m3 w3 h3 => by
            have hd := (K3.out m3 w3 h3).drop 1
            split
            · left
              have : P1.length = 0 := by omega
              rw [List.eq_nil_of_length_eq_zero this]
              rfl
            · rw [show (some (⟨b2, o2, none⟩ : Addr)).map (fun x => x.add 1) = some ⟨b2, o2 + 1, none⟩ by show some (Addr.add _ 1) = _; rw [Addr.add_lit]] at hd
              exact hd)
          have KW : Hid (∀ z ∈ P1, (Lit.int .i64 z).wf = true) := Lib.hid (fun y hy => K2.out y (List.mem_cons_of_mem _ hy))
          have KC : Hid (P1.length ≤ c' - 1 ∧ c' - 1 ≤ 9223372036854775807) := Lib.hid (by omega)
          have WF := Lib.hid hwf
          clear e2 hwf hlen
          by_cases hc1 : c' = 1
          · subst hc1
            have hp1 : P1.length = 0 := by omega
            go_wp2_with fail
            go_quiet (fail)
            go_wp2_with fail
            with_reducible refine (lose_any B k m' _ n z (wr.drewN nq) (K4.out.drewN nq) WF.out SG.out).mono ?_
            rintro e w2 ⟨rfl, m2, h1, h2⟩
            have G1 := Lib.hid h1
            have G2 := Lib.hid ((K5.out.drewN nq).trans h2)
            clear h1 h2
            go_wp2_with fail
            go_roundw
            case rel => exact ⟨j + 1, m2, loseIn L n z, P1, _, _, by omega, by go_num, by simp [hp1], KC, KW, VN, G1, G2, Lib.hid (K6.out.lose n z), Lib.hid (CM.out (by first | rfl | exact trivial))⟩
            case measure => simp [intOf]; omega
          · have hc2 : 1 < c' := by omega
            rw [if_neg hc1] at VN
            go_wp2_with fail
            go_quiet (fail)
            go_wp2_with fail
            with_reducible refine (lose_any B k m' _ n z (wr.drewN nq) (K4.out.drewN nq) WF.out SG.out).mono ?_
            rintro e w2 ⟨rfl, m2, h1, h2⟩
            have G1 := Lib.hid h1
            have G2 := Lib.hid ((K5.out.drewN nq).trans h2)
            clear h1 h2
            go_wp2_with fail
            go_roundw
            case rel => exact ⟨j + 1, m2, loseIn L n z, P1, _, _, by omega, by go_num, rfl, KC, KW, VN, G1, G2, Lib.hid (K6.out.lose n z), Lib.hid (CM.out (by first | rfl | exact trivial))⟩
            case measure => simp [intOf]; omega
    · obtain rfl : j = N.length := by omega
      have EC : Hid (crashed s P = { s with objs := L, off := false, armed := false, left := 0 }) := Lib.hid (by
        have := K7.out
        rw [List.drop_length] at this
        unfold crashed
        rw [EN.out, ← this]
        rfl)
      have c3 := K4.out.c3
      have c4 := K4.out.c4
      have c5 := K4.out.c5
      have f3 := K4.out.free 3
      have f4 := K4.out.free 4
      have f5 := K4.out.free 5
      go_wp2_with fail
      go_end0
      exact ⟨rfl, m', by rw [EC.out]; exact ((K4.out.setOff false).setArmed false).setLeft 0, (((T1.out.trans K5.out).setCell _ _).setCell _ _).setCell _ _⟩
theorem crash_none (B k : Nat) (m : Option Nat) (s : Sh) (w : World) (h : ShAt w B k m s) (hl : s.objs.length ≤ 900000) (hM : Small s.objs 1000000000) :
    Calls Try.prog 11 #[.pointer (some ⟨k, 0, none⟩), .slice none 0 0] w fun e w' => e = .returned (.tuple #[]) ∧ ∃ m', ShAt w' B k m' (crashed s []) ∧ Step k m w m' w' :=
  crash_any B k m s none [] 0 w h hl hM (fun z hz => by cases hz) (by decide) (by decide) (fun _ => rfl) (fun _ _ _ => Or.inl rfl)
end Go.Proofs.Ythefledeoiegjaa
