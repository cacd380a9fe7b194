/- The contracts of Delete, Steal, Forge, Get, List, Rename, Sync. -/
import Derived.Test.YthefledeoiegjaaCh
namespace Go.Proofs.Ythefledeoiegjaa
open Go.RowKit Go.MapKept

theorem spentE_or (s : Sh) : spentE s = 0 ∨ spentE s = 9 := by
  unfold spentE
  split
  · exact Or.inr rfl
  · exact Or.inl rfl
/-- The map of a store that has an object is a block. -/
theorem ShAt.some_map {w : World} {B k : Nat} {m : Option Nat} {s : Sh} (h : ShAt w B k m s) {n : List UInt8} (hn : has s.objs n = true) : ∃ g, m = some g := by
  cases m with
  | none =>
    rw [h.nil rfl] at hn
    cases hn
  | some g => exact ⟨g, rfl⟩
def stolenE (s : Sh) (n : List UInt8) : Int := if has s.objs n then 0 else 6
def stolenS (s : Sh) (n : List UInt8) : Sh := if has s.objs n then { s with objs := del s.objs n } else s
def deletedE (s : Sh) (n : List UInt8) : Int := if s.off then 9 else if has s.objs n then spentE s else 6
def deletedS (s : Sh) (n : List UInt8) : Sh := if s.off then s else if has s.objs n then (if spentE s = 0 then { spent s with objs := del s.objs n } else spent s) else s
set_option maxRecDepth 100000 in
set_option maxHeartbeats 2000000 in
theorem delete_any (B k : Nat) (m : Option Nat) (s : Sh) (n : List UInt8) (w : World) (h : ShAt w B k m s) (ok : ShOk s) :
    Calls Try.prog 16 #[.pointer (some ⟨k, 0, none⟩), .string (str n)] w fun e w' => e = .returned (.int .i64 (deletedE s n)) ∧ ∃ m', ShAt w' B k m' (deletedS s n) ∧ Step k m w m' w' := by
  have H := Lib.hid h
  have OK := Lib.hid ok
  clear ok
  unfold deletedE deletedS
  cases ho : s.off with
  | true =>
    clear h
    go_enter Try.func16, Try.ntmps16
    go_wp2_with fail
    with_reducible refine (ready_any B k m s w H.out).mono ?_
    rintro e w' ⟨rfl, rfl⟩
    rw [ho]
    go_wp2_with fail
    go_ret
    exact ⟨rfl, m, H.out, Step.refl _ _ _⟩
  | false =>
    cases hh : has s.objs n with
    | false =>
      clear h
      go_enter Try.func16, Try.ntmps16
      go_wp2_with fail
      with_reducible refine (ready_any B k m s w H.out).mono ?_
      rintro e w' ⟨rfl, rfl⟩
      rw [ho]
      go_wp2_with fail
      with_reducible refine (has_any B k m s n w H.out).mono ?_
      rintro e w1 ⟨rfl, b1⟩
      have H1 := Lib.hid (H.out.below b1)
      have S1 := Lib.hid (Step.of_below (k := k) (m := m) b1)
      rw [hh]
      clear b1
      go_wp2_with fail
      go_ret
      exact ⟨rfl, m, H1.out, S1.out⟩
    | true =>
      obtain ⟨g, rfl⟩ := h.some_map hh
      clear h
      go_enter Try.func16, Try.ntmps16
      go_wp2_with fail
      with_reducible refine (ready_any B k (some g) s w H.out).mono ?_
      rintro e w' ⟨rfl, rfl⟩
      rw [ho]
      go_wp2_with fail
      with_reducible refine (has_any B k (some g) s n w H.out).mono ?_
      rintro e w1 ⟨rfl, b1⟩
      have H1 := Lib.hid (H.out.below b1)
      have S1 := Lib.hid (Step.of_below (k := k) (m := some g) b1)
      rw [hh]
      clear b1
      go_wp2_with fail
      with_reducible refine (spend_any B k (some g) s w1 H1.out OK.out).mono ?_
      rintro e w2 ⟨rfl, h2, s2⟩
      have H2 := Lib.hid h2
      have S2 := Lib.hid (S1.out.trans s2)
      have c1 := H2.out.c1
      clear h2 s2
      rcases spentE_or s with h9 | h9
      · rw [h9]
        go_wp2_with (at_delete; refine at_del rfl _ _ rfl g (spent s).objs n rfl rfl (H2.out.map g rfl).2 (fun w3 P1 P2 => ?_))
        go_ret
        exact ⟨rfl, some g, by have := H2.out.turn P2.out P1.out; rw [spent_objs] at this; exact this, S2.out.trans (Step.of_but P2.out)⟩
      · rw [h9]
        go_wp2_with fail
        go_ret
        exact ⟨rfl, some g, H2.out, S2.out⟩
def forgedE (s : Sh) (n b : List UInt8) : Int := if isName n = false then 5 else if 1048576 < b.length then 4 else if has s.objs n = false ∧ 2000 ≤ s.objs.length then 4 else 0
def forgedS (s : Sh) (n b : List UInt8) : Sh := if forgedE s n b = 0 then { s with objs := put s.objs n (b, true) } else s
theorem conv_string (w : World) (a : Option Addr) (l : List UInt8) (c : Nat) (h : bytesIn w a l) : (convert 34 9 (.slice a l.length c)).run Try.prog w = .ok (.string (str l)) w := by
  cases a with
  | none =>
    rcases h with rfl | ⟨_, _, h, _⟩
    · rw [run_convert_bytes_nil w 34 5 Try.underlying34 Try.underlying5 _ _ 9 Try.underlying9]
      rfl
    · cases h
  | some ad =>
    rw [run_convert_bytes_string w 34 9 5 _ _ _ Try.underlying34 Try.underlying5 Try.underlying9]
    have hl : (loadCells ad l.length).run Try.prog w = .ok ((l.map fun b => (V b)).map (Value.int .u8)).toArray w := by
      have := run_loadCells_list (P := Try.prog) w ad ((l.map fun b => (V b)).map (Value.int .u8)) (fun j v hj => by
        rcases h with rfl | ⟨bb, bo, h1, h2⟩
        · simp at hj
        · cases h1
          have hjl : j < l.length := by
            have := (List.getElem?_eq_some_iff.1 hj).1
            simpa using this
          rw [Addr.add_lit, h2 j hjl, ← hj]
          simp [hjl])
      simpa using this
    rw [run_bytesToString w ad l.length c (l.map fun b => (V b)) hl, foldl_push_bytes]
    congr 2
    unfold str
    simp only [V, ByteArray.empty, ByteArray.emptyWithCapacity, List.map_map]
    have e : ((fun n : Int => UInt8.ofNat n.toNat) ∘ fun b : UInt8 => (b.toNat : Int)) = id := by funext b; simp
    rw [e]
    simp
    rfl
set_option maxRecDepth 100000 in
set_option maxHeartbeats 2000000 in
theorem forge_any (B k : Nat) (m : Option Nat) (s : Sh) (n : List UInt8) (a : Option Addr) (b : List UInt8) (c : Nat) (w : World) (h : ShAt w B k m s) (hn : n.length ≤ 9223372036854775807) (hb : b.length ≤ 9223372036854775807) (hv : ∀ w', Below w.heap.size w w' → bytesIn w' a b) :
    Calls Try.prog 17 #[.pointer (some ⟨k, 0, none⟩), .string (str n), .slice a b.length c] w fun e w' => e = .returned (.int .i64 (forgedE s n b)) ∧ ∃ m', ShAt w' B k m' (forgedS s n b) ∧ Step k m w m' w' := by
  have H := Lib.hid h
  have HV := Lib.hid hv
  have PN := Lib.hid (isName_any n w hn)
  have hb' : (b.length : Int) ≤ 9223372036854775807 := by omega
  clear h hv hn
  cases hi : isName n with
  | false =>
    rw [hi] at PN
    have E1 : Hid (forgedE s n b = 5) := Lib.hid (by simp [forgedE, hi])
    have E2 : Hid (forgedS s n b = s) := Lib.hid (by simp [forgedS, E1.out])
    go_enter Try.func17, Try.ntmps17
    go_wp2_with fail
    with_reducible refine PN.out.mono ?_
    rintro e w1 ⟨rfl, b1⟩
    have H1 := Lib.hid (H.out.below b1)
    have S1 := Lib.hid (Step.of_below (k := k) (m := m) b1)
    clear b1
    go_wp2_with fail
    go_ret
    exact ⟨ret_i64 E1.out.symm, m, by rw [E2.out]; exact H1.out, S1.out⟩
  | true =>
    rw [hi] at PN
    by_cases h4 : 1048576 < b.length
    · have E1 : Hid (forgedE s n b = 4) := Lib.hid (by simp [forgedE, hi, h4])
      have E2 : Hid (forgedS s n b = s) := Lib.hid (by simp [forgedS, E1.out])
      have q4 : (1048576 : Int) < (b.length : Int) := by omega
      go_enter Try.func17, Try.ntmps17
      go_wp2_with fail
      with_reducible refine PN.out.mono ?_
      rintro e w1 ⟨rfl, b1⟩
      have H1 := Lib.hid (H.out.below b1)
      have S1 := Lib.hid (Step.of_below (k := k) (m := m) b1)
      clear b1
      go_wp2_with fail
      go_ret
      exact ⟨ret_i64 E1.out.symm, m, by rw [E2.out]; exact H1.out, S1.out⟩
    · have q4 : ¬ (1048576 : Int) < (b.length : Int) := by omega
      by_cases hf : has s.objs n = false ∧ 2000 ≤ s.objs.length
      · obtain ⟨hh, hc⟩ := hf
        have E1 : Hid (forgedE s n b = 4) := Lib.hid (by simp [forgedE, hi, h4, hh, hc])
        have E2 : Hid (forgedS s n b = s) := Lib.hid (by simp [forgedS, E1.out])
        have qc : (2000 : Int) ≤ (s.objs.length : Int) := by omega
        go_enter Try.func17, Try.ntmps17
        go_wp2_with fail
        with_reducible refine PN.out.mono ?_
        rintro e w1 ⟨rfl, b1⟩
        have H1 := Lib.hid (H.out.below b1)
        have S1 := Lib.hid (Step.of_below (k := k) (m := m) b1)
        clear b1
        go_wp2_with fail
        with_reducible refine (has_any B k m s n w1 H1.out).mono ?_
        rintro e w2 ⟨rfl, b2⟩
        have H2 := Lib.hid (H1.out.below b2)
        have S2 := Lib.hid (S1.out.trans (Step.of_below (k := k) (m := m) b2))
        have c1 := H2.out.c1
        have ql := fun ty => H2.out.len ty
        rw [hh]
        clear b2
        go_wp2_with fail
        go_ret
        exact ⟨ret_i64 E1.out.symm, m, by rw [E2.out]; exact H2.out, S2.out⟩
      · have E1 : Hid (forgedE s n b = 0) := Lib.hid (by simp only [forgedE, hi, h4, hf]; simp)
        have E2 : Hid (forgedS s n b = { s with objs := put s.objs n (b, true) }) := Lib.hid (by simp [forgedS, E1.out])
        cases hh : has s.objs n with
        | true =>
          go_enter Try.func17, Try.ntmps17
          go_wp2_with fail
          with_reducible refine PN.out.mono ?_
          rintro e w1 ⟨rfl, b1⟩
          have H1 := Lib.hid (H.out.below b1)
          have B1 := Lib.hid b1
          have S1 := Lib.hid (Step.of_below (k := k) (m := m) b1)
          clear b1
          go_wp2_with fail
          with_reducible refine (has_any B k m s n w1 H1.out).mono ?_
          rintro e w2 ⟨rfl, b2⟩
          have H2 := Lib.hid (H1.out.below b2)
          have S2 := Lib.hid (S1.out.trans (Step.of_below (k := k) (m := m) b2))
          have cv := conv_string w2 a b c (HV.out w2 (B1.out.trans (b2.mono B1.out.size)))
          rw [hh]
          clear b2
          go_wp2_with fail
          with_reducible refine (set_any B k m s n b true w2 H2.out).mono ?_
          rintro e w3 ⟨rfl, m3, h3, s3⟩
          have H3 := Lib.hid h3
          have S3 := Lib.hid (S2.out.trans s3)
          clear h3 s3
          go_wp2_with fail
          go_ret
          exact ⟨ret_i64 E1.out.symm, m3, by rw [E2.out]; exact H3.out, S3.out⟩
        | false =>
          have qc : ¬ (2000 : Int) ≤ (s.objs.length : Int) := by
            intro hc
            exact hf ⟨hh, by omega⟩
          go_enter Try.func17, Try.ntmps17
          go_wp2_with fail
          with_reducible refine PN.out.mono ?_
          rintro e w1 ⟨rfl, b1⟩
          have H1 := Lib.hid (H.out.below b1)
          have B1 := Lib.hid b1
          have S1 := Lib.hid (Step.of_below (k := k) (m := m) b1)
          clear b1
          go_wp2_with fail
          with_reducible refine (has_any B k m s n w1 H1.out).mono ?_
          rintro e w2 ⟨rfl, b2⟩
          have H2 := Lib.hid (H1.out.below b2)
          have S2 := Lib.hid (S1.out.trans (Step.of_below (k := k) (m := m) b2))
          have cv := conv_string w2 a b c (HV.out w2 (B1.out.trans (b2.mono B1.out.size)))
          have c1 := H2.out.c1
          have ql := fun ty => H2.out.len ty
          rw [hh]
          clear b2
          go_wp2_with fail
          with_reducible refine (set_any B k m s n b true w2 H2.out).mono ?_
          rintro e w3 ⟨rfl, m3, h3, s3⟩
          have H3 := Lib.hid h3
          have S3 := Lib.hid (S2.out.trans s3)
          clear h3 s3
          go_wp2_with fail
          go_ret
          exact ⟨ret_i64 E1.out.symm, m3, by rw [E2.out]; exact H3.out, S3.out⟩
end Go.Proofs.Ythefledeoiegjaa
