/- strings.ContainsAny of a slash and 0, of whatever text. -/
import Derived.Test.YtjgmhaajcglpmaaLwr
import Derived.Test.YtjgmhaajcglpmaaShelf
import Derived.Laws.Runes
import Derived.Laws.RangeString
import Derived.WalkMore

namespace Go.Proofs.Ytjgmhaajcglpmaa
open Go.RowKit

def iterAt (w : World) (b : Nat) (s : ByteArray) (p : Nat) : World := { w with heap := w.heap.setIfInBounds b (.stringIter s p) }
theorem iterAt_heap (w : World) (b : Nat) (s : ByteArray) (p : Nat) (h : b < w.heap.size) : (iterAt w b s p).heap[b]? = some (.stringIter s p) := by
  simp [iterAt, h]
theorem iterAt_below (w : World) (B b : Nat) (s : ByteArray) (p : Nat) (h : B ≤ b) (hB : B ≤ w.heap.size) : Below B w (iterAt w b s p) :=
  ⟨rfl, rfl, rfl, by simp [iterAt], fun k hk => by
    simp only [iterAt]
    rw [Array.getElem?_setIfInBounds]
    simp
    omega⟩
theorem run_next_at {P : Program} (w : World) (b p : Nat) (s : ByteArray) (ty : TypeId) (h : w.heap[b]? = some (.stringIter s p)) (hp : p < s.size) :
    (Instr.next (.pointer (some ⟨b, 0, none⟩)) true ty).run P w = .ok (.tuple #[.bool true, .int .i64 p, .int .i32 ((Utf8.decode s p).1 : Nat)]) (iterAt w b s (p + (Utf8.decode s p).2)) := by
  simp only [Instr.next, getObj, setObj, Sem.run_bind, Sem.run, h, Result.andThen, hp, if_true]
  simp [goInt, Sem.run, h, iterAt]
theorem run_next_over {P : Program} (w : World) (b p : Nat) (s : ByteArray) (ty : TypeId) (h : w.heap[b]? = some (.stringIter s p)) (hp : ¬ p < s.size) :
    (Instr.next (.pointer (some ⟨b, 0, none⟩)) true ty).run P w = .ok (.tuple #[.bool false]) w := by
  simp [Instr.next, getObj, Sem.run, h, hp]
theorem str_get (l : List UInt8) (k : Nat) (h : k < l.length) : (str l).get! k = l.getD k 0 := by
  simp only [str, ByteArray.get!]
  simp [h]
theorem decode_small (l : List UInt8) (p : Nat) (h : p < l.length) (hb : (l.getD p 0).toNat < 128) : Utf8.decode (str l) p = ((l.getD p 0).toNat, 1) := by
  have e : (str l).get! (p + 0) = l.getD p 0 := str_get l p h
  simp only [Utf8.decode, e, hb, if_true]
theorem decode_big (l : List UInt8) (p : Nat) (h : p < l.length) (hb : 128 ≤ (l.getD p 0).toNat) :
    128 ≤ (Utf8.decode (str l) p).1 ∧ (Utf8.decode (str l) p).1 ≤ 2000000 ∧ 1 ≤ (Utf8.decode (str l) p).2 ∧ p + (Utf8.decode (str l) p).2 ≤ l.length ∧ ∀ j, p ≤ j → j < p + (Utf8.decode (str l) p).2 → 128 ≤ (l.getD j 0).toNat := by
  have e0 : (str l).get! (p + 0) = l.getD p 0 := str_get l p h
  have hs := str_size l
  have hc : ∀ k, (decide (p + k < (str l).size) && ((str l).get! (p + k)).toNat / 64 == 2) = true → p + k < l.length ∧ 128 ≤ (l.getD (p + k) 0).toNat := fun k hk => by
    rw [Bool.and_eq_true, decide_eq_true_eq, hs, beq_iff_eq] at hk
    refine ⟨hk.1, ?_⟩
    rw [← str_get l (p + k) hk.1]
    omega
  have one : ∀ j, p ≤ j → j < p + 1 → 128 ≤ (l.getD j 0).toNat := fun j h1 h2 => by
    obtain rfl : j = p := by omega
    exact hb
  have hlt := (l.getD p 0).toNat_lt
  simp only [Utf8.decode, e0]
  have HB := hb
  generalize l.getD p 0 = x at e0 hb hlt ⊢
  rw [if_neg (by omega)]
  split
  · rename_i h1
    rw [Bool.and_eq_true] at h1
    obtain ⟨q1, q2⟩ := hc 1 h1.2
    split
    · refine ⟨by assumption, by show _ ≤ 2000000; omega, by show 1 ≤ 2; omega, by show p + 2 ≤ _; omega, fun j h1 h2 => ?_⟩
      have : j = p ∨ j = p + 1 := by have : j < p + 2 := h2; omega
      rcases this with rfl | rfl
      · exact HB
      · exact q2
    · exact ⟨by decide, by decide, by decide, by show p + 1 ≤ _; omega, one⟩
  · split
    · rename_i h1
      rw [Bool.and_eq_true, Bool.and_eq_true] at h1
      obtain ⟨q1, q2⟩ := hc 1 h1.1.2
      obtain ⟨q3, q4⟩ := hc 2 h1.2
      split
      · rename_i hv
        refine ⟨by have := hv; simp at this; show 128 ≤ _; omega, by show _ ≤ 2000000; omega, by show 1 ≤ 3; omega, by show p + 3 ≤ _; omega, fun j h1 h2 => ?_⟩
        have : j = p ∨ j = p + 1 ∨ j = p + 2 := by have : j < p + 3 := h2; omega
        rcases this with rfl | rfl | rfl
        · exact HB
        · exact q2
        · exact q4
      · exact ⟨by decide, by decide, by decide, by show p + 1 ≤ _; omega, one⟩
    · split
      · rename_i h1
        rw [Bool.and_eq_true, Bool.and_eq_true, Bool.and_eq_true] at h1
        obtain ⟨q1, q2⟩ := hc 1 h1.1.1.2
        obtain ⟨q3, q4⟩ := hc 2 h1.1.2
        obtain ⟨q5, q6⟩ := hc 3 h1.2
        split
        · rename_i hv
          refine ⟨by have := hv; simp at this; show 128 ≤ _; omega, by have := hv; simp [Utf8.valid] at this; show _ ≤ 2000000; omega, by show 1 ≤ 4; omega, by show p + 4 ≤ _; omega, fun j h1 h2 => ?_⟩
          have : j = p ∨ j = p + 1 ∨ j = p + 2 ∨ j = p + 3 := by have : j < p + 4 := h2; omega
          rcases this with rfl | rfl | rfl | rfl
          · exact HB
          · exact q2
          · exact q4
          · exact q6
        · exact ⟨by decide, by decide, by decide, by show p + 1 ≤ _; omega, one⟩
      · exact ⟨by decide, by decide, by decide, by show p + 1 ≤ _; omega, one⟩
def sep : ByteArray := ⟨#[47, 0]⟩
def posOf (w : World) (b : Nat) : Nat := match w.heap[b]? with
  | some (.stringIter _ p) => p
  | _ => 0
theorem posOf_at {w : World} {b p : Nat} {s : ByteArray} (h : w.heap[b]? = some (.stringIter s p)) : posOf w b = p := by
  simp [posOf, h]
theorem sep_decode : Utf8.decode sep 0 = (47, 1) ∧ Utf8.decode sep 1 = (0, 1) := by
  have h0 := decode_small [47, 0] 0 (by decide) (by decide)
  have h1 := decode_small [47, 0] 1 (by decide) (by decide)
  exact ⟨h0, h1⟩
theorem sep_size : sep.size = 2 := rfl
set_option maxRecDepth 1000000 in
set_option maxHeartbeats 4000000 in
/-- A rune that is no byte of its own is in no text of ASCII bytes. -/
theorem irune_none (r : Nat) (h1 : 128 ≤ r) (h2 : r ≤ 2000000) (w : World) :
    Calls Try.prog 64 #[.string sep, .int .i32 r] w fun e w' => e = .returned (.int .i64 (-1)) ∧ Below w.heap.size w w' := by
  have VR := fun w => Try.utf8_ValidRune (r : Int) w
  have q1 : ¬ (r : Int) < 128 := by omega
  have q0 : 0 ≤ (r : Int) := by omega
  have hsz := sep_size
  by_cases h3 : r = 65533
  · subst h3
    go_enter Try.func64, Try.ntmps64
    go_wp2_with fail
    go_loopw [5] (fun _ wr => ∃ p, p ≤ 2 ∧ Hid (wr.heap[w.heap.size]? = some (.stringIter sep p)) ∧ Hid (Below w.heap.size w wr)) (fun _ wr => 2 - posOf wr w.heap.size)
    case atStart => exact ⟨0, by omega, Lib.hid (World.iter_heap w sep 0), Lib.hid ((Below.refl _ _).alloc (Nat.le_refl _) _)⟩
    case round =>
      obtain ⟨p, hp, hi, hb⟩ := hrel
      have hlt : w.heap.size < wr.heap.size := (Array.getElem?_eq_some_iff.1 hi.out).1
      have HM := Lib.hid (posOf_at hi.out)
      rcases (show p = 0 ∨ p = 1 ∨ p = 2 by omega) with rfl | rfl | rfl
      · have nx := fun ty => run_next_at (P := Try.prog) wr w.heap.size 0 sep ty hi.out (by decide)
        rw [sep_decode.1] at nx
        have H1 := Lib.hid (iterAt_heap wr w.heap.size sep 1 hlt)
        have B1 := Lib.hid (hb.out.trans (iterAt_below wr w.heap.size w.heap.size sep 1 (Nat.le_refl _) (Nat.le_of_lt hlt)))
        go_wp2_with fail
        exact ⟨⟨1, by omega, H1, B1⟩, by rw [posOf_at H1.out, HM.out]; omega⟩
      · have nx := fun ty => run_next_at (P := Try.prog) wr w.heap.size 1 sep ty hi.out (by decide)
        rw [sep_decode.2] at nx
        have H1 := Lib.hid (iterAt_heap wr w.heap.size sep 2 hlt)
        have B1 := Lib.hid (hb.out.trans (iterAt_below wr w.heap.size w.heap.size sep 2 (Nat.le_refl _) (Nat.le_of_lt hlt)))
        go_wp2_with fail
        exact ⟨⟨2, by omega, H1, B1⟩, by rw [posOf_at H1.out, HM.out]; omega⟩
      · have nx := fun ty => run_next_over (P := Try.prog) wr w.heap.size 2 sep ty hi.out (by decide)
        go_wp2_with fail
        go_ret
        exact ⟨rfl, hb.out⟩
  · have q3 : ((r : Int) == 65533) = false := by simp; omega
    by_cases hv : Lib.validRune (r : Int) = true
    · obtain ⟨E, hE, f1, f2, f3⟩ : ∃ E, Utf8.encode (r : Int) = E ∧ 2 ≤ E.size ∧ E.size ≤ 4 ∧ ∀ h : E.size - 1 < E.size, 128 ≤ (E[E.size - 1]'h).toNat := ⟨_, rfl, encode_facts (r : Int) (by rw [validRune_eq]; exact hv) (by omega)⟩
      rw [hv] at VR
      have F1 := Lib.hid f1
      have F2 := Lib.hid f2
      have F3 := Lib.hid f3
      clear f3
      go_enter Try.func64, Try.ntmps64
      go_wp2_with fail
      with_reducible refine (VR w).mono ?_
      rintro e w' ⟨rfl, rfl⟩
      go_wp2_with fail
      go_step3
      go_wp2_with fail
      go_loopw [9] (fun i wr => i = .int .i64 ((E.size : Int) - 1) ∧ wr = w') (fun _ _ => 0)
      case atStart => exact ⟨rfl, rfl⟩
      case round =>
        obtain ⟨rfl, rfl⟩ := hrel
        by_cases h2 : E.size = 2
        · have g1 : (E.size : Int) - 1 < 2 := by omega
          have e9 : (E.size : Int) - 1 = 1 := by omega
          obtain ⟨y, hy, hy1⟩ : ∃ y : UInt8, (∀ w, (Instr.index 9 (.string E) (.int .i64 1)).run Try.prog w = .ok (.int .u8 (y.toNat : Int)) w) ∧ 128 ≤ y.toNat := by
            have h3 := F3.out (by omega)
            refine ⟨E[E.size - 1], fun w => ?_, h3⟩
            rw [run_index_string w 9 E .i64 1 Try.underlying9, dif_pos (by omega)]
            simp [h2]
          have hne : ((0 : Int) != (y.toNat : Int)) = true := by simp; omega
          have x1 : ∀ w, (Instr.index 9 (.string sep) (.int .i64 1)).run Try.prog w = .ok (.int .u8 0) w := fun w => by
            rw [run_index_string w 9 sep .i64 1 Try.underlying9, dif_pos (by decide)]
            rfl
          have x3 : ∀ w, (Instr.slice 9 (.string sep) (some (.int .i64 2)) none none).run Try.prog w = .ok (.string ⟨#[]⟩) w := fun w => by
            rw [run_slice_string_l w 9 sep Try.underlying9 .i64 2 (by omega) (by decide)]
            rfl
          have IB : ∀ w, Calls Try.prog 72 #[.string ⟨#[]⟩, .int .u8 (y.toNat : Int)] w fun e w' => e = .returned (.int .i64 (-1)) ∧ w' = w := fun w => Try.strings_IndexByte ⟨#[]⟩ (y.toNat : Int) w
          have w2 : IntKind.i64.wrap 2 = 2 := by decide
          rw [e9]
          go_wp2_with fail
          go_step3
          repeat (apply wp_seq)
          go_quiet (fail)
          have B2 := Lib.hid (below_drewN (Below.refl wr.heap.size wr) nq)
          generalize wr.drewN nq = w2 at *
          go_wp2_with fail
          go_quiet (first | (go_at_call 72; refine Calls.quiet_of_same (IB _)))
          have B3 := Lib.hid (B2.out.trans (below_drewN (Below.refl w2.heap.size w2) nq |>.mono B2.out.size))
          generalize w2.drewN nq = w3 at *
          go_wp2_with fail
          simp (config := { zetaDelta := true }) only [Exit.noGoto_ret, Exit.inBlock, Exit.then]
          go_ret
          exact ⟨rfl, B3.out⟩
        · have g1 : ¬ (E.size : Int) - 1 < 2 := by omega
          go_wp2_with fail
          go_ret
          exact ⟨rfl, Below.refl _ _⟩
    · have hv : Lib.validRune (r : Int) = false := by simpa using hv
      rw [hv] at VR
      go_enter Try.func64, Try.ntmps64
      go_wp2_with fail
      with_reducible refine (VR w).mono ?_
      rintro e w' ⟨rfl, rfl⟩
      go_wp2_with fail
      go_ret
      exact ⟨rfl, Below.refl _ _⟩
/-- Has a text a slash, or 0? -/
def isSep (b : UInt8) : Bool := b == 47 || b == 0
def hasSep (l : List UInt8) : Bool := l.any isSep
theorem contains_sep (b : UInt8) : ([47, 0] : List UInt8).contains b = isSep b := by
  simp [isSep, List.contains_cons, Bool.beq_eq_decide_eq]
theorem indexAny_sep : ∀ l : List UInt8, (0 ≤ Lib.indexAny l [47, 0]) ↔ hasSep l = true
  | [] => by simp [Lib.indexAny, hasSep]
  | b :: l => by
    have ih := indexAny_sep l
    have hg := Lib.indexAny_ge [47, 0] l
    unfold Lib.indexAny
    rw [contains_sep, hasSep, List.any_cons]
    cases h : isSep b with
    | true => simp
    | false =>
      rw [Bool.false_or, ← hasSep, ← ih]
      simp only [Bool.false_eq_true, if_false]
      split
      · rename_i h1
        have : Lib.indexAny l [47, 0] = -1 := by simpa using h1
        omega
      · rename_i h1
        have : Lib.indexAny l [47, 0] ≠ -1 := by simpa using h1
        omega
theorem byte_sep (b : UInt8) : (0 ≤ Lib.indexByte [47, 0] b) ↔ isSep b = true := by
  have h := Lib.contains_iff_indexByte [47, 0] b
  rw [contains_sep] at h
  rw [h]
  simp
theorem sep_none {l : List UInt8} (h : ∀ j, j < l.length → isSep (l.getD j 0) = false) : hasSep l = false := by
  rw [hasSep, List.any_eq_false]
  intro b hb
  obtain ⟨j, hj, rfl⟩ := List.getElem_of_mem hb
  have := h j hj
  have e : l.getD j 0 = l[j] := by simp [hj]
  rw [e] at this
  simp [this]
theorem sep_some {l : List UInt8} {j : Nat} (hj : j < l.length) (h : isSep (l.getD j 0) = true) : hasSep l = true := by
  rw [hasSep, List.any_eq_true]
  exact ⟨l[j], List.getElem_mem hj, by rw [show l.getD j 0 = l[j] by simp [hj]] at h; exact h⟩
set_option maxRecDepth 1000000 in
set_option maxHeartbeats 4000000 in
theorem iany_any (l : List UInt8) (hl : l.length ≤ 100000) (w : World) :
    Calls Try.prog 50 #[.string (str l), .string sep] w fun e w' => (∃ n : Int, e = .returned (.int .i64 n) ∧ (0 ≤ n ↔ hasSep l = true)) ∧ Below w.heap.size w w' := by
  have hs := str_size l
  by_cases h8 : 8 < l.length
  · have h := Try.strings_IndexAny_long (zero_of_info (n := 256) (show (Try.prog.info? 100).map (fun i => (i.zero, i.size)) = some (some (.agg (Array.replicate 256 (.bool false))), 256) by kernel_rfl)).1 (str l) sep w (by decide) (by omega) (by omega) (by decide) (by
      intro j b hb
      match j with
      | 0 => cases hb; decide
      | 1 => cases hb; decide
      | j + 2 => cases hb)
    refine h.mono ?_
    rintro e w' ⟨he, rfl⟩
    refine ⟨⟨_, he, ?_⟩, ((Below.refl _ _).alloc (Nat.le_refl _) _).alloc (by simp) _⟩
    exact indexAny_sep l
  · have hsz := sep_size
    have hsize8 : ¬ (8 : Int) < (l.length : Int) := by omega
    have SU := fun w => Try.strings_shouldUseASCIISet (l.length : Int) w
    rw [decide_eq_false hsize8] at SU
    have hemp : sep.toList.isEmpty = false := by rw [Lib.toList_data]; rfl
    go_enter Try.func50, Try.ntmps50
    go_wp2_with fail
    with_reducible refine (SU w).mono ?_
    rintro e w' ⟨rfl, rfl⟩
    go_wp2_with fail
    go_loopw [9] (fun _ wr => ∃ p, p ≤ l.length ∧ Hid (∀ j, j < p → isSep (l.getD j 0) = false) ∧ Hid (wr.heap[w'.heap.size]? = some (.stringIter (str l) p)) ∧ Hid (Below w'.heap.size w' wr)) (fun _ wr => l.length - posOf wr w'.heap.size)
    case atStart => exact ⟨0, by omega, Lib.hid (fun j hj => absurd hj (by omega)), Lib.hid (World.iter_heap w' (str l) 0), Lib.hid ((Below.refl _ _).alloc (Nat.le_refl _) _)⟩
    case round =>
      obtain ⟨p, hp, hno, hi, hb⟩ := hrel
      have hlt : w'.heap.size < wr.heap.size := (Array.getElem?_eq_some_iff.1 hi.out).1
      have HM := Lib.hid (posOf_at hi.out)
      by_cases hpl : p < l.length
      · have nx := fun ty => run_next_at (P := Try.prog) wr w'.heap.size p (str l) ty hi.out (by omega)
        obtain ⟨x, hx⟩ : ∃ x, x = l.getD p 0 := ⟨_, rfl⟩
        by_cases hsm : x.toNat < 128
        · rw [decode_small l p hpl (by rw [← hx]; exact hsm), ← hx] at nx
          have H1 := Lib.hid (iterAt_heap wr w'.heap.size (str l) (p + 1) hlt)
          have B1 := Lib.hid (hb.out.trans (iterAt_below wr w'.heap.size w'.heap.size (str l) (p + 1) (Nat.le_refl _) (Nat.le_of_lt hlt)))
          have IR := fun w => Try.strings_IndexRune_ascii sep (x.toNat : Int) w (by omega) (by omega)
          have ex : ((x.toNat : Nat) : Int).toNat.toUInt8 = x := by simp
          rw [ex] at IR
          have HBS := Lib.hid (byte_sep x)
          have hge := Lib.indexByte_ge [47, 0] x
          have IR : ∀ w, Calls Try.prog 64 #[.string sep, .int .i32 (x.toNat : Int)] w fun e w' => e = .returned (.int .i64 (Lib.indexByte [47, 0] x)) ∧ w' = w := IR
          have HX := Lib.hid hx
          clear hx ex
          generalize Lib.indexByte [47, 0] x = o at *
          generalize iterAt wr w'.heap.size (str l) (p + 1) = w1 at *
          go_wp2_with fail
          with_reducible refine (IR w1).mono ?_
          rintro e w2 ⟨rfl, rfl⟩
          by_cases ho : 0 ≤ o
          · go_wp2_with fail
            go_ret
            exact ⟨⟨_, rfl, ⟨fun _ => sep_some hpl (by rw [← HX.out]; exact HBS.out.1 ho), fun _ => by omega⟩⟩, B1.out⟩
          · have NO := Lib.hid ho
            clear ho
            have ho2 : o < 0 := by have := NO.out; omega
            go_wp2_with fail
            refine ⟨⟨p + 1, by omega, Lib.hid fun j hj => ?_, H1, B1⟩, by rw [posOf_at H1.out, HM.out]; omega⟩
            by_cases hjp : j = p
            · subst hjp
              rw [← HX.out]
              cases hq : isSep x with
              | false => rfl
              | true => exact absurd (HBS.out.2 hq) (by have := NO.out; omega)
            · exact hno.out j (by omega)
        · obtain ⟨d1, d2, d3, d4, d5⟩ := decode_big l p hpl (by rw [← hx]; omega)
          have HD := Lib.hid d5
          clear d5
          generalize hr : (Utf8.decode (str l) p).1 = r at *
          generalize hk : (Utf8.decode (str l) p).2 = k at *
          clear hr hk
          have H1 := Lib.hid (iterAt_heap wr w'.heap.size (str l) (p + k) hlt)
          have B1 := Lib.hid (hb.out.trans (iterAt_below wr w'.heap.size w'.heap.size (str l) (p + k) (Nat.le_refl _) (Nat.le_of_lt hlt)))
          have IR := fun w => irune_none r d1 d2 w
          clear hx hsm
          generalize iterAt wr w'.heap.size (str l) (p + k) = w1 at *
          go_wp2_with fail
          with_reducible refine (IR w1).mono ?_
          rintro e w2 ⟨rfl, b2⟩
          have B2 := Lib.hid (B1.out.trans (b2.mono B1.out.size))
          have H2 : Hid (w2.heap[w'.heap.size]? = some (.stringIter (str l) (p + k))) := Lib.hid (by
            rw [b2.block _ (Array.getElem?_eq_some_iff.1 H1.out).1]
            exact H1.out)
          clear b2
          go_wp2_with fail
          refine ⟨⟨p + k, by omega, Lib.hid fun j hj => ?_, H2, B2⟩, by rw [posOf_at H2.out, HM.out]; omega⟩
          by_cases hjp : j < p
          · exact hno.out j hjp
          · have := HD.out j (by omega) hj
            unfold isSep
            generalize l.getD j 0 = y at *
            cases hq : (y == 47 || y == 0) with
            | false => rfl
            | true =>
              rw [Bool.or_eq_true, beq_iff_eq, beq_iff_eq] at hq
              rcases hq with rfl | rfl
              · exact absurd this (by decide)
              · exact absurd this (by decide)
      · have nx := fun ty => run_next_over (P := Try.prog) wr w'.heap.size p (str l) ty hi.out (by omega)
        have HN : Hid (hasSep l = false) := Lib.hid (sep_none fun j hj => hno.out j (by omega))
        go_wp2_with fail
        go_ret
        exact ⟨⟨_, rfl, by rw [HN.out]; decide⟩, hb.out⟩
set_option maxRecDepth 100000 in
theorem contains_any (l : List UInt8) (hl : l.length ≤ 100000) (w : World) :
    Calls Try.prog 28 #[.string (str l), .string sep] w fun e w' => e = .returned (.bool (hasSep l)) ∧ Below w.heap.size w w' := by
  have P := Lib.hid (iany_any l hl w)
  go_enter Try.func28, Try.ntmps28
  go_wp2_with fail
  with_reducible refine P.out.mono ?_
  rintro e w' ⟨⟨n, rfl, hn⟩, b⟩
  have HN := Lib.hid hn
  have HB := Lib.hid b
  clear hn b
  go_wp2_with fail
  go_ret
  exact ⟨ret_bool (by rw [Bool.eq_iff_iff, decide_eq_true_eq]; exact HN.out), HB.out⟩
end Go.Proofs.Ytjgmhaajcglpmaa
