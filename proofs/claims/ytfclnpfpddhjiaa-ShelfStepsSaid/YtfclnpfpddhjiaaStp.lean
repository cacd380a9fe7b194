/- What each change of an armed store comes to. -/
import Derived.Test.YtfclnpfpddhjiaaSd
import Derived.Test.YtfclnpfpddhjiaaStr
namespace Go.Proofs.Ytfclnpfpddhjiaa
open Go.RowKit Go.MapKept
def sSh (O : List Ent) (T : Int) (off : Bool) (L : Int) : Sh := ⟨100000, O, T, off, true, L⟩
/-- What a change comes to. -/
def Out (O : List Ent) (T : Int) (off : Bool) (L : Int) (E : Int) (S' : Sh) : Prop :=
  (off = true ∧ E = 9 ∧ S' = sSh O T off L) ∨ (off = false ∧ E ≠ 0 ∧ E ≠ 9 ∧ S' = sSh O T off L) ∨ (off = false ∧ L = 0 ∧ E = 9 ∧ S' = sSh O T true L) ∨
  (off = false ∧ L ≠ 0 ∧ E = 0 ∧ ∃ O', S' = sSh O' (T + 1) off (L - 1) ∧ sizeSum O' ≤ sizeSum O + 100 ∧ O'.length ≤ O.length + 1)
theorem spent_s (O : List Ent) (T : Int) (off : Bool) (L : Int) : spent (sSh O T off L) = if L = 0 then sSh O T true L else sSh O (T + 1) off (L - 1) := by
  simp only [spent, sSh, if_true]
  rfl
theorem spentE_s (O : List Ent) (T : Int) (off : Bool) (L : Int) : spentE (sSh O T off L) = if L = 0 then 9 else 0 := by
  simp [spentE, sSh]
theorem sizeSum_put (L : List Ent) (n : List UInt8) (o : Ob) : sizeSum (put L n o) ≤ sizeSum L + o.1.length ∧ (put L n o).length ≤ L.length + 1 := by
  induction L with
  | nil => simp [put, sizeSum]
  | cons p r ih =>
    unfold put
    split
    · simp only [sizeSum_cons, List.length_cons]
      omega
    · simp only [sizeSum_cons, List.length_cons]
      omega
theorem sizeSum_del (L : List Ent) (n : List UInt8) : sizeSum (del L n) ≤ sizeSum L ∧ (del L n).length ≤ L.length := by
  induction L with
  | nil => simp [del, sizeSum]
  | cons p r ih =>
    unfold del
    split
    · simp only [sizeSum_cons, List.length_cons]
      omega
    · simp only [sizeSum_cons, List.length_cons]
      omega
theorem sizeSum_move (L : List Ent) (n : List UInt8) : sizeSum (del L n) + (obOr (get L n)).1.length ≤ sizeSum L ∧ (has L n = true → (del L n).length + 1 = L.length) := by
  induction L with
  | nil => simp [del, sizeSum, get, obOr, has]
  | cons p r ih =>
    have e1 : del (p :: r) n = if p.1 = n then r else p :: del r n := rfl
    have e2 : get (p :: r) n = if p.1 = n then some p.2 else get r n := rfl
    have e3 : has (p :: r) n = (if p.1 = n then some p.2 else get r n).isSome := rfl
    rw [e1, e2, e3]
    by_cases h : p.1 = n
    · simp only [h, if_true, sizeSum_cons, List.length_cons]
      refine ⟨?_, fun _ => by first | rfl | trivial⟩
      show sizeSum r + p.2.1.length ≤ _
      omega
    · simp only [h, if_false, sizeSum_cons, List.length_cons]
      have := ih.1
      refine ⟨by omega, fun h => ?_⟩
      have := ih.2 h
      omega
theorem out_nudge (O : List Ent) (T : Int) (off : Bool) (L : Int) : Out O T off L (nudgedE (sSh O T off L)) (nudged (sSh O T off L)) := by
  cases off with
  | true => exact Or.inl ⟨rfl, rfl, rfl⟩
  | false =>
    have e1 : nudgedE (sSh O T false L) = spentE (sSh O T false L) := rfl
    have e2 : nudged (sSh O T false L) = spent (sSh O T false L) := rfl
    rw [e1, e2, spentE_s, spent_s]
    by_cases h : L = 0
    · rw [if_pos h, if_pos h]
      exact Or.inr (Or.inr (Or.inl ⟨rfl, h, rfl, rfl⟩))
    · rw [if_neg h, if_neg h]
      exact Or.inr (Or.inr (Or.inr ⟨rfl, h, rfl, O, rfl, by omega, by omega⟩))
theorem out_sync (O : List Ent) (T : Int) (off : Bool) (L : Int) : Out O T off L (syncedE (sSh O T off L) []) (syncedS (sSh O T off L) []) := by
  cases off with
  | true => exact Or.inl ⟨rfl, rfl, rfl⟩
  | false =>
    have e1 : syncedE (sSh O T false L) [] = if spentE (sSh O T false L) = 0 then 0 else 9 := rfl
    have e2 : syncedS (sSh O T false L) [] = if spentE (sSh O T false L) = 0 then { spent (sSh O T false L) with objs := O } else spent (sSh O T false L) := rfl
    rw [e1, e2, spentE_s, spent_s]
    by_cases h : L = 0
    · simp only [h, if_true]
      rw [if_neg (by decide), if_neg (by decide)]
      exact Or.inr (Or.inr (Or.inl ⟨rfl, rfl, rfl, rfl⟩))
    · simp only [h, if_false, if_true]
      exact Or.inr (Or.inr (Or.inr ⟨rfl, h, rfl, O, rfl, by omega, by omega⟩))
theorem out_put (O : List Ent) (T : Int) (off : Bool) (L : Int) (n y : List UInt8) (hy : y.length ≤ 100) : Out O T off L (putE (sSh O T off L) n y) (putS (sSh O T off L) n y) := by
  cases off with
  | true => exact Or.inl ⟨rfl, rfl, rfl⟩
  | false =>
    have e1 : putE (sSh O T false L) n y = if takesE (sSh O T false L) n y.length = 0 then spentE (sSh O T false L) else takesE (sSh O T false L) n y.length := rfl
    have e2 : putS (sSh O T false L) n y = if takesE (sSh O T false L) n y.length = 0 then (if spentE (sSh O T false L) = 0 then { spent (sSh O T false L) with objs := put O n (y, false) } else spent (sSh O T false L)) else sSh O T false L := rfl
    rw [e1, e2]
    by_cases ht : takesE (sSh O T false L) n y.length = 0
    · rw [if_pos ht, if_pos ht, spentE_s, spent_s]
      by_cases h : L = 0
      · simp only [h, if_true]
        rw [if_neg (by decide)]
        exact Or.inr (Or.inr (Or.inl ⟨rfl, rfl, rfl, rfl⟩))
      · simp only [h, if_false, if_true]
        have hp := sizeSum_put O n (y, false)
        exact Or.inr (Or.inr (Or.inr ⟨rfl, h, rfl, put O n (y, false), rfl, by have := hp.1; simp only at this; omega, hp.2⟩))
    · rw [if_neg ht, if_neg ht]
      exact Or.inr (Or.inl ⟨rfl, ht, takesE_not9 _ _ _, rfl⟩)
theorem out_delete (O : List Ent) (T : Int) (off : Bool) (L : Int) (n : List UInt8) : Out O T off L (deletedE (sSh O T off L) n) (deletedS (sSh O T off L) n) := by
  cases off with
  | true => exact Or.inl ⟨rfl, rfl, rfl⟩
  | false =>
    have e1 : deletedE (sSh O T false L) n = if has O n = true then spentE (sSh O T false L) else 6 := rfl
    have e2 : deletedS (sSh O T false L) n = if has O n = true then (if spentE (sSh O T false L) = 0 then { spent (sSh O T false L) with objs := del O n } else spent (sSh O T false L)) else sSh O T false L := rfl
    rw [e1, e2]
    by_cases ht : has O n = true
    · rw [if_pos ht, if_pos ht, spentE_s, spent_s]
      by_cases h : L = 0
      · simp only [h, if_true]
        rw [if_neg (by decide)]
        exact Or.inr (Or.inr (Or.inl ⟨rfl, rfl, rfl, rfl⟩))
      · simp only [h, if_false, if_true]
        have hp := sizeSum_del O n
        exact Or.inr (Or.inr (Or.inr ⟨rfl, h, rfl, del O n, rfl, by omega, by omega⟩))
    · rw [if_neg ht, if_neg ht]
      exact Or.inr (Or.inl ⟨rfl, by decide, by decide, rfl⟩)
theorem out_rename (O : List Ent) (T : Int) (off : Bool) (L : Int) (f t : List UInt8) : Out O T off L (renamedE (sSh O T off L) f t) (renamedS (sSh O T off L) f t) := by
  cases off with
  | true => exact Or.inl ⟨rfl, rfl, rfl⟩
  | false =>
    have e1 : renamedE (sSh O T false L) f t = if isName t = false then 5 else if has O f = false then 6 else if has O t = true ∧ t ≠ f then 7 else spentE (sSh O T false L) := rfl
    have e2 : renamedS (sSh O T false L) f t = if isName t = false then sSh O T false L else if has O f = false then sSh O T false L else if has O t = true ∧ t ≠ f then sSh O T false L else if spentE (sSh O T false L) = 0 then { spent (sSh O T false L) with objs := put (del O f) t (obOr (get O f)) } else spent (sSh O T false L) := rfl
    rw [e1, e2]
    by_cases h1 : isName t = false
    · rw [if_pos h1, if_pos h1]
      exact Or.inr (Or.inl ⟨rfl, by decide, by decide, rfl⟩)
    · rw [if_neg h1, if_neg h1]
      by_cases h2 : has O f = false
      · rw [if_pos h2, if_pos h2]
        exact Or.inr (Or.inl ⟨rfl, by decide, by decide, rfl⟩)
      · rw [if_neg h2, if_neg h2]
        by_cases h3 : has O t = true ∧ t ≠ f
        · rw [if_pos h3, if_pos h3]
          exact Or.inr (Or.inl ⟨rfl, by decide, by decide, rfl⟩)
        · rw [if_neg h3, if_neg h3, spentE_s, spent_s]
          by_cases h : L = 0
          · simp only [h, if_true]
            rw [if_neg (by decide)]
            exact Or.inr (Or.inr (Or.inl ⟨rfl, rfl, rfl, rfl⟩))
          · simp only [h, if_false, if_true]
            have hp := sizeSum_put (del O f) t (obOr (get O f))
            have hm := sizeSum_move O f
            have hd := sizeSum_del O f
            exact Or.inr (Or.inr (Or.inr ⟨rfl, h, rfl, put (del O f) t (obOr (get O f)), rfl, by omega, by omega⟩))
theorem small_sum (L : List Ent) : Small L (sizeSum L) := by
  induction L with
  | nil => intro p hp; cases hp
  | cons q r ih =>
    intro p hp
    rw [sizeSum_cons]
    rcases List.mem_cons.1 hp with rfl | hp
    · omega
    · have := ih p hp; omega
theorem Small.mono {L : List Ent} {M M' : Nat} (h : Small L M) (hm : M ≤ M') : Small L M' := fun p hp => Nat.le_trans (h p hp) hm
theorem sSh_ok {O : List Ent} {T : Int} {off : Bool} {L : Int} (h0 : 0 ≤ T) (h1 : T ≤ 1000) (h2 : 0 ≤ L) (h3 : L ≤ 100) : ShOk (sSh O T off L) :=
  ⟨⟨by show (0 : Int) ≤ 100000; decide, by show (100000 : Int) ≤ 1073741824; decide⟩, ⟨h0, by show T ≤ 1000000000; omega⟩, ⟨h2, by show L ≤ 9223372036854775807; omega⟩⟩
/-- A call of a row of calls. -/
structure Dd where
  what : Int
  name : List UInt8
  other : List UInt8
  text : List UInt8
  ns : Option Addr × Nat × Nat
  n : Int
  ps : Option Addr × Nat × Nat
def slV (p : Option Addr × Nat × Nat) : Value := .slice p.1 p.2.1 p.2.2
def ddCells (d : Dd) : List Value := [.int .i64 d.what, .string (str d.name), .string (str d.other), .string (str d.text), slV d.ns, .int .i64 d.n, slV d.ps]
def rowDeeds (w : World) (a : Option Addr) (c : Nat) (F : List Dd) : Prop := F.length ≤ c ∧ c ≤ 9223372036854775807 ∧
  ∀ i (h : i < F.length), ∃ b o, a = some ⟨b, o, none⟩ ∧ (w.cell? ⟨b, o + i * 7, none⟩ = some (.int .i64 F[i].what) ∧ w.cell? ⟨b, o + i * 7 + 1, none⟩ = some (.string (str F[i].name)) ∧ w.cell? ⟨b, o + i * 7 + 2, none⟩ = some (.string (str F[i].other)) ∧ w.cell? ⟨b, o + i * 7 + 3, none⟩ = some (.string (str F[i].text)) ∧
    w.cell? ⟨b, o + i * 7 + 4, none⟩ = some (slV F[i].ns) ∧ w.cell? ⟨b, o + i * 7 + 5, none⟩ = some (.int .i64 F[i].n) ∧ w.cell? ⟨b, o + i * 7 + 6, none⟩ = some (slV F[i].ps)) ∧ (F[i].name.length ≤ 9223372036854775807 ∧ F[i].other.length ≤ 9223372036854775807 ∧ F[i].text.length ≤ 9223372036854775807)
theorem str_of (s : ByteArray) : ∃ l, s = str l := ⟨s.data.toList, by simp [str]⟩
theorem str_le {l : List UInt8} (h : (str l).size ≤ maxLen) : l.length ≤ 9223372036854775807 := by rw [str_size] at h; simpa [maxLen] using h
section
open Go.ChangeShapes Go.WideShapes Go.Deep
variable {H : Type} {enc : TypeId × Value → H} {w : World} {base : Nat}
theorem slice_form_any {t e : TypeId} {fuel : Nat} {u : Value} {x : DataW H × List MemPlace} (ht : Try.prog.underlying t = some (.slice e)) (h : DataW.trod enc Try.prog w base (fun _ => true) true fuel t [u] = some x) : ∃ p, u = slV p := by
  rcases open_slice ht h with ⟨h0, _⟩ | ⟨a, n, c, m, k0, D, Pl, hv, -⟩
  · exact ⟨(none, 0, 0), show u = .slice none 0 0 by simpa using h0⟩
  · exact ⟨(some a, n, c), show u = .slice (some a) n c by simpa using hv⟩
theorem open_deedsz {fuel : Nat} {v : Value} {x : DataW H × List MemPlace} (h : DataW.trod enc Try.prog w base (fun _ => true) true fuel 47 [v] = some x) :
    ∃ (a : Option Addr) (c : Nat) (F : List Dd), v = .slice a F.length c ∧ rowDeeds w a c F := by
  obtain ⟨a, n, c, rfl, hnc, hc, hi⟩ := open_each Try.underlying47 Try.underlying49 (by kernel_rfl) (by kernel_rfl) (by decide) h
  obtain ⟨F, hF, hR⟩ := list_of (fun i (p : Dd) => ∃ b o, a = some ⟨b, o, none⟩ ∧ (w.cell? ⟨b, o + i * 7, none⟩ = some (.int .i64 p.what) ∧ w.cell? ⟨b, o + i * 7 + 1, none⟩ = some (.string (str p.name)) ∧ w.cell? ⟨b, o + i * 7 + 2, none⟩ = some (.string (str p.other)) ∧ w.cell? ⟨b, o + i * 7 + 3, none⟩ = some (.string (str p.text)) ∧
    w.cell? ⟨b, o + i * 7 + 4, none⟩ = some (slV p.ns) ∧ w.cell? ⟨b, o + i * 7 + 5, none⟩ = some (.int .i64 p.n) ∧ w.cell? ⟨b, o + i * 7 + 6, none⟩ = some (slV p.ps)) ∧ (p.name.length ≤ 9223372036854775807 ∧ p.other.length ≤ 9223372036854775807 ∧ p.text.length ≤ 9223372036854775807)) n (fun i hin => by
    obtain ⟨b, o, ha, hf⟩ := hi i hin
    obtain ⟨u0, y0, k0, c0, t0⟩ := hf 0 _ rfl
    obtain ⟨u1, y1, k1, c1, t1⟩ := hf 1 _ rfl
    obtain ⟨u2, y2, k2, c2, t2⟩ := hf 2 _ rfl
    obtain ⟨u3, y3, k3, c3, t3⟩ := hf 3 _ rfl
    obtain ⟨u4, y4, k4, c4, t4⟩ := hf 4 _ rfl
    obtain ⟨u5, y5, k5, c5, t5⟩ := hf 5 _ rfl
    obtain ⟨u6, y6, k6, c6, t6⟩ := hf 6 _ rfl
    obtain ⟨z0, e0, -, w0⟩ := DataW.trod_int Try.underlying3 t0
    obtain ⟨s1, e1, -, w1⟩ := DataW.trod_string Try.underlying9 t1
    obtain ⟨s2, e2, -, w2⟩ := DataW.trod_string Try.underlying9 t2
    obtain ⟨s3, e3, -, w3⟩ := DataW.trod_string Try.underlying9 t3
    obtain ⟨p4, rfl⟩ := slice_form_any Try.underlying32 t4
    obtain ⟨z5, e5, -, w5⟩ := DataW.trod_int Try.underlying3 t5
    obtain ⟨p6, rfl⟩ := slice_form_any Try.underlying34 t6
    obtain rfl : u0 = .int .i64 z0 := by simpa using e0
    obtain rfl : u1 = .string s1 := by simpa using e1
    obtain rfl : u2 = .string s2 := by simpa using e2
    obtain rfl : u3 = .string s3 := by simpa using e3
    obtain rfl : u5 = .int .i64 z5 := by simpa using e5
    obtain ⟨l1, rfl⟩ := str_of s1
    obtain ⟨l2, rfl⟩ := str_of s2
    obtain ⟨l3, rfl⟩ := str_of s3
    exact ⟨⟨z0, l1, l2, l3, p4, z5, p6⟩, b, o, ha, ⟨c0, c1, c2, c3, c4, c5, c6⟩, str_le w1, str_le w2, str_le w3⟩)
  exact ⟨a, c, F, by rw [hF], by omega, hc, fun i h => hR i h⟩
end
end Go.Proofs.Ytfclnpfpddhjiaa
