/- Cells and clocks: the contracts of their calls. -/
import Derived.Test.YtjkhokholcchfaaDoorSfSt
namespace Go.Proofs.YtjkhokholcchfaaDoor.Sf
open Go.RowKit Go.MapKept

/-- Block c is a cell of the store k, with this number. -/
def cellAt (w : World) (c k : Nat) (n : Int) : Prop := blockIs w c [.pointer (some ⟨k, 0, none⟩), .int .i64 n] 103
theorem cellAt.ne {w : World} {c k B : Nat} {n : Int} {m : Option Nat} {s : Sh} (h : cellAt w c k n) (hs : ShAt w B k m s) : c ≠ k := by
  intro e
  subst e
  have h1 := hs.is
  unfold cellAt blockIs at h
  unfold blockIs at h1
  rw [h] at h1
  simp [shCells] at h1
theorem cellAt.c0 {w : World} {c k : Nat} {n : Int} (h : cellAt w c k n) : w.cell? ⟨c, 0, none⟩ = some (.pointer (some ⟨k, 0, none⟩)) := by rw [blockIs.cell h]; rfl
theorem cellAt.c1 {w : World} {c k : Nat} {n : Int} (h : cellAt w c k n) : w.cell? ⟨c, 1, none⟩ = some (.int .i64 n) := by rw [blockIs.cell h]; rfl
set_option maxRecDepth 100000 in
set_option maxHeartbeats 1000000 in
theorem cellnew_any (k : Nat) (w : World) :
    Calls Tryd.prog 33 #[.pointer (some ⟨k, 0, none⟩)] w fun e w' => ∃ c, e = .returned (.tuple #[.pointer (some ⟨c, 0, none⟩), .int .i64 0]) ∧ w.heap.size ≤ c ∧ cellAt w' c k 0 ∧ Below w.heap.size w w' := by
  go_enter Tryd.func33, Tryd.ntmps33
  go_wp2_with fail
  go_ret2
  exact ⟨w.heap.size, rfl, Nat.le_refl _, blockIs.new w [.pointer (some ⟨k, 0, none⟩), .int .i64 0] _, (Below.refl _ _).alloc (Nat.le_refl _) _⟩
set_option maxRecDepth 100000 in
set_option maxHeartbeats 1000000 in
theorem read_any (B k c : Nat) (m : Option Nat) (s : Sh) (n : Int) (w : World) (h : ShAt w B k m s) (hc : cellAt w c k n) :
    Calls Tryd.prog 36 #[.pointer (some ⟨c, 0, none⟩)] w fun e w' => e = .returned (.tuple #[.int .i64 (if s.off then 0 else n), .int .i64 (if s.off then 9 else 0)]) ∧ w = w' := by
  have H := Lib.hid h
  have d0 := hc.c0
  have d1 := hc.c1
  clear h hc
  cases ho : s.off
  all_goals
    go_enter Tryd.func36, Tryd.ntmps36
    go_wp2_with fail
    with_reducible refine (off_any B k m s w H.out).mono ?_
    rintro e w' ⟨rfl, rfl⟩
    rw [ho]
    go_wp2_with fail
    go_ret2
    exact ⟨rfl, rfl⟩
/-- Is the number refused? -/
def lowN (n x : Int) : Bool := decide (x ≤ n) || decide (4611686018427387903 < x)
def raisedE (s : Sh) (n x : Int) : Int := if s.off then 9 else if lowN n x then 1 else spentE s
def raisedS (s : Sh) (n x : Int) : Sh := if s.off then s else if lowN n x then s else spent s
def raisedN (s : Sh) (n x : Int) : Int := if raisedE s n x = 0 then x else n
set_option maxRecDepth 100000 in
set_option maxHeartbeats 2000000 in
theorem raise_any (B k c : Nat) (m : Option Nat) (s : Sh) (n x : Int) (w : World) (h : ShAt w B k m s) (ok : ShOk s) (hc : cellAt w c k n) (hB : B ≤ c) :
    Calls Tryd.prog 34 #[.pointer (some ⟨c, 0, none⟩), .int .i64 x] w fun e w' => e = .returned (.int .i64 (raisedE s n x)) ∧ ShAt w' B k m (raisedS s n x) ∧ cellAt w' c k (raisedN s n x) ∧ Below B w w' ∧
      ∀ b cs t, blockIs w b cs t → b ≠ k → b ≠ c → blockIs w' b cs t := by
  have H := Lib.hid h
  have K := Lib.hid ok
  have C := Lib.hid hc
  have d0 := hc.c0
  have d1 := hc.c1
  have hne := hc.ne h
  clear h hc ok
  unfold raisedN raisedS raisedE
  cases ho : s.off with
  | true =>
    go_enter Tryd.func34, Tryd.ntmps34
    go_wp2_with fail
    with_reducible refine (off_any B k m s w H.out).mono ?_
    rintro e w' ⟨rfl, rfl⟩
    rw [ho]
    go_wp2_with fail
    go_ret
    exact ⟨rfl, H.out, C.out, Below.refl _ _, fun _ _ _ h _ _ => h⟩
  | false =>
    cases hl : lowN n x with
    | true =>
      have hl' : x ≤ n ∨ 4611686018427387903 < x := by simpa [lowN] using hl
      go_enter Tryd.func34, Tryd.ntmps34
      go_wp2_with fail
      with_reducible refine (off_any B k m s w H.out).mono ?_
      rintro e w' ⟨rfl, rfl⟩
      rw [ho]
      go_wp2_with fail
      all_goals first
        | (exfalso; omega)
        | (go_ret
           exact ⟨rfl, H.out, C.out, Below.refl _ _, fun _ _ _ h _ _ => h⟩)
    | false =>
      have hl' : n < x ∧ x ≤ 4611686018427387903 := by simpa [lowN] using hl
      obtain ⟨l1, l2⟩ := hl'
      have l3 : ¬ x ≤ n := by omega
      have en : nudgedE s = spentE s := by simp [nudgedE, ho]
      have es : nudged s = spent s := by simp [nudged, ho]
      have N := Lib.hid (nudge_any B k m s w H.out K.out)
      rw [en, es] at N
      clear en es
      by_cases h9 : spentE s = 0
      · rw [h9] at N ⊢
        go_enter Tryd.func34, Tryd.ntmps34
        go_wp2_with fail
        with_reducible refine (off_any B k m s w H.out).mono ?_
        rintro e w' ⟨rfl, rfl⟩
        rw [ho]
        go_wp2_with fail
        with_reducible refine N.out.mono ?_
        rintro e w1 ⟨rfl, h1, h2⟩
        have H1 := Lib.hid h1
        have H2 := Lib.hid h2
        have C1 := Lib.hid (H.out.keeps h2 C.out hne)
        have g1 := cellAt.c1 C1.out
        have f1 := blockIs.free C1.out 1
        clear h1 h2
        go_wp2_with fail
        go_ret
        refine ⟨rfl, H1.out.below_set hne _ (fun es clock e => by have := C1.out; unfold cellAt blockIs at this; rw [e] at this; cases this), blockIs.set C1.out 1 _, ((H.out.step_below H2.out)).setCell (p := ⟨c, 1, none⟩) hB _, fun b cs t hb hk hc => blockIs.other (H.out.keeps H2.out hb hk) _ _ hc⟩
      · have h9' : spentE s = 9 := by
          unfold spentE at h9 ⊢
          split
          · rfl
          · rename_i h
            rw [if_neg h] at h9
            exact absurd rfl h9
        rw [h9'] at N ⊢
        go_enter Tryd.func34, Tryd.ntmps34
        go_wp2_with fail
        with_reducible refine (off_any B k m s w H.out).mono ?_
        rintro e w' ⟨rfl, rfl⟩
        rw [ho]
        go_wp2_with fail
        with_reducible refine N.out.mono ?_
        rintro e w1 ⟨rfl, h1, h2⟩
        have H1 := Lib.hid h1
        have H2 := Lib.hid h2
        have C1 := Lib.hid (H.out.keeps h2 C.out hne)
        clear h1 h2
        go_wp2_with fail
        go_ret
        exact ⟨rfl, H1.out, C1.out, H.out.step_below H2.out, fun b cs t hb hk hc => H.out.keeps H2.out hb hk⟩
def badTick (n x : Int) : Bool := decide (x < 0) || decide (1099511627776 - n < x)
end Go.Proofs.YtjkhokholcchfaaDoor.Sf
