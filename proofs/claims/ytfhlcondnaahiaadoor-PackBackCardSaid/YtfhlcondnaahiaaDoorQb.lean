/- glyph's reader over bytes that are known, for pack.readHead. -/
import Derived.Test.YtfhlcondnaahiaaDoorHe
import Derived.Test.YtfhlcondnaahiaaDoorPh
namespace Go.Proofs.YtfhlcondnaahiaaDoor.Gl
open Go.RowKit
/-- Two numbers' bytes at the beginning of one row are the same. -/
theorem num_prefix (m n : Nat) (P Q : List UInt8) (h : numBytes m ++ P = numBytes n ++ Q) : m = n ∧ P = Q := by
  obtain ⟨D, z, h1, h2, h3, -⟩ := numBytes_form m
  obtain ⟨E, y, g1, g2, g3, -⟩ := numBytes_form n
  rw [h1, g1] at h
  have key : ∀ (D E : List UInt8), (∀ x ∈ D, 128 ≤ x.toNat) → (∀ x ∈ E, 128 ≤ x.toNat) → (D ++ [z]) ++ P = (E ++ [y]) ++ Q → D ++ [z] = E ++ [y] ∧ P = Q := by
    intro D
    induction D with
    | nil =>
      intro E _ hE h
      cases E with
      | nil =>
        simp at h
        exact ⟨by rw [h.1], h.2⟩
      | cons x E =>
        simp at h
        have := hE x (by simp)
        rw [← h.1] at this
        omega
    | cons d D ih =>
      intro E hD hE h
      cases E with
      | nil =>
        simp at h
        have := hD d (by simp)
        rw [h.1] at this
        omega
      | cons x E =>
        simp only [List.cons_append, List.cons.injEq] at h
        obtain ⟨h5, h6⟩ := ih E (fun x hx => hD x (by simp [hx])) (fun x hx => hE x (by simp [hx])) h.2
        exact ⟨by rw [List.cons_append, List.cons_append, h.1, h5], h6⟩
  obtain ⟨h5, h6⟩ := key D E h2 g2 h
  exact ⟨numBytes_inj m n (by rw [h1, g1, h5]), h6⟩

variable {B : Nat}
theorem rnum_is (k N : Nat) (R : List UInt8) (most : Int) (w : World) (h : RdAt B w k (numBytes N ++ R) 0) (hN : N < 4611686018427387904) (hm : (N : Int) ≤ most) :
    Calls Tryd.prog 64 #[.pointer (some ⟨k, 0, none⟩), .int .i64 most] w fun r w' => r = .returned (.int .i64 (N : Int)) ∧ RdAt B w' k R 0 ∧ But k w w' := by
  refine (rnum_any k _ 0 most w h).mono ?_
  rintro r w' ⟨hb, ⟨he, rfl, hr⟩ | ⟨he, er, hbad, rfl, hr⟩ | ⟨he, M, s, hM, hs, hnb, hc⟩⟩
  · exact absurd rfl he
  · exact absurd hbad (not_bad N hN R er)
  · have e : numBytes M ++ (numBytes N ++ R).drop s = numBytes N ++ R := by rw [hnb]; exact List.take_append_drop _ _
    obtain ⟨rfl, e2⟩ := num_prefix _ _ _ _ e
    rcases hc with ⟨hm2, rfl, hr⟩ | ⟨hm2, rfl, hr⟩
    · omega
    · exact ⟨rfl, e2 ▸ hr, hb⟩
theorem rraw_is (k : Nat) (t R : List UInt8) (n : Int) (w : World) (h : RdAt B w k (t ++ R) 0) (hn : n = (t.length : Int)) (hl : (t ++ R).length ≤ 100000000) :
    Calls Tryd.prog 65 #[.pointer (some ⟨k, 0, none⟩), .int .i64 n] w fun r w' => ∃ v, r = .returned v ∧ rowIs w' w.heap.size v t ∧ RdAt B w' k R 0 ∧ But k w w' := by
  refine (rraw_any k _ 0 n w h hl).mono ?_
  rintro r w' ⟨v, rfl, h1, h2, h3⟩
  subst hn
  have hle : t.length ≤ (t ++ R).length := by simp
  have c : (0 : Int) = 0 ∧ 0 ≤ (t.length : Int) ∧ (t.length : Int) ≤ ((t ++ R).length : Int) := ⟨rfl, by omega, by omega⟩
  have e1 : tOut (t ++ R) 0 (t.length : Int) = t := by unfold tOut; rw [if_pos c, Int.toNat_natCast, List.take_left]
  have e2 : tLeft (t ++ R) 0 (t.length : Int) = R := by unfold tLeft; rw [if_pos c, Int.toNat_natCast, List.drop_left]
  have e3 : tErr (t ++ R) 0 (t.length : Int) = 0 := by unfold tErr; rw [if_neg (by simp), if_neg (by omega), if_neg (by omega)]
  rw [e1] at h1
  rw [e2, e3] at h2
  exact ⟨v, rfl, h1, h2, h3⟩
theorem rend_is (k : Nat) (w : World) (h : RdAt B w k [] 0) :
    Calls Tryd.prog 67 #[.pointer (some ⟨k, 0, none⟩)] w fun r w' => r = .returned (.int .i64 0) ∧ RdAt B w' k [] 0 ∧ But k w w' := by
  have := rend_any k [] 0 w h
  rw [show endErr [] 0 = 0 from rfl] at this
  exact this
theorem RdAt.kp {f : Nat → Prop} {w w' : World} {k : Nat} {L : List UInt8} {e : Int} (h : RdAt B w k L e) (q : Kp f w w') (hf : ∀ j, f j → B ≤ j ∧ j ≠ k) : RdAt B w' k L e := by
  obtain ⟨p, ⟨h1, h2⟩, h3, h4, h5, h6⟩ := h
  refine ⟨p, ⟨?_, h2.1, h2.2.1, ?_⟩, h3, h4, h5, h6⟩
  · unfold blockIs
    rw [q.block k h1.lt fun z => (hf k z).2 rfl]
    exact h1
  · rcases h2.2.2 with h0 | ⟨b, o, hb, hc⟩
    · exact Or.inl h0
    · refine Or.inr ⟨b, o, hb, fun j hj => q.cell (hc j hj) fun z => ?_⟩
      have := hf b z
      exact h6 b this.1 _ hb rfl
theorem But.kp {f : Nat → Prop} {b : Nat} {w w' : World} (h : But b w w') (hf : f b ∨ w.heap.size ≤ b) : Kp f w w' :=
  ⟨h.os, h.tape, h.output, h.size, fun k hk hn => h.block k hk fun e => hf.elim (fun q => hn (e ▸ q)) fun q => by omega⟩
end Go.Proofs.YtfhlcondnaahiaaDoor.Gl
namespace Go.Proofs.YtfhlcondnaahiaaDoor
open Go.RowKit Sha
/-- Open, of bytes that begin as that kind's do. -/
theorem ropen_is (x : UInt8) (p : Pt) (F : List UInt8) (w : World) (hp : p.ok0 w) (he : p.l = [72, 89, x] ++ F) (hl : F.length ≤ 100000000) :
    Calls Tryd.prog 63 #[.int .u8 (V x), .slice p.a p.l.length p.c] w fun r w' => ∃ k, r = .returned (.pointer (some ⟨k, 0, none⟩)) ∧ w.heap.size ≤ k ∧ k < w'.heap.size ∧ Gl.RdAt w'.heap.size w' k F 0 ∧ Below w.heap.size w w' := by
  refine (Gl.open_yes2 x ⟨p.a, p.c, p.l⟩ F w ⟨hp.1.1, hp.1.2.1, hp.1.2.2⟩ hp.2 he hl).mono ?_
  rintro r w' ⟨k, q, rfl, h1, h2, h3, h4, h5, h6, h7⟩
  exact ⟨k, rfl, h1, h2.1.lt, ⟨q, h2, h3, h4, h6, h7⟩, h5⟩
theorem zeroEn (w : World) : (zeroValue 66).run Tryd.prog w = .ok (.agg (zeros 32 ++ [Value.int .i64 0, Value.int .i64 0, Value.int .i64 0]).toArray) w := by kernel_rfl
theorem make_ens (n : Nat) (w : World) (hn : n ≤ 100000) :
    ∃ w', (Instr.makeSlice 31 (.int .i64 0) (.int .i64 (n : Int))).run Tryd.prog w = .ok (.slice (some ⟨w.heap.size, 0, none⟩) 0 n) w' ∧
      w'.ownsRow w.heap.size 66 35 (.slice (some ⟨w.heap.size, 0, none⟩) 0 n) 0 [] ∧ w.grownBy w' none := by
  obtain ⟨i0, hi, hz0, hz1, hz2⟩ := info_parts info_en3
  exact run_makeSlice_owned w w.heap.size 31 66 i0 _ 35 Tryd.underlying31 hi hz0 hz1 .i64 .i64 n (by omega) (by rw [hz2]; omega) (by unfold maxLen; omega) (Nat.le_refl _)
end Go.Proofs.YtfhlcondnaahiaaDoor
