/- Lumps that come in, read. -/
import Derived.Test.YtfhlcondnaahiaaDoorPp
import Derived.Test.YtfhlcondnaahiaaDoorGq
import Derived.Deep.Slices
import Derived.Deep.Fields
import Derived.ChangeSame
namespace Go.Proofs.YtfhlcondnaahiaaDoor
open Go.RowKit Go.ChangeShapes Go.WideShapes Go.ChangeAt Go.Deep Go.Joins Go.ChangeMaps Sha
theorem max_len : maxLen = 9223372036854775807 := by decide
theorem list_of {α : Type} (R : Nat → α → Prop) : ∀ (n : Nat), (∀ i, i < n → ∃ p, R i p) → ∃ F : List α, F.length = n ∧ ∀ i (hi : i < F.length), R i F[i]
  | 0, _ => ⟨[], rfl, fun i hi => absurd hi (Nat.not_lt_zero i)⟩
  | n + 1, h => by
    obtain ⟨F, hF, hR⟩ := list_of R n (fun i hi => h i (by omega))
    obtain ⟨p, hp⟩ := h n (by omega)
    refine ⟨F ++ [p], by simp [hF], fun i hi => ?_⟩
    by_cases hlt : i < F.length
    · rw [List.getElem_append_left hlt]
      exact hR i hlt
    · have : i = F.length := by simp at hi; omega
      subst this
      rw [List.getElem_append_right (Nat.le_refl _)]
      simp only [Nat.sub_self, List.getElem_cons_zero]
      rw [hF]
      exact hp
section
variable {H : Type} {enc : TypeId × Value → H} {w : World} {base : Nat}
theorem open_each {t e : TypeId} {fs : Array Field} {fuel : Nat} {v : Value} {x : DataW H × List MemPlace} (ht : Tryd.prog.underlying t = some (.slice e)) (he : Tryd.prog.underlying e = some (.struct fs)) (hone : oneCellFields Tryd.prog fs = true)
    (hC : Tryd.prog.cellsOf e = fs.size) (hz : 0 < fs.size) (h : DataW.trod enc Tryd.prog w base (fun _ => true) true fuel t [v] = some x) :
    ∃ (a : Option Addr) (n c : Nat), v = .slice a n c ∧ n ≤ c ∧ c ≤ 9223372036854775807 ∧
      ∀ i, i < n → ∃ b o, a = some ⟨b, o, none⟩ ∧ ∀ (j : Nat) (f : Field), fs[j]? = some f → ∃ (u : Value) (y : DataW H × List MemPlace) (k : Nat), w.cell? ⟨b, o + (i * fs.size + j), none⟩ = some u ∧ DataW.trod enc Tryd.prog w base (fun _ => true) true k f.type [u] = some y := by
  rcases open_slice ht h with ⟨h0, _⟩ | ⟨a, n, c, m, k0, D, Pl, hv, hb, hnc, hcm, hm, hx, hi⟩
  · obtain rfl : v = .slice none 0 0 := by simpa using h0
    exact ⟨none, 0, 0, rfl, Nat.le_refl _, by decide, fun i hi => absurd hi (Nat.not_lt_zero i)⟩
  · obtain rfl : v = .slice (some a) n c := by simpa using hv
    simp only [if_true] at hm
    have key : ∀ i, i < n → ∀ (j : Nat) (f : Field), fs[j]? = some f → ∃ (u : Value) (y : DataW H × List MemPlace) (k : Nat), w.cell? ((a.add (i * fs.size)).add j) = some u ∧ DataW.trod enc Tryd.prog w base (fun _ => true) true k f.type [u] = some y := fun i hin j f hj => by
      obtain ⟨cs, hc, htr⟩ := hi i (by omega)
      obtain ⟨ys, k1, -, -, hlen, hyl, hf⟩ := DataW.trod_struct he htr
      obtain ⟨-, hcl, hat⟩ := World.cells?_some hc
      rw [hC] at hc hlen hat
      obtain ⟨ho, hk⟩ := hone_of hone j f hj
      have hjl : j < fs.size := (Array.getElem?_eq_some_iff.1 hj).1
      have hjc : j < cs.length := by omega
      have hcell := hat j hjl
      rw [List.getElem?_eq_getElem hjc] at hcell
      have h1 := hf j f hj
      have hone1 : (cs.drop f.offset).take (Tryd.prog.cellsOf f.type) = [cs[j]] := by
        rw [ho, hk, List.drop_eq_getElem_cons hjc]
        rfl
      rw [hone1] at h1
      exact ⟨cs[j], ys[j]'(by omega), k1, hcell, h1.trans (List.getElem?_eq_getElem (by omega))⟩
    obtain ⟨b, o, spot⟩ := a
    refine ⟨some ⟨b, o, spot⟩, n, c, rfl, hnc, by rw [max_len] at hcm; exact hcm, fun i hin => ?_⟩
    obtain ⟨u, y, k, hu, -⟩ := key 0 (by omega) 0 fs[0] (by simp [hz])
    have hspot : spot = none := by simpa [Addr.add] using World.cell?_spot hu
    subst hspot
    refine ⟨b, o, rfl, fun j f hj => ?_⟩
    obtain ⟨u, y, k, hu, hy⟩ := key i hin j f hj
    refine ⟨u, y, k, ?_, hy⟩
    rw [Addr.add_lit, Addr.add_lit] at hu
    rw [← Nat.add_assoc]
    exact hu
theorem open_lumps {fuel : Nat} {v : Value} {x : DataW H × List MemPlace} (h : DataW.trod enc Tryd.prog w 0 (fun _ => true) true fuel 22 [v] = some x) :
    ∃ (a : Option Addr) (c : Nat) (R : List Lmp), v = .slice a R.length c ∧ lumpsIn w a R := by
  obtain ⟨a, n, c, rfl, hnc, hc, hi⟩ := open_each Tryd.underlying22 Tryd.underlying40 (by kernel_rfl) (by kernel_rfl) (by decide) h
  obtain ⟨R, hF, hR⟩ := list_of (fun i (p : Lmp) => ∃ b o, a = some ⟨b, o, none⟩ ∧ w.cell? ⟨b, o + i * 2, none⟩ = some (.int .i64 p.kind) ∧ w.cell? ⟨b, o + i * 2 + 1, none⟩ = some (.slice p.a p.l.length p.c) ∧ Pt.ok0 w ⟨p.a, p.c, p.l⟩) n (fun i hin => by
    obtain ⟨b, o, ha, hf⟩ := hi i hin
    obtain ⟨u0, y0, k0, c0, t0⟩ := hf 0 _ rfl
    obtain ⟨u1, y1, k1, c1, t1⟩ := hf 1 _ rfl
    obtain ⟨z0, e0, -, w0⟩ := DataW.trod_int Tryd.underlying3 t0
    obtain ⟨a1, d1, F1, e1, hF1, hc1, hz1, hin1⟩ := open_bytesW t1
    obtain rfl : u0 = .int .i64 z0 := by simpa using e0
    obtain rfl : u1 = .slice a1 F1.length d1 := by simpa using e1
    exact ⟨{ kind := z0, a := a1, c := d1, l := F1 }, b, o, ha, c0, c1, ⟨hF1, hc1, hin1⟩, hz1⟩)
  refine ⟨a, c, R, by rw [hF], fun i h => hR i h⟩
end
end Go.Proofs.YtfhlcondnaahiaaDoor
