/- PolyAdds: for every list of words the law returns true, and its argument reads as before. No condition. -/
import Derived.Test.YtfbihkfcpgkbmaaAdds
import Derived.Carry
import Derived.SizedLaws
namespace Go.Proofs.Ytfbihkfcpgkbmaa
open Go.RowKit Go.ChangeShapes Go.WideShapes Go.ChangeAt

theorem laidOut : laidOutB Try.prog = true := by kernel_rfl
theorem cells_u64 : Try.prog.cellsOf 24 = 1 := by kernel_rfl
/-- Numbers that are words, as words. -/
def toWords (zs : List Int) : List W := zs.map fun n => BitVec.ofNat 64 n.toNat
theorem toWords_get {zs : List Int} (hw : ∀ n ∈ zs, (Lit.int .u64 n).wf = true) (n j : Nat) (hj : j < (toWords (zs.take n)).length) : zs.getD j 0 = U ((toWords (zs.take n)).getD j 0) := by
  have hj2 : j < (zs.take n).length := by simpa [toWords] using hj
  rw [List.length_take] at hj2
  have hj3 : j < zs.length := by omega
  have hb := bounds_u64 (hw zs[j] (List.getElem_mem hj3))
  have e : (toWords (zs.take n)).getD j 0 = BitVec.ofNat 64 (zs[j]).toNat := by
    simp [toWords, hj3, show j < n by omega]
  rw [e, U_of _ (by omega)]
  simp [hj3]
  omega
section
variable {H : Type} {enc : TypeId × Value → H} {w : World} {base : Nat}
/-- A slice of words that came in. -/
theorem open_words {fuel : Nat} {v : Value} {x : DataW H × List MemPlace} (h : DataW.trod enc Try.prog w base (fun _ => true) true fuel 22 [v] = some x) :
    ∃ (a : Option Addr) (c : Nat) (F : List W), v = .slice a F.length c ∧ F.length ≤ c ∧ wordsIn w a F := by
  rcases open_ints Try.underlying22 Try.underlying24 cells_u64 h with ⟨hcs, hx⟩ | ⟨a, len, cap, zs, hcs, _, hl, hm, hz, hx, hcell, hw⟩
  · obtain rfl : v = .slice none 0 0 := by simpa using hcs
    exact ⟨none, 0, [], rfl, by simp, Or.inl rfl⟩
  · obtain rfl : v = .slice (some a) len cap := by simpa using hcs
    simp only [if_true] at hz
    have hlen : (toWords (zs.take len)).length = len := by simp [toWords]; omega
    refine ⟨some a, cap, toWords (zs.take len), by rw [hlen], by omega, ?_⟩
    by_cases h0 : len = 0
    · left
      subst h0
      simp [toWords]
    · obtain ⟨b, off, rfl, hc⟩ := ints_at hcell (by omega)
      right
      refine ⟨b, off, rfl, fun j hj => ?_⟩
      rw [hc j (by rw [hlen] at hj; omega), toWords_get hw len j hj]
end
namespace polyAdds
set_option maxRecDepth 100000 in
theorem lifted (os : Os) (started : os.Started) (H : Type) (enc : TypeId × Value → H) :
    ReturnsInHanded {} Try.checked os 3 .any (Rows.polyAddsSpec.pre6 enc Try.prog Try.f3 Rows.polyAddsRow.domain false) (Rows.polyAddsSpec.post enc Try.prog Try.f3 false true false false) := by
  refine returnsInHanded_of_change (C := Try.checked) own started (by kernel_rfl) Try.func3
    (ChangeSpec.witness6 (enc := enc) (C := Try.checked) false ⟨#[], #[.slice none 0 0], []⟩ 8 (by kernel_rfl) (by kernel_rfl) (by kernel_rfl) (by kernel_rfl)) ?_
  intro W base args ds gs before hval0 hW hcnd _
  have hval : ∀ (j : Nat) t v, Try.f3.params[j]? = some t → args[j]? = some v → Value.okWide Try.prog W .any base t v := hval0
  have hW' := hW
  obtain ⟨p, q, hA0, hV, rfl, hfz, hnd⟩ := hW
  have hA : DataW.TrodAll enc Try.prog W 0 (fun _ => true) true Try.f3.params.toList args.toList ds p := hA0
  rw [Try.params3] at hA hval
  obtain ⟨v0, vs0, d0, ds0, p0, q0, hargs, rfl, rfl, h0, r0⟩ := trodAll_cons hA
  obtain ⟨rfl, rfl, rfl⟩ := trodAll_nil r0
  obtain rfl : args = #[v0] := by cases args; simp_all
  obtain ⟨rfl, rfl⟩ := trodVars_none hV
  obtain ⟨a0, l0, c0, rfl⟩ := okWide_slice Try.underlying22 (hval 0 22 v0 rfl rfl)
  have h0k := h0
  obtain ⟨n0, g0⟩ := h0
  clear hA0 hval0
  simp only [List.append_nil] at hW'
  obtain ⟨b0, k0, F, e0, hF, hin⟩ := open_words (v := .slice a0 l0 c0) (by simpa [Value.cells] using g0)
  have hlt : ∀ x ∈ p0, x.block < W.heap.size := fun x hx => hW'.lt x (by simpa using hx)
  rw [e0]
  refine (law_polyAdds b0 k0 F W hF hin).mono fun e W' ⟨he, hb⟩ => ?_
  rw [← e0]
  subst he
  refine ⟨_, rfl, [d0], [], p0, [], p0, [], by simpa using hW', ?_, ?_, ?_, hb.frame _, fun h => by cases h⟩
  · exact trodAll_cons_mk (shut_bool Try.underlying4 _) trodAll_mk0
  · have := trodAll_cons_mk (Below.trod laidOut (by kernel_rfl) (of_decide_eq_true (by kernel_rfl)) h0k hb hlt) trodAll_mk0
    rw [List.append_nil] at this
    exact this
  · rfl

theorem proved : Rows.PolyAddsSaid :=
  OpenClaim.holds_of_wide 3 Try.f3 rfl rfl rfl rfl rfl rfl rfl ⟨rfl, rfl, rfl, rfl, rfl⟩ rfl rfl rfl rfl rfl (by kernel_rfl) Try.func3 (by kernel_rfl)
    (of_decide_eq_true (by kernel_rfl)) (by unfold Func.isWrapper; first | (rw [if_pos (by decide +kernel)]; kernel_rfl) | (rw [if_neg (by decide +kernel)]; exact ⟨rfl, rfl⟩))
    (fun os started H enc _ => lifted os started H enc)
end polyAdds
end Go.Proofs.Ytfbihkfcpgkbmaa
