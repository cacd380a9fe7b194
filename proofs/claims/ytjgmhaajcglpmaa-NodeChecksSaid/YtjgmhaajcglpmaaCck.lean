/- NodeChecks: for every node and every text the law returns true, and its arguments read as before. No condition. -/
import Derived.Test.YtjgmhaajcglpmaaLck
import Derived.Test.YtjgmhaajcglpmaaNopn
import Derived.Test.YtjgmhaajcglpmaaRows
import Derived.Carry
import Derived.SizedLaws
import Derived.ProofKit
import Derived.OpenShut
namespace Go.Proofs.Ytjgmhaajcglpmaa
open Go.RowKit
namespace nodeChecks
open Go.ChangeShapes Go.WideShapes Go.ChangeAt Go.RowKit Go.Joins Go.Deep Go.ChangeMaps
theorem bytes_id : Try.prog.bytesOf 24 = 32 := by kernel_rfl
set_option maxRecDepth 100000 in
theorem lifted (os : Os) (started : os.Started) (H : Type) (enc : TypeId × Value → H) :
    ReturnsInHanded {} Try.checked os 3 .any (Rows.nodeChecksSpec.pre6 enc Try.prog Try.f3 Rows.nodeChecksRow.domain false) (Rows.nodeChecksSpec.post enc Try.prog Try.f3 false true false false) := by
  refine returnsInHanded_of_change_sized (C := Try.checked) own started (by kernel_rfl) Try.func3
    (ChangeSpec.witness6 (enc := enc) (C := Try.checked) false ⟨#[], #[.agg (zeroNd.cells (.slice none 0 0)).toArray, .string ⟨#[]⟩], []⟩ 8 (by kernel_rfl) (by kernel_rfl) (by kernel_rfl) (by kernel_rfl)) ?_
  intro W base args ds gs before hval0 hW hcnd hsz _
  have hval : ∀ (j : Nat) t v, Try.f3.params[j]? = some t → args[j]? = some v → Value.okWide Try.prog W .any base t v := hval0
  have hW' := hW
  obtain ⟨p, q, hA0, hV, rfl, hfz, hnd⟩ := hW
  have hA : DataW.TrodAll enc Try.prog W 0 (fun _ => true) true Try.f3.params.toList args.toList ds p := hA0
  rw [show Try.checked.prog = Try.prog from rfl, Try.params3] at hsz
  rw [Try.params3] at hA hval
  obtain ⟨v0, vs0, d0, ds0, p0, q0, hargs, rfl, rfl, h0, r0⟩ := trodAll_cons hA
  obtain ⟨v1, vs1, d1, ds1, p1, q1, rfl, rfl, rfl, h1, r1⟩ := trodAll_cons r0
  obtain ⟨rfl, rfl, rfl⟩ := trodAll_nil r1
  obtain rfl : args = #[v0, v1] := by cases args; simp_all
  obtain ⟨rfl, rfl⟩ := trodVars_none hV
  clear hA0 hval0
  simp only [List.append_nil, List.nil_append] at hW' hsz
  have hv0 := hval 0 26 v0 rfl rfl
  simp only [Value.okWide, Try.underlying26] at hv0
  obtain ⟨cs0, rfl, -, -⟩ := hv0
  have h0k := h0
  obtain ⟨n0, g0⟩ := h0
  obtain ⟨N0, pv0, e0, wf0, id0, px0⟩ := open_nd (cs := cs0.toList) (by simpa [Value.cells] using g0)
  obtain ⟨pa0, pc0, rfl⟩ : ∃ a c, pv0 = .slice a N0.parts.length c := by
    obtain ⟨a, c, e, -⟩ := id0
    exact ⟨a, c, e⟩
  have hb0 : N0.parts.length * 32 ≤ 140737488355328 := by
    rcases px0 with h | ⟨dd, elems, spare, hd, hs, hl⟩
    · omega
    · have hd : d0 = .agg dd := hd
      subst hd
      have h1 : ∀ m, m ∈ DataW.weightsEach Try.prog ((Try.prog.fieldsOf 26).toList.map (·.type)) dd → m ≤ reachBytes := fun m hm => by
        have := List.all_eq_true.1 hsz m (DataW.weights_mem_each (j := 0) (t := 26) rfl rfl m (by
          unfold DataW.weights
          rw [show Try.prog.underlying 26 = some (.struct (Try.prog.fieldsOf 26)) by kernel_rfl]
          exact hm))
        simpa using this
      have h2 := h1 ((elems.length + spare.length) * Try.prog.bytesOf 24) (DataW.weights_mem_each (j := 6) (t := 22) (by kernel_rfl) hs _ (by simp [DataW.weights, Try.underlying22]))
      rw [bytes_id] at h2
      unfold reachBytes at h2
      omega
  have e0' : cs0 = (N0.cells (.slice pa0 N0.parts.length pc0)).toArray := by rw [← e0, Array.toArray_toList]
  obtain ⟨s1, rfl, rfl, rfl, w1⟩ := open_string Try.underlying9 (hval 1 9 v1 rfl rfl) h1
  have e1 := str_data s1
  have hl1 : s1.data.toList.length ≤ 9223372036854775807 := by have := w1; rw [Array.length_toList]; exact this
  have hlt : ∀ x ∈ p0, x.block < W.heap.size := fun x hx => hW'.lt x (by simpa using hx)
  rw [e0']
  have LW := law_nodeChecks N0 pa0 pc0 s1.data.toList W wf0 id0 hb0
  rw [← e1] at LW
  refine LW.mono fun e W' ⟨he, hb⟩ => ?_
  rw [← e0']
  subst he
  refine ⟨_, rfl, [d0, _], [], p0, [], p0, [], by simpa using hW', ?_, ?_, ?_, hb.frame _, fun h => by cases h⟩
  · exact trodAll_cons_mk (shut_bool Try.underlying4 _) trodAll_mk0
  · have : DataW.TrodAll enc Try.prog W' 0 (fun b => decide (b < W.heap.size)) true _ _ _ _ := (trodAll_cons_mk (Below.trod laidOut (by kernel_rfl) (of_decide_eq_true (by kernel_rfl)) h0k hb (fun x hx => hlt x (by simp [hx]))) (trodAll_cons_mk (shut_string Try.underlying9 w1) trodAll_mk0))
    simp only [List.append_nil, List.nil_append] at this
    exact this
  · rfl

theorem proved : Rows.NodeChecksSaid :=
  OpenClaim.holds_of_wide 3 Try.f3 rfl rfl rfl rfl rfl rfl rfl ⟨rfl, rfl, rfl, rfl, rfl⟩ rfl rfl rfl rfl rfl (by kernel_rfl) Try.func3 (by kernel_rfl)
    (of_decide_eq_true (by kernel_rfl)) (by unfold Func.isWrapper; first | (rw [if_pos (by decide +kernel)]; kernel_rfl) | (rw [if_neg (by decide +kernel)]; exact ⟨rfl, rfl⟩))
    (fun os started H enc _ => lifted os started H enc)
end nodeChecks
end Go.Proofs.Ytjgmhaajcglpmaa
