/- CipherFlows: for every key, number, place and bytes the law returns true, and its argument reads as before. No condition. -/
import Derived.Test.YtklbbeilbpcnoaaLfl
import Derived.Test.YtklbbeilbpcnoaaOpc
namespace Go.Proofs.Ytklbbeilbpcnoaa
open Go.RowKit Sha
section
open Go.RowKit Go.ChangeShapes Go.WideShapes Go.ChangeAt Go.Deep Go.Joins Go.ChangeMaps Sha
theorem open_bytes_all {H : Type} {enc : TypeId × Value → H} {W : World} {fuel : Nat} {cs : List Value} {x : DataW H × List MemPlace} (h : DataW.trod enc Try.prog W 0 (fun _ => true) true fuel 28 cs = some x) :
    ∃ (a : Option Addr) (c : Nat) (F : List UInt8), cs = [.slice a F.length c] ∧ F.length ≤ c ∧ (a = none → c = 0) ∧ bytesIn W a F := by
  rcases open_ints Try.underlying28 Try.underlying5 cells5 h with ⟨hcs, _⟩ | ⟨a, len, cap, zs, rfl, _, hl, hm, hz, hx, hcell, hw⟩
  · exact ⟨none, 0, [], hcs, Nat.le_refl _, fun _ => rfl, Or.inl rfl⟩
  · simp only [if_true] at hz
    have hlen : (toBytes (zs.take len)).length = len := by simp [toBytes]; omega
    refine ⟨some a, cap, toBytes (zs.take len), by rw [hlen], by omega, (fun h => by cases h), ?_⟩
    by_cases h0 : len = 0
    · left
      subst h0
      simp [toBytes]
    · obtain ⟨b, off, rfl, hc⟩ := ints_at hcell (by omega)
      right
      refine ⟨b, off, rfl, fun j hj => ?_⟩
      rw [hc j (by rw [hlen] at hj; omega), toBytes_get hw len j hj]
theorem open_pour_all {H : Type} {enc : TypeId × Value → H} {W : World} {b0 : Nat} {r : Reach} {v : Value} {d : DataW H} {ps : List MemPlace} (hv : Value.okWide Try.prog W r b0 45 v) (hd : DataW.Trod enc Try.prog W 0 (fun _ => true) true 45 v d ps) :
    ∃ (K N : List UInt8) (p : Int) (a : Option Addr) (c : Nat) (F : List UInt8), K.length = 32 ∧ N.length = 16 ∧ F.length ≤ c ∧ (a = none → c = 0) ∧ bytesIn W a F ∧ v = .agg (pourCells K N p (.slice a F.length c)).toArray := by
  simp only [Value.okWide, Try.underlying45] at hv
  obtain ⟨cs, rfl, -, -⟩ := hv
  obtain ⟨fuel, hf⟩ := hd
  have hf : DataW.trod enc Try.prog W 0 (fun _ => true) true fuel 45 cs.toList = some (d, ps) := by simpa [Value.cells] using hf
  obtain ⟨xs, m, rfl, hx, hl, hxl, ha⟩ := DataW.trod_struct Try.underlying45 hf
  have hxl : xs.length = 4 := hxl
  have h50 : Try.prog.cellsOf 45 = 50 := by kernel_rfl
  have h28 : Try.prog.cellsOf 22 = 32 := by kernel_rfl
  have h16 : Try.prog.cellsOf 23 = 16 := by kernel_rfl
  have h22 : Try.prog.cellsOf 28 = 1 := by kernel_rfl
  have h3 : Try.prog.cellsOf 3 = 1 := by kernel_rfl
  rw [h50] at hl
  have f0 := ha 0 _ rfl
  have f1 := ha 1 _ rfl
  have f2 := ha 2 _ rfl
  have f3 := ha 3 _ rfl
  rw [List.getElem?_eq_getElem (by omega)] at f0 f1 f2 f3
  change DataW.trod _ _ _ _ _ _ _ _ ((cs.toList.drop 0).take (Try.prog.cellsOf 22)) = _ at f0
  change DataW.trod _ _ _ _ _ _ _ _ ((cs.toList.drop 32).take (Try.prog.cellsOf 23)) = _ at f1
  change DataW.trod _ _ _ _ _ _ _ 3 ((cs.toList.drop 48).take (Try.prog.cellsOf 3)) = _ at f2
  change DataW.trod _ _ _ _ _ _ _ _ ((cs.toList.drop 49).take (Try.prog.cellsOf 28)) = _ at f3
  rw [h28, List.drop_zero] at f0
  rw [h16] at f1
  rw [h3] at f2
  rw [h22] at f3
  obtain ⟨K, hK, e0⟩ := open_cells28 f0
  obtain ⟨N, hN, e1⟩ := open_cells16 f1
  obtain ⟨p, e2, -, w2⟩ := DataW.trod_int Try.underlying3 f2
  obtain ⟨a, c, F, e3, hfc, hac, hin⟩ := open_bytes_all f3
  refine ⟨K, N, p, a, c, F, hK, hN, hfc, hac, hin, ?_⟩
  have key : cs.toList = pourCells K N p (.slice a F.length c) := by
    unfold pourCells
    rw [← e0, ← e1, show [Value.int .i64 p, .slice a F.length c] = [Value.int .i64 p] ++ [.slice a F.length c] from rfl, ← e2, ← e3]
    generalize cs.toList = l at hl
    rw [show (l.drop 49).take 1 = l.drop 49 from List.take_of_length_le (by rw [List.length_drop]; omega)]
    rw [show l.drop 49 = (l.drop 48).drop 1 by rw [List.drop_drop], List.take_append_drop, show l.drop 48 = (l.drop 32).drop 16 by rw [List.drop_drop], List.take_append_drop, List.take_append_drop]
  rw [← key, Array.toArray_toList]
end
namespace cipherFlows
open Go.ChangeShapes Go.WideShapes Go.ChangeAt Go.RowKit Go.Joins Go.Deep
set_option maxRecDepth 100000 in
theorem lifted (os : Os) (started : os.Started) (H : Type) (enc : TypeId × Value → H) :
    ReturnsInHanded {} Try.checked os 5 .any (Rows.cipherFlowsSpec.pre6 enc Try.prog Try.f5 Rows.cipherFlowsRow.domain false) (Rows.cipherFlowsSpec.post enc Try.prog Try.f5 false true false false) := by
  refine returnsInHanded_of_change (C := Try.checked) own started (by kernel_rfl) Try.func5
    (ChangeSpec.witness6 (enc := enc) (C := Try.checked) false ⟨#[], #[.agg (zeros 32 ++ (zeros 16 ++ [Value.int .i64 0, Value.slice none 0 0])).toArray], []⟩ 8 (by kernel_rfl) (by kernel_rfl) (by kernel_rfl) (by kernel_rfl)) ?_
  intro W base args ds gs before hval0 hW hcnd _
  have hval : ∀ (j : Nat) t v, Try.f5.params[j]? = some t → args[j]? = some v → Value.okWide Try.prog W .any base t v := hval0
  have hW' := hW
  obtain ⟨p, q, hA0, hV, rfl, hfz, hnd⟩ := hW
  have hA : DataW.TrodAll enc Try.prog W 0 (fun _ => true) true Try.f5.params.toList args.toList ds p := hA0
  rw [Try.params5] at hA hval
  obtain ⟨v0, vs0, d0, ds0, p0, q0, hargs, rfl, rfl, h0, r0⟩ := trodAll_cons hA
  obtain ⟨rfl, rfl, rfl⟩ := trodAll_nil r0
  obtain rfl : args = #[v0] := by cases args; simp_all
  obtain ⟨rfl, rfl⟩ := trodVars_none hV
  have h0k := h0
  obtain ⟨K, N, p, pa, pc, PF, hK, hN, hpf, hac, hpin, e0⟩ := open_pour_all (hval 0 45 v0 rfl rfl) h0
  clear hA0 hval0
  simp only [List.append_nil, List.nil_append] at hW'
  have hlt : ∀ x ∈ p0, x.block < W.heap.size := fun x hx => hW'.lt x (by simpa using hx)
  rw [e0]
  refine (law_cipherFlows K N p pa pc PF W hK hN hpf hac hpin).mono fun e W' ⟨he, hb⟩ => ?_
  rw [← e0]
  subst he
  refine ⟨_, rfl, [d0], [], p0, [], p0, [], by simpa using hW', ?_, ?_, ?_, hb.frame _, fun h => by cases h⟩
  · exact trodAll_cons_mk (shut_bool Try.underlying4 _) trodAll_mk0
  · have : DataW.TrodAll enc Try.prog W' 0 (fun b => decide (b < W.heap.size)) true _ _ _ _ := (trodAll_cons_mk (Below.trod laidOut (by kernel_rfl) (of_decide_eq_true (by kernel_rfl)) h0k hb (fun x hx => hlt x (by simp [hx]))) trodAll_mk0)
    simp only [List.append_nil, List.nil_append] at this
    exact this
  · rfl

theorem proved : Rows.CipherFlowsSaid :=
  OpenClaim.holds_of_wide 5 Try.f5 rfl rfl rfl rfl rfl rfl rfl ⟨rfl, rfl, rfl, rfl, rfl⟩ rfl rfl rfl rfl rfl (by kernel_rfl) Try.func5 (by kernel_rfl)
    (of_decide_eq_true (by kernel_rfl)) (by unfold Func.isWrapper; first | (rw [if_pos (by decide +kernel)]; kernel_rfl) | (rw [if_neg (by decide +kernel)]; exact ⟨rfl, rfl⟩))
    (fun os started H enc _ => lifted os started H enc)
end cipherFlows
end Go.Proofs.Ytklbbeilbpcnoaa
