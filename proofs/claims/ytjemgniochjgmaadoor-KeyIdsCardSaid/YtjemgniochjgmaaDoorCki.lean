/- KeyIds, its row and its card: for every ring's key that names, every kind, every slice of bytes and every place, the law returns true, and its argument reads as before. Conditions: the two package-level tables are as the program's text lays them (the card ties that). -/
import Derived.Test.YtjemgniochjgmaaDoorLaid
import Derived.Test.YtjemgniochjgmaaDoorLki
import Derived.ChangeMaps5
namespace Go.Proofs.YtjemgniochjgmaaDoor
open Go.RowKit
section
open Go.RowKit Go.ChangeShapes Go.WideShapes Go.ChangeAt Go.Deep Go.Joins Go.ChangeMaps Sha
/-- A row of cells that are bytes, as bytes. -/
theorem cells_bytes : ∀ (cs : List Value), (∀ i, i < cs.length → ∃ b : UInt8, cs[i]? = some (.int .u8 (V b))) → ∃ l : List UInt8, cs = byteCells l
  | [], _ => ⟨[], rfl⟩
  | c :: cs, h => by
    obtain ⟨l, hl⟩ := cells_bytes cs (fun i hi => by simpa using h (i + 1) (by simpa using hi))
    obtain ⟨b, hb⟩ := h 0 (by simp)
    have hb : c = .int .u8 (V b) := by simpa using hb
    exact ⟨b :: l, by rw [hb, hl]; rfl⟩
theorem byte_of {n : Int} (hw : (Lit.int .u8 n).wf = true) : n = V (UInt8.ofNat n.toNat) := by
  have hb := bounds_u8 hw
  unfold V
  rw [UInt8.toNat_ofNat']
  omega
theorem open_cells28 {H : Type} {enc : TypeId × Value → H} {W : World} {base : Nat} {sp : Nat → Bool} {held : Bool} {fuel : Nat} {cs : List Value} {x : DataW H × List MemPlace} (hf : DataW.trod enc Tryd.prog W base sp held fuel 23 cs = some x) :
    ∃ F : List UInt8, F.length = 32 ∧ cs = byteCells F := by
  obtain ⟨xs, m, rfl, hx, hl, hxl, ha⟩ := DataW.trod_array Tryd.underlying23 hf
  have h28 : Tryd.prog.cellsOf 23 = 32 := by kernel_rfl
  have h5 : Tryd.prog.cellsOf 5 = 1 := by kernel_rfl
  rw [h28] at hl
  obtain ⟨F, hF⟩ := cells_bytes cs (fun i hi => by
    have h1 := ha i (by omega)
    rw [h5, Nat.mul_one, List.getElem?_eq_getElem (by omega)] at h1
    obtain ⟨n, hn, -, hw⟩ := DataW.trod_int Tryd.underlying5 h1
    refine ⟨UInt8.ofNat n.toNat, ?_⟩
    have h2 : cs[i]? = some (.int .u8 n) := by
      have := congrArg (·[0]?) hn
      simpa [List.getElem?_take, List.getElem?_drop] using this
    rw [h2, ← byte_of hw])
  exact ⟨F, by have := congrArg List.length hF; rw [byteCells_length] at this; omega, hF⟩
theorem open_bytes_max {H : Type} {enc : TypeId × Value → H} {W : World} {fuel : Nat} {cs : List Value} {x : DataW H × List MemPlace} (h : DataW.trod enc Tryd.prog W 0 (fun _ => true) true fuel 22 cs = some x) :
    ∃ (a : Option Addr) (c : Nat) (F : List UInt8), cs = [.slice a F.length c] ∧ F.length ≤ c ∧ c ≤ 9223372036854775807 ∧ bytesIn W a F := by
  rcases open_ints Tryd.underlying22 Tryd.underlying5 cells5 h with ⟨hcs, _⟩ | ⟨a, len, cap, zs, rfl, _, hl, hm, hz, hx, hcell, hw⟩
  · exact ⟨none, 0, [], hcs, Nat.le_refl _, by decide, Or.inl rfl⟩
  · simp only [if_true] at hz
    have hlen : (toBytes (zs.take len)).length = len := by simp [toBytes]; omega
    refine ⟨some a, cap, toBytes (zs.take len), by rw [hlen], by omega, by unfold maxLen at hm; omega, ?_⟩
    by_cases h0 : len = 0
    · left
      subst h0
      simp [toBytes]
    · obtain ⟨b, off, rfl, hc⟩ := ints_at hcell (by omega)
      right
      refine ⟨b, off, rfl, fun j hj => ?_⟩
      rw [hc j (by rw [hlen] at hj; omega), toBytes_get hw len j hj]
theorem open_tag {H : Type} {enc : TypeId × Value → H} {W : World} {b0 : Nat} {r : Reach} {v : Value} {d : DataW H} {ps : List MemPlace} (hv : Value.okWide Tryd.prog W r b0 40 v) (hd : DataW.Trod enc Tryd.prog W 0 (fun _ => true) true 40 v d ps) :
    ∃ (N : List UInt8) (kd : UInt8) (a : Option Addr) (c : Nat) (F : List UInt8) (z : Int), N.length = 32 ∧ v = .agg (tagCells N kd (.slice a F.length c) z).toArray ∧ F.length ≤ c ∧ c ≤ 9223372036854775807 ∧ bytesIn W a F := by
  simp only [Value.okWide, Tryd.underlying40] at hv
  obtain ⟨cs, rfl, -, -⟩ := hv
  obtain ⟨fuel, hf⟩ := hd
  have hf : DataW.trod enc Tryd.prog W 0 (fun _ => true) true fuel 40 cs.toList = some (d, ps) := by simpa [Value.cells] using hf
  obtain ⟨xs, m, rfl, hx, hl, hxl, ha⟩ := DataW.trod_struct Tryd.underlying40 hf
  have hxl : xs.length = 4 := hxl
  have h40 : Tryd.prog.cellsOf 40 = 35 := by kernel_rfl
  have h28 : Tryd.prog.cellsOf 23 = 32 := by kernel_rfl
  have h5 : Tryd.prog.cellsOf 5 = 1 := by kernel_rfl
  have h22 : Tryd.prog.cellsOf 22 = 1 := by kernel_rfl
  have h3 : Tryd.prog.cellsOf 3 = 1 := by kernel_rfl
  rw [h40] at hl
  have f0 := ha 0 _ rfl
  have f1 := ha 1 _ rfl
  have f2 := ha 2 _ rfl
  have f3 := ha 3 _ rfl
  rw [List.getElem?_eq_getElem (by omega)] at f0 f1 f2 f3
  change DataW.trod _ _ _ _ _ _ _ _ ((cs.toList.drop 0).take (Tryd.prog.cellsOf 23)) = _ at f0
  change DataW.trod _ _ _ _ _ _ _ 5 ((cs.toList.drop 32).take (Tryd.prog.cellsOf 5)) = _ at f1
  change DataW.trod _ _ _ _ _ _ _ _ ((cs.toList.drop 33).take (Tryd.prog.cellsOf 22)) = _ at f2
  change DataW.trod _ _ _ _ _ _ _ 3 ((cs.toList.drop 34).take (Tryd.prog.cellsOf 3)) = _ at f3
  rw [h28, List.drop_zero] at f0
  rw [h5] at f1
  rw [h22] at f2
  rw [h3] at f3
  obtain ⟨N, hN, e0⟩ := open_cells28 f0
  obtain ⟨kd, e1, -, w1⟩ := DataW.trod_int Tryd.underlying5 f1
  obtain ⟨a, c, F, e2, hF, hc, hin⟩ := open_bytes_max f2
  obtain ⟨z, e3, -, w3⟩ := DataW.trod_int Tryd.underlying3 f3
  refine ⟨N, UInt8.ofNat kd.toNat, a, c, F, z, hN, ?_, hF, hc, hin⟩
  have key : cs.toList = tagCells N (UInt8.ofNat kd.toNat) (.slice a F.length c) z := by
    unfold tagCells
    rw [← e0, ← byte_of w1, show [Value.int .u8 kd, .slice a F.length c, .int .i64 z] = [Value.int .u8 kd] ++ ([.slice a F.length c] ++ [.int .i64 z]) from rfl, ← e1, ← e2, ← e3]
    generalize cs.toList = l at hl
    rw [show (l.drop 34).take 1 = l.drop 34 from List.take_of_length_le (by rw [List.length_drop]; omega)]
    rw [show l.drop 34 = (l.drop 33).drop 1 by rw [List.drop_drop], List.take_append_drop, show l.drop 33 = (l.drop 32).drop 1 by rw [List.drop_drop], List.take_append_drop, List.take_append_drop]
  rw [← key, Array.toArray_toList]
end
namespace lawKeyIds
open Go.RowKit Go.ChangeShapes Go.WideShapes Go.ChangeAt Go.Deep Go.Joins Go.ChangeMaps Sha

theorem laid_met (os : Os) : laidMet Tryd.prog Rows.keyIdsRow.laid ((laidWorld os).forCall (fun _ _ => 0) ⟨#[], #[.agg (zeros 32 ++ [Value.int .u8 0, Value.slice none 0 0, Value.int .i64 0]).toArray], []⟩).memory :=
  laidMet_of_run' 8 (by kernel_rfl) (by kernel_rfl)
theorem reads (os : Os) {H : Type} (enc : TypeId × Value → H) : ∃ places, DataW.whole enc Tryd.prog ((laidWorld os).forCall (fun _ _ => 0) ⟨#[], #[.agg (zeros 32 ++ [Value.int .u8 0, Value.slice none 0 0, Value.int .i64 0]).toArray], []⟩).memory Tryd.f4.params.toList Rows.keyIdsSpec.vars false (#[.agg (zeros 32 ++ [Value.int .u8 0, Value.slice none 0 0, Value.int .i64 0]).toArray] : Array Value).toList 8 = some ([.agg [.agg (List.replicate 32 (.lit (.int .u8 0))), .lit (.int .u8 0), .nil, .lit (.int .i64 0)]], [], places) :=
  ⟨[], by kernel_rfl⟩

theorem contract (H : Type) (enc : TypeId × Value → H) (W : World) (base : Nat) (args : Array Value) (ds gs : List (DataW H)) (before : List MemPlace)
    (hval : ∀ (j : Nat) t v, Tryd.f4.params[j]? = some t → args[j]? = some v → Value.okWide Tryd.prog W .any base t v)
    (hW : DataW.Whole enc Tryd.prog Tryd.f4.params.toList Rows.keyIdsSpec.vars false W args.toList ds gs before)
    (hsz : (DataW.weightsEach Tryd.prog (Tryd.f4.params.toList ++ []) (ds ++ gs)).all (· ≤ reachBytes) = true) (hL : laidMetH Tryd.prog Rows.keyIdsRow.laid W) :
    Calls Tryd.prog 4 args W fun e W' => ∃ v, e = .returned v ∧ Rows.keyIdsSpec.post enc Tryd.prog Tryd.f4 false true false false W args v W' := by
  have hW' := hW
  obtain ⟨p, q, hA0, hV, rfl, hfz, hnd⟩ := hW
  have hA : DataW.TrodAll enc Tryd.prog W 0 (fun _ => true) true Tryd.f4.params.toList args.toList ds p := hA0
  rw [Tryd.params4] at hA hval hsz
  obtain ⟨v0, vs0, d0, ds0, p0, q0, hargs, rfl, rfl, h0, r0⟩ := trodAll_cons hA
  obtain ⟨rfl, rfl, rfl⟩ := trodAll_nil r0
  obtain rfl : args = #[v0] := by cases args; simp_all
  obtain ⟨rfl, rfl⟩ := trodVars_none hV
  clear hA0
  simp only [List.append_nil] at hW' hsz
  have h0k := h0
  obtain ⟨N, kd, a, c, F, z, hN, e0, hF, hc, hin⟩ := open_tag (hval 0 40 v0 rfl rfl) h0
  have hlt : ∀ x ∈ p0, x.block < W.heap.size := fun x hx => hW'.lt x (by simpa using hx)
  rw [e0]
  refine (law_keyIds N kd a c F z W hN hF hc hin (tables_of_laid hL)).mono fun e W' ⟨he, hb⟩ => ?_
  rw [← e0]
  subst he
  refine ⟨_, rfl, [d0], [], p0, [], p0, [], by simpa using hW', ?_, ?_, ?_, hb.frame _, fun h => by cases h⟩
  · exact trodAll_cons_mk (shut_bool Tryd.underlying4 _) trodAll_mk0
  · have : DataW.TrodAll enc Tryd.prog W' 0 (fun b => decide (b < W.heap.size)) true _ _ _ _ := (trodAll_cons_mk (Below.trod laidOut (by kernel_rfl) (of_decide_eq_true (by kernel_rfl)) h0k hb (fun x hx => hlt x (by simp [hx]))) trodAll_mk0)
    simp only [List.append_nil] at this
    exact this
  · rfl

set_option maxRecDepth 100000 in
theorem lifted (os : Os) (started : os.Started) (H : Type) (enc : TypeId × Value → H) (F : Stop.Interp) :
    ReturnsInHanded {} Tryd.checked os 4 .any ((OpenSpec.ofChange Rows.keyIdsSpec).preRow enc Tryd.prog Tryd.f4 Rows.keyIdsRow.domain false Rows.keyIdsRow.laid) (((OpenSpec.ofChange Rows.keyIdsSpec).at F).post enc Tryd.prog Tryd.f4 false true false false) := by
  obtain ⟨places, hx⟩ := reads os enc
  refine returnsInHanded_of_row (C := Tryd.checked) (s := OpenSpec.ofChange Rows.keyIdsSpec) own started (by kernel_rfl) Tryd.func4
    (witness_row_at (enc := enc) (C := Tryd.checked) false (laidWorld os) #[.agg (zeros 32 ++ [Value.int .u8 0, Value.slice none 0 0, Value.int .i64 0]).toArray] rfl (by kernel_rfl) (by kernel_rfl) (by kernel_rfl)
      (OpenSpec.preRow_of_cond 8 hx (by kernel_rfl) (fun k hk => by cases hk) (by kernel_rfl) (laid_met os))) ?_
  intro W base args ds gs before hval hW _ _ hsz hL _ _
  exact contract H enc W base args ds gs before hval hW hsz hL

theorem said : Rows.KeyIdsSaid :=
  OpenClaim.holds_of_cond 4 Tryd.f4 rfl rfl rfl rfl rfl rfl rfl ⟨rfl, rfl, rfl, rfl, rfl⟩ rfl rfl rfl rfl rfl (by kernel_rfl) Tryd.func4 (by kernel_rfl)
    (of_decide_eq_true (by kernel_rfl)) (by unfold Func.isWrapper; first | (rw [if_pos (by decide +kernel)]; kernel_rfl) | (rw [if_neg (by decide +kernel)]; exact ⟨rfl, rfl⟩))
    (fun os started H enc _ F => by rw [OpenClaim.pre_eq_preRow]; exact lifted os started H enc F)

theorem plain (f : FuncId) (fn : Func) (hf : Tryd.pinned.checked.prog.funcNamed "hypogeum/hypogeumlaw11.KeyIds" = some f) (hfn : Tryd.pinned.checked.prog.funcs[f]? = some fn) :
    false = Tryd.pinned.checked.prog.looks [] ∧ ∀ (j : Nat) t, fn.params[j]? = some t → Tryd.pinned.checked.prog.wantsStandIn t = false := by
  obtain rfl : f = 4 := Option.some.inj ((show Tryd.prog.funcNamed "hypogeum/hypogeumlaw11.KeyIds" = some 4 by kernel_rfl).symm.trans hf) |>.symm
  obtain rfl : fn = Tryd.f4 := (Option.some.inj (Tryd.func4.symm.trans hfn)).symm
  refine ⟨by kernel_rfl, fun j t ht => ?_⟩
  rw [Tryd.params4] at ht
  have hmem := Array.mem_of_getElem? ht
  simp at hmem
  subst hmem
  exact (show Tryd.prog.wantsStandIn 40 = false by kernel_rfl)

/-- The card. -/
theorem card : Rows.KeyIdsCardSaid :=
  Claim7.holds_tied_plain_at .later [] _ _ _ _ said (fun _ h => by cases h) (by kernel_rfl) (fun _ h => by cases h) keyIds_row_tie rfl ⟨rfl, rfl⟩ (by kernel_rfl) rfl plain (by kernel_rfl)
end lawKeyIds
end Go.Proofs.YtjemgniochjgmaaDoor
