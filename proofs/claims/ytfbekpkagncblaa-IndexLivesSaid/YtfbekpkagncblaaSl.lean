/- Rows of named files of one's own, sorted by their names. -/
import Derived.Test.YtfbekpkagncblaaLa
import Derived.Test.YtfbekpkagncblaaShelf
namespace Go.Proofs.Ytfbekpkagncblaa
open Go.RowKit Go.Shelf Go.Lib Go.Sort

theorem nm_agg (w : World) : (isAgg 29).run Try.prog w = .ok true w := by kernel_rfl
theorem nm_size (w : World) : (Go.sizeOf 29).run Try.prog w = .ok 3 w := by kernel_rfl
/-- A value of one cell. -/
def oneV (v : Value) : Value := if v.oneCell' then v else .slice none 0 0
theorem oneV_one (v : Value) : (oneV v).oneCell' = true := by
  unfold oneV
  split
  · assumption
  · rfl
theorem oneV_self {v : Value} (h : v.oneCell' = true) : oneV v = v := by rw [oneV, if_pos h]
def encLv (d : LvE) : List Value := nmCells d.1 (oneV d.2)
theorem encLv_length (d : LvE) : (encLv d).length = 3 := rfl
theorem encLv_one (d : LvE) : ∀ v ∈ encLv d, v.oneCell' = true := fun v hv => by
  simp only [encLv, nmCells, List.mem_cons, List.not_mem_nil, or_false] at hv
  rcases hv with rfl | rfl | rfl
  · rfl
  · rfl
  · exact oneV_one _
theorem lv_enc {D : List LvE} (h : ∀ d ∈ D, d.2.oneCell' = true) : lvCells D = D.flatMap encLv := by
  induction D with
  | nil => rfl
  | cons d D ih =>
    have h1 := ih (fun x hx => h x (List.mem_cons_of_mem _ hx))
    rw [lvCells, List.flatMap_cons, List.flatMap_cons, encLv, oneV_self (h d List.mem_cons_self)]
    exact congrArg _ h1
theorem enc_get : ∀ (D : List LvE) (i r : Nat) (_ : i < D.length) (_ : r < 3), (D.flatMap encLv)[i * 3 + r]? = (encLv D[i]!)[r]?
  | d :: D, 0, r, _, hr => by
    rw [List.flatMap_cons, List.getElem?_append_left (by rw [encLv_length]; omega), Nat.zero_mul, Nat.zero_add]
    rfl
  | d :: D, i + 1, r, h, hr => by
    rw [List.flatMap_cons, List.getElem?_append_right (by rw [encLv_length]; omega), encLv_length, show (i + 1) * 3 + r - 3 = i * 3 + r by omega, enc_get D i r (by simpa using h) hr]
    rfl
theorem enc_length (D : List LvE) : (D.flatMap encLv).length = D.length * 3 := by
  induction D with
  | nil => rfl
  | cons d D ih => rw [List.flatMap_cons, List.length_append, ih, encLv_length, List.length_cons]; omega
theorem flat_enc (D : List LvE) : flatK encLv 3 D.toArray = (D.flatMap encLv).toArray := by
  refine ext_get! (by simp only [size_flatK, List.size_toArray, enc_length]) fun t ht => ?_
  have ht' : t < D.length * 3 := by simpa using ht
  rw [get_flatK _ _ _ t (by simpa using ht')]
  have h := enc_get D (t / 3) (t % 3) (by omega) (Nat.mod_lt _ (by decide))
  rw [show t / 3 * 3 + t % 3 = t by omega] at h
  simp only [List.getElem!_toArray, List.getElem!_eq_getElem?_getD, h] at *
theorem holds_id {w : World} {g : Nat} {cur : Array Value} {e : TypeId} {xs : List Value} (hb : w.heap[g]? = some (.cells cur e (0, 0))) (ht : cur.toList.take xs.length = xs) : Holds id w g 0 xs.toArray := by
  intro j hj
  have hj' : j < xs.length := by simpa using hj
  refine ⟨?_, by simp [World.frozen?, hb]⟩
  have h1 : (cur.toList.take xs.length)[j]? = xs[j]? := by rw [ht]
  rw [List.getElem?_take_of_lt hj'] at h1
  simp only [World.cell?, hb, Nat.zero_add]
  simp only [Option.isSome_none, Bool.false_eq_true, if_false]
  rw [← Array.getElem?_toList, h1]
  simp [hj']
theorem heap_put {w : World} {g n : Nat} {os : Array Obj} {cur : Array Value} {e : TypeId} {fr : Nat × Nat} (d : Array Value) (hb : w.heap[g]? = some (.cells cur e fr)) :
    (grow (putRow id (Sort.ahead w n) g 0 d) os).heap[g]? = some (.cells (putCells id 0 d cur) e fr) := by
  have hg : g < w.heap.size := (Array.getElem?_eq_some_iff.1 hb).1
  rw [heap_grow_old _ _ (by simpa using hg)]
  simp [putRow, mapBlock, Sort.ahead, Array.getElem?_modify, hb, onCells]
theorem grown_put {w : World} {g n : Nat} {os : Array Obj} (d : Array Value) : w.grownBy (grow (putRow id (Sort.ahead w n) g 0 d) os) (some g) := by
  refine ⟨rfl, rfl, rfl, by simp, fun k hk hne => ?_⟩
  rw [heap_grow_old _ _ (by simpa using hk)]
  have : g ≠ k := fun e => hne (by rw [e])
  simp [putRow, mapBlock, Sort.ahead, Array.getElem?_modify, this]
theorem take_put (cur : Array Value) (ts : List Value) (h : ts.length ≤ cur.size) : (putCells id 0 ts.toArray cur).toList.take ts.length = ts := by
  apply List.ext_getElem?
  intro j
  by_cases hj : j < ts.length
  · rw [List.getElem?_take_of_lt hj, Array.getElem?_toList]
    simp [putCells, hj, show j < cur.size by omega]
  · rw [List.getElem?_take_eq_none (by omega), List.getElem?_eq_none (by omega)]
/-- By the names. -/
def byNm (x y : LvE) : Int := Lib.compareBytes x.1 y.1
set_option maxRecDepth 100000 in
theorem live1_any (n m : List UInt8) (v u : Value) (W : World) : Calls Try.prog 9 #[.agg #[.string (str n), .slice none 0 0, v], .agg #[.string (str m), .slice none 0 0, u]] W fun e w' => e = .returned (.int .i64 (Lib.compareBytes n m)) ∧ ∃ q os', w' = grow (W.drewN q) os' := by
  have hcon := fun W' => Try.strings_Compare (str n) (str m) W'
  rw [show (str n).data.toList = n by simp [str], show (str m).data.toList = m by simp [str]] at hcon
  generalize Lib.compareBytes n m = r at hcon ⊢
  go_enter Try.func9, Try.ntmps9
  go_wp2_with fail
  with_reducible refine (hcon _).mono ?_
  clear hcon
  rintro e w' ⟨rfl, rfl⟩
  go_wp2_with fail
  go_ret
  exact ⟨rfl, 0, _, by rw [alloc_eq_grow, alloc_eq_grow, grow_grow]; rfl⟩
theorem byNm_lt (x y : LvE) : ltOf byNm x y = Op.bytesLess x.1 y.1 := by unfold ltOf byNm; exact cmp_less x.1 y.1
theorem byNm_order : SWO (ltOf byNm) where
  irrefl x := by rw [byNm_lt]; exact less_irr x.1
  trans x y z h1 h2 := by rw [byNm_lt] at *; exact less_trans _ _ _ h1 h2
  ntrans x y z h1 h2 := by rw [byNm_lt] at *; exact less_ntrans _ _ _ h1 h2
theorem ins_none (fv : Value) (w : World) : Calls Try.prog 17 #[.slice none 0 0, .int .i64 0, .int .i64 0, fv] w fun e w' => e = .returned (.tuple #[]) ∧ w' = w := by
  go_enter Try.func17, Try.ntmps17
  go_wp2_with fail
  refine wp_loop_rounds 1 ?_
  rw [rounds_succ]
  go_wp2_with fail
  go_end0
  exact ⟨rfl, rfl⟩
set_option maxRecDepth 100000 in
set_option maxHeartbeats 2000000 in
theorem pdq_none (lim : Int) (fv : Value) (w : World) : Calls Try.prog 13 #[.slice none 0 0, .int .i64 0, .int .i64 0, .int .i64 lim, fv] w fun e w' => e = .returned (.tuple #[]) ∧ w' = w := by
  have hi := fun W => ins_none fv W
  go_enter Try.func13, Try.ntmps13
  go_wp2_with fail
  refine wp_loop_rounds 1 ?_
  rw [rounds_succ]
  go_wp2_with fail
  with_reducible refine (hi _).mono ?_
  rintro e w' ⟨rfl, rfl⟩
  go_wp2_with fail
  (try simp only [Exit.inBlock, Exit.then]); refine bodyPost_ret (results_none rfl _ _ _) rfl ?_
  exact ⟨rfl, rfl⟩
set_option maxRecDepth 100000 in
theorem sort_none (fv : Value) (w : World) : Calls Try.prog 8 #[.slice none 0 0, fv] w fun e w' => e = .returned (.tuple #[]) ∧ w' = w := by
  have hp := fun lim W => pdq_none lim fv W
  have hl := fun W => Try.bits_Len 0 W (by omega) (by omega)
  go_enter Try.func8, Try.ntmps8
  go_wp2_with fail
  with_reducible refine (hl _).mono ?_
  rintro e w' ⟨rfl, rfl⟩
  go_wp2_with fail
  with_reducible refine (hp _ _).mono ?_
  rintro e w' ⟨rfl, rfl⟩
  go_wp2_with fail
  go_end0
  exact ⟨rfl, rfl⟩
/-- Whoever sorts them: the same files, by names. -/
theorem sort_any (base : Nat) (v : Value) (D : List LvE) (hD : ∀ d ∈ D, d.2.oneCell' = true) (w : World) (hrow : w.ownsRow base 29 3 v D.length (lvCells D)) (hl : D.length ≤ 1000000) :
    Calls Try.prog 8 #[v, .func (.func 9) #[] #[]] w fun e w' => e = .returned (.tuple #[]) ∧
      ∃ D' : List LvE, D'.Perm D ∧ (D'.Pairwise fun x y => Op.bytesLess y.1 x.1 = false) ∧ w'.ownsRow base 29 3 v D'.length (lvCells D') ∧ w.grownBy w' v.ownBlock := by
  rcases hrow.2 with ⟨rfl, h0⟩ | ⟨g, cap, cur, rfl, hba, hh, hn, hc, hs, ht⟩
  · obtain rfl : D = [] := List.eq_nil_of_length_eq_zero h0
    exact (sort_none _ w).mono fun e w' ⟨h1, h2⟩ => ⟨h1, [], List.Perm.refl _, List.Pairwise.nil, by rw [h2]; exact hrow, by rw [h2]; exact World.grownBy.refl _ _⟩
  · have eg : ∀ args w, (callFunc 9 args).run Try.prog w = .ok (.enter 9 args) w := enters_of Try.func9 (by kernel_rfl) rfl
    have hF : HoldsK encLv 3 w g 0 D.toArray := by
      unfold HoldsK
      rw [flat_enc, ← lv_enc hD]
      exact holds_id hh (by rw [lvCells_length]; exact ht)
    have hcmp : CmpLays Try.prog 9 #[] encLv 3 byNm g 0 D.toArray.size w := fun _ _ _ _ x y => live1_any x.1 y.1 (oneV x.2) (oneV y.2) _
    have hcon := AnyQ.slices_SortFunc Try.sortNm 3 nm_agg nm_size encLv encLv_length encLv_one byNm byNm_order 9 #[] g 0 cap D.toArray w eg hcmp hF (Array.getElem?_eq_some_iff.1 hh).1 (by simp; omega)
    change Calls Try.prog 8 _ _ _ at hcon
    refine hcon.mono ?_
    rintro e w' ⟨rfl, d', n, os, hp, hso, rfl⟩
    obtain ⟨D', rfl⟩ : ∃ D', d' = List.toArray D' := ⟨d'.toList, by simp⟩
    obtain ⟨p1, -, p3⟩ := hp
    have p1 : D'.length = D.length := by simpa using p1
    have p3 : D'.Perm D := by
      simp at p3
      rw [← p1, List.take_length] at p3
      exact p3
    have hD' : ∀ d ∈ D', d.2.oneCell' = true := fun d hd => hD d (p3.mem_iff.1 hd)
    have hsl : (lvCells D').length ≤ cur.size := by
      rw [lvCells_length, p1, hs]
      exact Nat.mul_le_mul_right 3 hn
    unfold sortWorldK putRowK
    rw [flat_enc, ← lv_enc hD']
    refine ⟨rfl, D', p3, ?_, ?_, grown_put _⟩
    · refine List.pairwise_iff_getElem.2 fun i j hi hj hij => ?_
      have h1 := hso i j (Nat.zero_le _) hij (by simp; omega)
      rw [byNm_lt] at h1
      simpa [hi, hj] using h1
    · refine ⟨lvCells_length D', Or.inr ⟨g, cap, _, by rw [p1], hba, heap_put _ hh, by omega, hc, by simp [putCells, hs], ?_⟩⟩
      have := take_put cur (lvCells D') hsl
      rw [lvCells_length] at this
      exact this
end Go.Proofs.Ytfbekpkagncblaa
