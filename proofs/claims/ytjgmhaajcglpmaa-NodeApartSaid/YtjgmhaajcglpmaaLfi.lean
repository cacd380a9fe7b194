/- The law NodeFinds: its walk. -/
import Derived.Test.YtjgmhaajcglpmaaNid
namespace Go.Proofs.Ytjgmhaajcglpmaa
open Go.RowKit

theorem tree_range {w : World} {b o : Nat} {n : Nd} {pv : Value} (h : w.rangeAt b o (n.cells pv)) : w.rangeAt b (o + 7) (bvals n.tree) := fun j v hj => by
  have := h (7 + j) v (by
    rw [Nd.cells, List.getElem?_append_right (by show 7 ≤ 7 + j; omega)]
    show (bvals n.tree)[7 + j - 7]? = _
    rw [Nat.add_sub_cancel_left]
    exact hj)
  rw [Nat.add_assoc]
  exact this
theorem parts_get (M : List Nd) (t : Nat) (ht : t < M.length) (hk : M[t].kind = 0) (s : Nat) (hs : s < M[t].parts.length) : ∃ h : (partsL (M.take t)).length + s < (partsL M).length, (partsL M)[(partsL (M.take t)).length + s] = M[t].parts[s] := by
  have e : partsL M = partsL (M.take t) ++ (M[t].parts ++ partsL (M.drop (t + 1))) := by
    have e1 : partsL M = partsL (M.take (t + 1)) ++ partsL (M.drop (t + 1)) := by
      unfold partsL
      rw [← List.flatMap_append, List.take_append_drop]
    rw [e1, partsL_take M t ht, if_pos hk, List.append_assoc]
  have g : (partsL M)[(partsL (M.take t)).length + s]? = some M[t].parts[s] := by
    rw [e, List.getElem?_append_right (by omega), Nat.add_sub_cancel_left, List.getElem?_append_left hs, List.getElem?_eq_getElem hs]
  exact List.getElem?_eq_some_iff.1 g
theorem trees_get (M : List Nd) (t : Nat) (ht : t < M.length) (hk : M[t].kind = 1) : ∃ h : (treesL (M.take t)).length < (treesL M).length, (treesL M)[(treesL (M.take t)).length] = M[t].tree := by
  have e : treesL M = treesL (M.take t) ++ ([M[t].tree] ++ treesL (M.drop (t + 1))) := by
    have e1 : treesL M = treesL (M.take (t + 1)) ++ treesL (M.drop (t + 1)) := by
      unfold treesL
      rw [← List.flatMap_append, List.take_append_drop]
    rw [e1, treesL_take M t ht, if_pos hk, List.append_assoc]
  have g : (treesL M)[(treesL (M.take t)).length]? = some M[t].tree := by
    rw [e, List.getElem?_append_right (by omega), Nat.sub_self]
    rfl
  exact List.getElem?_eq_some_iff.1 g
theorem run_part (b o n c i i1 : Nat) (h1 : i1 = i + 1) (hi : i < n) (hc : n ≤ c) (w : World) : (Instr.slice 29 (.slice (some ⟨b, o, none⟩) n c) (some (.int .i64 (i : Int))) (some (.int .i64 (i1 : Int))) none).run Try.prog w = .ok (.slice (some ⟨b, o + i * 39, none⟩) 1 (c - i)) w := by
  have hu : Try.prog.underlying 29 = some (.slice (Try.prog.elem 29)) := by kernel_rfl
  have he : Try.prog.elem 29 = 26 := by kernel_rfl
  rw [run_slice_lh w 29 _ n c hu .i64 .i64 (i : Int) (i1 : Int) (by omega) (by omega) (by omega), he, sz_rn]
  show Result.ok (sliced _ (i : Int).toNat (i1 : Int).toNat c 39) w = _
  rw [Int.toNat_natCast, Int.toNat_natCast]
  unfold sliced
  rw [if_neg (by omega), Option.map_some, Addr.add_lit, show i1 - i = 1 by omega]
theorem rowN.one {w : World} {b o : Nat} {M : List Nd} (h : rowN w (some ⟨b, o, none⟩) M) (K : Nat) (hK : K < M.length) : rowN w (some ⟨b, o + K * 39, none⟩) [M[K]] := by
  obtain ⟨b', o', e, hn⟩ := h.at K hK
  cases e
  refine Or.inr ⟨b, o + K * 39, rfl, fun i hi => ?_⟩
  obtain rfl : i = 0 := by simp at hi; exact hi
  simpa using hn
set_option maxRecDepth 100000 in
set_option maxHeartbeats 4000000 in
theorem law_nodeFinds (a : Option Addr) (c : Nat) (L : List Nd) (x : List UInt8) (w : World) (hlc : L.length ≤ c) (hc : c ≤ 9223372036854775807) (h : rowN w a L) :
    Calls Try.prog 7 #[.slice a L.length c, .string (str x)] w fun e w' => e = .returned (.bool true) ∧ Below w.heap.size w w' := by
  have PF := Lib.hid (few_any a c L w (by omega) h)
  have HFL := few_len2 L
  have HFM : Hid (∀ n ∈ fewL L, n.parts.length ≤ 300) := Lib.hid (fun n hn => few_mem2 hn)
  clear h
  go_enter Try.func7, Try.ntmps7
  go_wp2_with fail
  with_reducible refine PF.out.mono ?_
  rintro e w1 ⟨⟨v1, rfl, hv1⟩, b1⟩
  have B1 := Lib.hid b1
  clear b1 PF
  generalize fewL L = M at *
  have HWT : Hid (weight M ≤ 20000) := Lib.hid (by have := weight_le2 M HFM.out; omega)
  have HP32 : Hid (∀ n ∈ M, n.parts.length * 32 ≤ 140737488355328) := Lib.hid (fun n hn => by have := HFM.out n hn; omega)
  obtain ⟨a1, c1, rfl, hlc1, hcc1, hz1, hr1⟩ := hv1.row
  have R1 := Lib.hid hr1
  have PT := Lib.hid (to_any a1 c1 M w1 (by omega) HP32.out hr1)
  clear hv1 hr1
  go_wp2_with fail
  with_reducible refine PT.out.mono ?_
  rintro e w2 ⟨⟨v2, rfl, hv2⟩, b2⟩
  have B2 := Lib.hid (B1.out.trans (b2.mono B1.out.size))
  have R2 := Lib.hid (R1.out.below b2 (Nat.le_refl _))
  obtain ⟨a2, c2, rfl, hlc2, hcc2, hz2, hr2⟩ := hv2.row
  have PD := Lib.hid (find_any x a2 c2 M w2 (by omega) HP32.out hr2)
  clear b2 PT B1 R1 hv2 hr2
  have hz := zero_nd
  have HZ := Lib.hid (zeroNd.cells_length (.slice none 0 0) rfl)
  have HZO := Lib.hid (cells_one zeroNd (.slice none 0 0) rfl)
  generalize zeroNd.cells (.slice none 0 0) = zs at *
  obtain ⟨K, hK⟩ : ∃ K, K = firstAt x M := ⟨_, rfl⟩
  rw [← hK] at PD
  have HK := Lib.hid hK
  clear hK
  go_wp2_with fail
  with_reducible refine PD.out.mono ?_
  rintro e w3 ⟨hd, b3⟩
  have B3 := Lib.hid (B2.out.trans (b3.mono B2.out.size))
  have R3 := Lib.hid (R2.out.below b3 (Nat.le_refl _))
  clear b3 PD B2 R2
  rcases hd with ⟨hKl, v, rfl, hiv, hwf⟩ | ⟨hKl, rfl⟩
  · obtain ⟨va, vc, rfl⟩ := hiv.form
    obtain ⟨n, hn⟩ : ∃ n, n = M[K] := ⟨_, rfl⟩
    rw [← hn] at hiv hwf
    rw [← hn]
    have HN := Lib.hid hn
    have IV := Lib.hid hiv
    have WF := Lib.hid hwf
    clear hn hiv hwf
    have HCL := Lib.hid (n.cells_length (.slice va n.parts.length vc) WF.out.tree)
    have HCO := Lib.hid (cells_one n (.slice va n.parts.length vc) rfl)
    obtain ⟨cs, hcs⟩ : ∃ cs, cs = n.cells (.slice va n.parts.length vc) := ⟨_, rfl⟩
    rw [← hcs] at HCL HCO
    rw [← hcs]
    have HCS := Lib.hid hcs
    clear hcs
    go_wp2_with (refine store_new 33 info_nd rfl _ _ rfl cs zs rfl rfl HCL.out HZ.out HCO.out ?_)
    intro w5 h1 h2
    have HB5 := Lib.hid h1.out
    have B5 := Lib.hid (B3.out.trans (h2.out.mono B3.out.size))
    have R5 := Lib.hid (R3.out.below h2.out (Nat.le_refl _))
    have IV5 := Lib.hid (IV.out.below h2.out (Nat.le_refl _))
    clear h1 h2 B3 R3 IV
    generalize w3.heap.size = g5 at *
    obtain ⟨b, o, e1, -⟩ := R5.out.at K hKl
    subst e1
    go_wp2_with fail
    go_loopw [7] (fun i wx => ∃ k : Nat, k ≤ M.length ∧ i = .int .i64 k ∧ Hid (K = k + firstAt x (M.drop k)) ∧ w5 = wx) (fun i _ => M.length - (intOf i).toNat)
    case atStart => exact ⟨0, Nat.zero_le _, rfl, Lib.hid (by rw [HK.out]; simp), rfl⟩
    case round =>
      obtain ⟨k, hk, rfl, HE, rfl⟩ := hrel
      have pk : 0 ≤ (k : Int) := by omega
      have hkl : k < M.length := by
        by_cases h : k < M.length
        · exact h
        · have := HE.out
          omega
      have qk : (k : Int) < (M.length : Int) := by omega
      obtain ⟨b', o', e1, hnk⟩ := R5.out.at k hkl
      cases e1
      have c0 := hnk.name
      have HD := Lib.hid (firstAt_drop x M k hkl)
      obtain ⟨m, hm⟩ : ∃ m, m = M[k].name := ⟨_, rfl⟩
      rw [← hm] at c0 HD
      clear hm hnk
      obtain ⟨r, hr⟩ : ∃ r, r = (m == x) := ⟨_, rfl⟩
      have cmr : ((str m).toList == (str x).toList) = r := by rw [Lib.toList_data, Lib.toList_data, hr]; rfl
      have HRR := Lib.hid hr
      clear hr
      cases r with
      | false =>
        have HN2 : Hid (K = (k + 1) + firstAt x (M.drop (k + 1))) := Lib.hid (by rw [HE.out, HD.out, if_neg]; have := HRR.out; simpa using this.symm)
        go_wp2_with fail
        go_roundw
        case rel => exact ⟨k + 1, by omega, by go_num, HN2, trivial⟩
        case measure => simp [intOf]; omega
      | true =>
        obtain rfl : K = k := by
          rw [HE.out, HD.out, if_pos]
          have := HRR.out
          simpa using this.symm
        clear HE HD HRR
        obtain ⟨K1, hK1⟩ : ∃ K1, K1 = K + 1 := ⟨_, rfl⟩
        have ew : IntKind.i64.wrap ((K : Int) + 1) = (K1 : Int) := by rw [IntWalk.i64_in _ (by omega)]; omega
        have RP := run_part b o M.length c1 K K1 hK1 hKl hlc1
        have HK1 := Lib.hid hK1
        clear hK1
        go_upto_region 6 with fail
        refine wp_region_noPanic ?_
        refine wp_region_held_drew (S := fun x => Below w5.heap.size w5 x) (by kernel_rfl) (below_drewN (Below.refl w5.heap.size w5) 1) (fun hH => ?_)
        generalize w5.drew = y0 at *
        refine wpAnyH_ready (rs := [0]) (by kernel_rfl) (by simp) ?_
        refine AllReadyH.cons (o := { dst := some 38, op := Op.call { callee := Callee.value (Operand.func 11), args := #[], argTypes := #[] }, type := 4, pos := "law.go:121", after := #[], guard := none }) rfl (fun KK hKK => ?_) AllReadyH.nil
        go_simp
        with_reducible refine (nodes_any y0).mono ?_
        rintro e y1 ⟨rfl, kb⟩
        have hN := hH.trans (kb.mono hH.size)
        clear hH kb
        refine hKK.out _ _ hN (fun hH => ?_)
        clear hKK KK hN
        try simp only [Act.put, List.setIfInBounds_toArray, List.set_cons_zero, List.set_cons_succ]
        refine wpAnyH_take (i := 1) (oi := { dst := some 39, op := Op.unOp UnOp.not 4 (Operand.tmp 38), type := 4, pos := "law.go:121", after := #[{ on := 0, ground := Ground.data }], guard := none }) (v := .bool false) rfl (by kernel_rfl) (by kernel_rfl) (by kernel_rfl) (fun _ _ _ h => h) (Or.inl ⟨by rfl, fun wx hS => ?_⟩) hH ?_
        · go_simp
        simp only [Act.put, List.setIfInBounds_toArray, List.set_cons_zero, List.set_cons_succ]
        refine wpAnyH_take (i := 2) (oi := { dst := some 40, op := Op.move (Operand.tmp 39), type := 4, pos := "law.go:121", after := #[{ on := 1, ground := Ground.data }, { on := 0, ground := Ground.chain }], guard := none }) (v := .bool false) rfl (by kernel_rfl) (by kernel_rfl) (by kernel_rfl) (fun _ _ _ h => h) (Or.inl ⟨by rfl, fun wx hS => ?_⟩) hH ?_
        · go_simp
        simp only [Act.put, List.setIfInBounds_toArray, List.set_cons_zero, List.set_cons_succ]
        refine wpAnyH_take (i := 3) (oi := { dst := some 41, op := Op.move (Operand.tmp 6), type := 4, pos := "law.go:121", after := #[{ on := 2, ground := Ground.guard }], guard := some (2, false) }) (v := .bool true) rfl (by kernel_rfl) (by kernel_rfl) (by kernel_rfl) (fun _ _ _ h => h) (Or.inl ⟨by rfl, fun wx hS => ?_⟩) hH ?_
        · go_simp
        simp only [Act.put, List.setIfInBounds_toArray, List.set_cons_zero, List.set_cons_succ]
        refine wpAnyH_take (i := 4) (oi := { dst := some 42, op := Op.move (Operand.tmp 7), type := 3, pos := "law.go:121", after := #[{ on := 2, ground := Ground.guard }], guard := some (2, false) }) (v := .int .i64 (K : Int)) rfl (by kernel_rfl) (by kernel_rfl) (by kernel_rfl) (fun _ _ _ h => h) (Or.inl ⟨by rfl, fun wx hS => ?_⟩) hH ?_
        · go_simp
        simp only [Act.put, List.setIfInBounds_toArray, List.set_cons_zero, List.set_cons_succ]
        refine wpAnyH_take (i := 5) (oi := { dst := some 43, op := Op.move (Operand.tmp 0), type := 29, pos := "law.go:121", after := #[{ on := 2, ground := Ground.guard }], guard := some (2, false) }) (v := .slice (some ⟨b, o, none⟩) M.length c1) rfl (by kernel_rfl) (by kernel_rfl) (by kernel_rfl) (fun _ _ _ h => h) (Or.inl ⟨by rfl, fun wx hS => ?_⟩) hH ?_
        · go_simp
        simp only [Act.put, List.setIfInBounds_toArray, List.set_cons_zero, List.set_cons_succ]
        refine wpAnyH_take (i := 6) (oi := { dst := some 44, op := Op.call { callee := Callee.builtin Builtin.len, args := #[Operand.tmp 43], argTypes := #[29] }, type := 3, pos := "law.go:121", after := #[{ on := 5, ground := Ground.data }, { on := 2, ground := Ground.guard }], guard := some (2, false) }) (v := .int .i64 (M.length : Int)) rfl (by kernel_rfl) (by kernel_rfl) (by kernel_rfl) (fun _ _ _ h => h) (Or.inl ⟨by rfl, fun wx hS => ?_⟩) hH ?_
        · go_simp
        simp only [Act.put, List.setIfInBounds_toArray, List.set_cons_zero, List.set_cons_succ]
        refine wpAnyH_take (i := 7) (oi := { dst := some 45, op := Op.binOp BinOp.lss 3 (Operand.tmp 42) (Operand.tmp 44) 3, type := 4, pos := "law.go:121", after := #[{ on := 4, ground := Ground.data }, { on := 6, ground := Ground.data }, { on := 2, ground := Ground.guard }], guard := some (2, false) }) (v := .bool true) rfl (by kernel_rfl) (by kernel_rfl) (by kernel_rfl) (fun _ _ _ h => h) (Or.inl ⟨by rfl, fun wx hS => ?_⟩) hH ?_
        · go_simp
        simp only [Act.put, List.setIfInBounds_toArray, List.set_cons_zero, List.set_cons_succ]
        refine wpAnyH_take (i := 8) (oi := { dst := some 46, op := Op.binOp BinOp.neq 4 (Operand.tmp 41) (Operand.tmp 45) 4, type := 4, pos := "law.go:121", after := #[{ on := 3, ground := Ground.data }, { on := 7, ground := Ground.data }, { on := 2, ground := Ground.guard }], guard := some (2, false) }) (v := .bool false) rfl (by kernel_rfl) (by kernel_rfl) (by kernel_rfl) (fun _ _ _ h => h) (Or.inl ⟨by rfl, fun wx hS => ?_⟩) hH ?_
        · go_simp
        simp only [Act.put, List.setIfInBounds_toArray, List.set_cons_zero, List.set_cons_succ]
        refine wpAnyH_take (i := 9) (oi := { dst := some 47, op := Op.pick (Operand.tmp 40) (Operand.const (Value.bool true)) (Operand.tmp 46), type := 4, pos := "law.go:121", after := #[{ on := 2, ground := Ground.data }, { on := 8, ground := Ground.data }], guard := none }) (v := .bool false) rfl (by kernel_rfl) (by kernel_rfl) (by kernel_rfl) (fun _ _ _ h => h) (Or.inl ⟨by rfl, fun wx hS => ?_⟩) hH ?_
        · go_simp
        simp only [Act.put, List.setIfInBounds_toArray, List.set_cons_zero, List.set_cons_succ]
        refine wpAnyH_take (i := 10) (oi := { dst := some 48, op := Op.move (Operand.tmp 47), type := 4, pos := "law.go:121", after := #[{ on := 9, ground := Ground.data }, { on := 2, ground := Ground.chain }], guard := none }) (v := .bool false) rfl (by kernel_rfl) (by kernel_rfl) (by kernel_rfl) (fun _ _ _ h => h) (Or.inl ⟨by rfl, fun wx hS => ?_⟩) hH ?_
        · go_simp
        simp only [Act.put, List.setIfInBounds_toArray, List.set_cons_zero, List.set_cons_succ]
        refine wpAnyH_take (i := 11) (oi := { dst := some 49, op := Op.move (Operand.tmp 6), type := 4, pos := "law.go:121", after := #[{ on := 10, ground := Ground.guard }], guard := some (10, false) }) (v := .bool true) rfl (by kernel_rfl) (by kernel_rfl) (by kernel_rfl) (fun _ _ _ h => h) (Or.inl ⟨by rfl, fun wx hS => ?_⟩) hH ?_
        · go_simp
        simp only [Act.put, List.setIfInBounds_toArray, List.set_cons_zero, List.set_cons_succ]
        refine wpAnyH_take (i := 12) (oi := { dst := some 50, op := Op.move (Operand.tmp 49), type := 4, pos := "law.go:121", after := #[{ on := 11, ground := Ground.data }, { on := 10, ground := Ground.chain }, { on := 10, ground := Ground.guard }], guard := some (10, false) }) (v := .bool true) rfl (by kernel_rfl) (by kernel_rfl) (by kernel_rfl) (fun _ _ _ h => h) (Or.inl ⟨by rfl, fun wx hS => ?_⟩) hH ?_
        · go_simp
        simp only [Act.put, List.setIfInBounds_toArray, List.set_cons_zero, List.set_cons_succ]
        refine wpAnyH_take (i := 13) (oi := { dst := some 51, op := Op.load 33 (Operand.tmp 5), type := 33, pos := "law.go:121", after := #[{ on := 12, ground := Ground.guard }], guard := some (12, true) }) (v := .agg cs.toArray) rfl (by kernel_rfl) (by kernel_rfl) (by kernel_rfl) (fun _ _ _ h => h) (yieldsIf_load_mid (by rfl) 33 _ rfl (g5) (0) rfl cs _ (fun wx hS => block_range (HB5.out.below hS HB5.out.lt)) Try.underlying33 rfl (by rw [HCL.out]; kernel_rfl)) hH ?_
        simp only [Act.put, List.setIfInBounds_toArray, List.set_cons_zero, List.set_cons_succ]
        refine wpAnyH_take (i := 16) (oi := { dst := some 54, op := Op.move (Operand.tmp 0), type := 29, pos := "law.go:121", after := #[{ on := 12, ground := Ground.guard }], guard := some (12, true) }) (v := .slice (some ⟨b, o, none⟩) M.length c1) rfl (by kernel_rfl) (by kernel_rfl) (by kernel_rfl) (fun _ _ _ h => h) (Or.inl ⟨by rfl, fun wx hS => ?_⟩) hH ?_
        · go_simp
        simp only [Act.put, List.setIfInBounds_toArray, List.set_cons_zero, List.set_cons_succ]
        refine wpAnyH_take (i := 17) (oi := { dst := some 55, op := Op.move (Operand.tmp 7), type := 3, pos := "law.go:121", after := #[{ on := 12, ground := Ground.guard }], guard := some (12, true) }) (v := .int .i64 (K : Int)) rfl (by kernel_rfl) (by kernel_rfl) (by kernel_rfl) (fun _ _ _ h => h) (Or.inl ⟨by rfl, fun wx hS => ?_⟩) hH ?_
        · go_simp
        simp only [Act.put, List.setIfInBounds_toArray, List.set_cons_zero, List.set_cons_succ]
        refine wpAnyH_take (i := 18) (oi := { dst := some 56, op := Op.move (Operand.tmp 7), type := 3, pos := "law.go:121", after := #[{ on := 12, ground := Ground.guard }], guard := some (12, true) }) (v := .int .i64 (K : Int)) rfl (by kernel_rfl) (by kernel_rfl) (by kernel_rfl) (fun _ _ _ h => h) (Or.inl ⟨by rfl, fun wx hS => ?_⟩) hH ?_
        · go_simp
        simp only [Act.put, List.setIfInBounds_toArray, List.set_cons_zero, List.set_cons_succ]
        refine wpAnyH_take (i := 19) (oi := { dst := some 57, op := Op.binOp BinOp.add 3 (Operand.tmp 56) (Operand.const (Value.int IntKind.i64 1)) 3, type := 3, pos := "law.go:121", after := #[{ on := 18, ground := Ground.data }, { on := 12, ground := Ground.guard }], guard := some (12, true) }) (v := .int .i64 (K1 : Int)) rfl (by kernel_rfl) (by kernel_rfl) (by kernel_rfl) (fun _ _ _ h => h) (Or.inl ⟨by rfl, fun wx hS => ?_⟩) hH ?_
        · have e1 := ew; go_simp
        simp only [Act.put, List.setIfInBounds_toArray, List.set_cons_zero, List.set_cons_succ]
        refine wpAnyH_take (i := 20) (oi := { dst := some 58, op := Op.slice 29 (Operand.tmp 54) (some (Operand.tmp 55)) (some (Operand.tmp 57)) none, type := 29, pos := "law.go:121", after := #[{ on := 16, ground := Ground.data }, { on := 17, ground := Ground.data }, { on := 19, ground := Ground.data }, { on := 12, ground := Ground.guard }], guard := some (12, true) }) (v := .slice (some ⟨b, o + K * 39, none⟩) 1 (c1 - K)) rfl (by kernel_rfl) (by kernel_rfl) (by kernel_rfl) (fun _ _ _ h => h) (Or.inl ⟨by rfl, fun wx hS => ?_⟩) hH ?_
        · have e1 := RP; go_simp
        simp only [Act.put, List.setIfInBounds_toArray, List.set_cons_zero, List.set_cons_succ]
        refine wpAnyH_ready (rs := [14]) (by kernel_rfl) (by simp) ?_
        refine AllReadyH.cons (o := { dst := some 52, op := Op.buildSlice 27 1 #[(0, Operand.tmp 51)], type := 27, pos := "law.go:121", after := #[{ on := 13, ground := Ground.data }, { on := 12, ground := Ground.guard }], guard := some (12, true) }) rfl (fun KK hKK => ?_) AllReadyH.nil
        have kb := alloc_below y1 (.cells cs.toArray 33 (0, 0))
        have qb := blockIs.new y1 cs 33
        refine step_build_one (by rfl) 33 27 ntN _ rfl cs HCL.out rfl ?_
        have hN := hH.trans (kb.mono hH.size)
        clear hH kb
        refine hKK.out _ _ hN (fun hH => ?_)
        clear hKK KK hN
        try simp only [Act.put, List.setIfInBounds_toArray, List.set_cons_zero, List.set_cons_succ]
        change blockIs (y1.alloc (.cells cs.toArray 33 (0, 0))) _ _ _ at qb
        generalize y1.alloc (.cells cs.toArray 33 (0, 0)) = y2 at *
        generalize y1.heap.size = g6 at *
        rw [HCS.out] at qb
        have FR := from_any (some ⟨g6, 0, none⟩) 1 [n] y2 (by simp) (one_row qb WF.out (IV5.out.below hH (Nat.le_refl _)))
        rw [show [n].length = 1 from rfl] at FR
        refine wpAnyH_ready (rs := [15]) (by kernel_rfl) (by simp) ?_
        refine AllReadyH.cons (o := { dst := some 53, op := Op.call { callee := Callee.value (Operand.func 20), args := #[Operand.tmp 52], argTypes := #[27] }, type := 29, pos := "law.go:121", after := #[{ on := 14, ground := Ground.data }, { on := 12, ground := Ground.chain }, { on := 12, ground := Ground.guard }], guard := some (12, true) }) rfl (fun KK hKK => ?_) AllReadyH.nil
        go_simp
        with_reducible refine FR.mono ?_
        rintro e y3 ⟨⟨v6, rfl, hv6⟩, kb⟩
        obtain ⟨a6, c6, rfl, -, -, -, hr6⟩ := hv6.row
        rw [show [n].length = 1 from rfl]
        clear FR qb hv6
        have hN := hH.trans (kb.mono hH.size)
        clear hH kb
        refine hKK.out _ _ hN (fun hH => ?_)
        clear hKK KK hN
        try simp only [Act.put, List.setIfInBounds_toArray, List.set_cons_zero, List.set_cons_succ]
        have RL : rowN y3 (some ⟨b, o + K * 39, none⟩) [n] := by
          rw [HN.out]
          exact (R5.out.below hH (Nat.le_refl _)).one K hKl
        have SM := same_any a6 (some ⟨b, o + K * 39, none⟩) c6 (c1 - K) [n] y3 (by simp) hr6 RL
        rw [show [n].length = 1 from rfl] at SM
        refine wpAnyH_ready (rs := [21]) (by kernel_rfl) (by simp) ?_
        refine AllReadyH.cons (o := { dst := some 59, op := Op.call { callee := Callee.value (Operand.func 19), args := #[Operand.tmp 53, Operand.tmp 58], argTypes := #[29, 29] }, type := 4, pos := "law.go:121", after := #[{ on := 15, ground := Ground.data }, { on := 20, ground := Ground.data }, { on := 15, ground := Ground.chain }, { on := 12, ground := Ground.guard }], guard := some (12, true) }) rfl (fun KK hKK => ?_) AllReadyH.nil
        go_simp
        with_reducible refine SM.mono ?_
        rintro e y4 ⟨rfl, kb⟩
        clear SM RL hr6
        have hN := hH.trans (kb.mono hH.size)
        clear hH kb
        refine hKK.out _ _ hN (fun hH => ?_)
        clear hKK KK hN
        try simp only [Act.put, List.setIfInBounds_toArray, List.set_cons_zero, List.set_cons_succ]
        refine wpAnyH_take (i := 22) (oi := { dst := some 60, op := Op.unOp UnOp.not 4 (Operand.tmp 59), type := 4, pos := "law.go:121", after := #[{ on := 21, ground := Ground.data }, { on := 12, ground := Ground.guard }], guard := some (12, true) }) (v := .bool false) rfl (by kernel_rfl) (by kernel_rfl) (by kernel_rfl) (fun _ _ _ h => h) (Or.inl ⟨by rfl, fun wx hS => ?_⟩) hH ?_
        · go_simp
        simp only [Act.put, List.setIfInBounds_toArray, List.set_cons_zero, List.set_cons_succ]
        refine wpAnyH_take (i := 23) (oi := { dst := some 61, op := Op.pick (Operand.tmp 50) (Operand.tmp 60) (Operand.const (Value.bool false)), type := 4, pos := "law.go:121", after := #[{ on := 12, ground := Ground.data }, { on := 22, ground := Ground.data }, { on := 10, ground := Ground.guard }], guard := some (10, false) }) (v := .bool false) rfl (by kernel_rfl) (by kernel_rfl) (by kernel_rfl) (fun _ _ _ h => h) (Or.inl ⟨by rfl, fun wx hS => ?_⟩) hH ?_
        · go_simp
        simp only [Act.put, List.setIfInBounds_toArray, List.set_cons_zero, List.set_cons_succ]
        refine wpAnyH_take (i := 24) (oi := { dst := some 62, op := Op.pick (Operand.tmp 48) (Operand.const (Value.bool true)) (Operand.tmp 61), type := 4, pos := "law.go:121", after := #[{ on := 10, ground := Ground.data }, { on := 23, ground := Ground.data }], guard := none }) (v := .bool false) rfl (by kernel_rfl) (by kernel_rfl) (by kernel_rfl) (fun _ _ _ h => h) (Or.inl ⟨by rfl, fun wx hS => ?_⟩) hH ?_
        · go_simp
        simp only [Act.put, List.setIfInBounds_toArray, List.set_cons_zero, List.set_cons_succ]
        refine wpAnyH_done (by kernel_rfl) ?_ _
        refine NoPanic.normal ?_
        have B6 := Lib.hid (B5.out.trans (hH.mono B5.out.size))
        have R6 := Lib.hid (R5.out.below hH (Nat.le_refl _))
        clear hH B5 R5
        clear HB5 HCL HCO HCS IV5 WF HN HK
        generalize y4 = w6 at *
        clear RP ew HK1
        generalize (some ⟨b, o, none⟩ : Option Addr) = a1 at *
        have PT := Lib.hid (to_any a1 c1 M w6 (by omega) HP32.out R6.out)
        go_wp2_with fail
        with_reducible refine PT.out.mono ?_
        rintro e w7 ⟨⟨v7, rfl, hv7⟩, b7⟩
        have B7 := Lib.hid (B6.out.trans (b7.mono B6.out.size))
        have R7 := Lib.hid (R6.out.below b7 (Nat.le_refl _))
        obtain ⟨a7, c7, rfl, hlc7, hcc7, hz7, hr7⟩ := hv7.row
        have PI := Lib.hid (ids_any a7 c7 M w7 (by omega) HWT.out hr7)
        clear b7 PT B6 R6 hv7 hr7
        go_wp2_with fail
        with_reducible refine PI.out.mono ?_
        rintro e w8 ⟨⟨v8, v9, rfl, i8, i9⟩, b8⟩
        have B8 := Lib.hid (B7.out.trans (b8.mono B7.out.size))
        have R8 := Lib.hid (R7.out.below b8 (Nat.le_refl _))
        obtain ⟨va8, vc8, rfl⟩ := i8.form
        obtain ⟨va9, vc9, rfl⟩ := i9.form
        have I8 := Lib.hid i8
        have I9 := Lib.hid i9
        clear b8 PI B7 R7 i8 i9
        obtain ⟨P, hP⟩ : ∃ P, P = partsL M := ⟨_, rfl⟩
        obtain ⟨T, hT⟩ : ∃ T, T = treesL M := ⟨_, rfl⟩
        rw [← hP] at I8
        rw [← hT] at I9
        rw [← hP, ← hT]
        have EP := Lib.hid hP
        have ET := Lib.hid hT
        clear hP hT
        go_wp2_with fail
        go_loopw [12, 10, 11] (fun j i k wx => ∃ t pl tl : Nat, t ≤ M.length ∧ j = .int .i64 t ∧ i = .int .i64 pl ∧ k = .int .i64 tl ∧ Hid (pl = (partsL (M.take t)).length) ∧ Hid (tl = (treesL (M.take t)).length) ∧ Hid (Below w8.heap.size w8 wx)) (fun j _ _ _ => M.length - (intOf j).toNat)
        case atStart => exact ⟨0, 0, 0, Nat.zero_le _, rfl, rfl, rfl, Lib.hid (by simp [partsL]), Lib.hid (by simp [treesL]), Lib.hid (Below.refl _ _)⟩
        case round =>
          rename World => wx
          obtain ⟨t, pl, tl, ht, rfl, rfl, rfl, HPL0, HTL0, HB⟩ := hrel
          have pt : 0 ≤ (t : Int) := by omega
          by_cases hlt : t < M.length
          · have qt : (t : Int) < (M.length : Int) := by omega
            obtain ⟨b, o, e1, hn⟩ := (R8.out.below HB.out (Nat.le_refl _)).at t hlt
            subst e1
            have EPT := Lib.hid (partsL_take M t hlt)
            have ETT := Lib.hid (treesL_take M t hlt)
            have LP := Lib.hid (partsL_len M)
            have LT := Lib.hid (treesL_len M)
            obtain ⟨n, hnn⟩ : ∃ n, n = M[t] := ⟨_, rfl⟩
            rw [← hnn] at hn EPT ETT
            have GP : Hid (n.kind = 0 → ∀ s (hs : s < n.parts.length), ∃ h : (partsL (M.take t)).length + s < (partsL M).length, (partsL M)[(partsL (M.take t)).length + s] = n.parts[s]) := Lib.hid (by
              subst hnn
              exact parts_get M t hlt)
            have GT : Hid (n.kind = 1 → ∃ h : (treesL (M.take t)).length < (treesL M).length, (treesL M)[(treesL (M.take t)).length] = n.tree) := Lib.hid (by
              subst hnn
              exact trees_get M t hlt)
            clear hnn
            obtain ⟨pa, pc, wf, hid, hr⟩ := hn.form
            have d1 := hr 1 _ rfl
            have d6 := hr 6 _ rfl
            have RT := Lib.hid (tree_range hr)
            have HID := Lib.hid hid
            have WF := Lib.hid wf
            clear hn wf hid hr
            change wx.cell? ⟨b, o + t * 39 + 1, none⟩ = some (.int .i64 n.kind) at d1
            change wx.cell? ⟨b, o + t * 39 + 6, none⟩ = some (.slice pa n.parts.length pc) at d6
            obtain ⟨kd, hkd⟩ : ∃ kd, kd = n.kind := ⟨_, rfl⟩
            rw [← hkd] at d1
            have HKD := Lib.hid hkd
            clear hkd
            by_cases k0 : kd = 0
            · have HK0 : Hid (n.kind = 0) := Lib.hid (by rw [← HKD.out]; exact k0)
              rw [if_pos HK0.out] at EPT
              rw [if_neg (by rw [HK0.out]; decide), List.append_nil] at ETT
              have hb0 : (kd == 0) = true := by simp [k0]
              clear k0
              go_wp2_with fail
              go_loopw [13, 10] (fun m i wy => ∃ s ps : Nat, s ≤ n.parts.length ∧ m = .int .i64 s ∧ i = .int .i64 ps ∧ Hid (ps = pl + s) ∧ Hid (Below wx.heap.size wx wy)) (fun m _ _ => n.parts.length - (intOf m).toNat)
              case atStart => exact ⟨0, pl, Nat.zero_le _, rfl, rfl, Lib.hid rfl, Lib.hid (Below.refl _ _)⟩
              case round =>
                rename World => wy
                obtain ⟨s, ps, hs, rfl, rfl, HPS, HBY⟩ := hrel
                have p_s : 0 ≤ (s : Int) := by omega
                have p_p : 0 ≤ (ps : Int) := by omega
                have d6 := (HBY.out.cell (p := ⟨b, o + t * 39 + 6, none⟩) (block_lt_of_cell d6)).trans d6
                have HBZ := Lib.hid (HB.out.trans (HBY.out.mono HB.out.size))
                by_cases hls : s < n.parts.length
                · have q_s : (s : Int) < (n.parts.length : Int) := by omega
                  obtain ⟨gl, ge⟩ := GP.out HK0.out s hls
                  simp only [← HPL0.out, ← HPS.out, ← EP.out] at gl ge
                  have q_p : (ps : Int) < (P.length : Int) := by omega
                  have q_g : ¬ ((P.length : Int) ≤ (ps : Int)) := by omega
                  obtain ⟨aa, cc, ee, h1a, h2a, -, h32, hv⟩ := I8.out.below HBZ.out (Nat.le_refl _)
                  injection ee with e1 e2 e3
                  subst e1 e3
                  obtain ⟨aa2, cc2, ee2, h1b, h2b, -, h32b, hv2⟩ := HID.out.below HBY.out (Nat.le_refl _)
                  injection ee2 with e1 e2 e3
                  subst e1 e3
                  obtain ⟨vb, vo, e4, hs1⟩ := ids_at hv h32 ps gl
                  obtain ⟨sb, so, e5, ht1⟩ := ids_at hv2 h32b s hls
                  subst e4 e5
                  rw [ge] at hs1
                  have S1 := Lib.hid hs1
                  have S2 := Lib.hid ht1
                  have HP : Hid (n.parts[s].length = 32) := Lib.hid (h32b _ (List.getElem_mem hls))
                  have HPL : Hid ((bvals n.parts[s]).length = 32) := Lib.hid (by rw [bvals_length, HP.out])
                  clear hv hv2 hs1 ht1 h32 h32b ge
                  generalize n.parts[s] = p at *

                  go_upto_region 18 with fail
                  have hD := below_drewN (Below.refl wy.heap.size wy) 1
                  refine wp_region_noPanic ?_
                  refine wp_region_held_drew (S := fun x => Below wy.heap.size wy x) (by kernel_rfl) hD (fun hH => ?_)
                  generalize wy.drew = z0 at *
                  refine wpAnyH_take (i := 0) (oi := { dst := some 92, op := Op.move (Operand.tmp 10), type := 3, pos := "law.go:130", after := #[], guard := none }) (v := .int .i64 (ps : Int)) rfl (by kernel_rfl) (by kernel_rfl) (by kernel_rfl) (fun _ _ _ h => h) (Or.inl ⟨by rfl, fun wx hS => ?_⟩) hH ?_
                  · go_simp
                  simp only [Act.put, List.setIfInBounds_toArray, List.set_cons_zero, List.set_cons_succ]
                  refine wpAnyH_take (i := 1) (oi := { dst := some 93, op := Op.move (Operand.tmp 8), type := 22, pos := "law.go:130", after := #[], guard := none }) (v := .slice (some ⟨vb, vo, none⟩) P.length vc8) rfl (by kernel_rfl) (by kernel_rfl) (by kernel_rfl) (fun _ _ _ h => h) (Or.inl ⟨by rfl, fun wx hS => ?_⟩) hH ?_
                  · go_simp
                  simp only [Act.put, List.setIfInBounds_toArray, List.set_cons_zero, List.set_cons_succ]
                  refine wpAnyH_take (i := 2) (oi := { dst := some 94, op := Op.call { callee := Callee.builtin Builtin.len, args := #[Operand.tmp 93], argTypes := #[22] }, type := 3, pos := "law.go:130", after := #[{ on := 1, ground := Ground.data }], guard := none }) (v := .int .i64 (P.length : Int)) rfl (by kernel_rfl) (by kernel_rfl) (by kernel_rfl) (fun _ _ _ h => h) (Or.inl ⟨by rfl, fun wx hS => ?_⟩) hH ?_
                  · go_simp
                  simp only [Act.put, List.setIfInBounds_toArray, List.set_cons_zero, List.set_cons_succ]
                  refine wpAnyH_take (i := 3) (oi := { dst := some 95, op := Op.binOp BinOp.geq 3 (Operand.tmp 92) (Operand.tmp 94) 3, type := 4, pos := "law.go:130", after := #[{ on := 0, ground := Ground.data }, { on := 2, ground := Ground.data }], guard := none }) (v := .bool false) rfl (by kernel_rfl) (by kernel_rfl) (by kernel_rfl) (fun _ _ _ h => h) (Or.inl ⟨by rfl, fun wx hS => ?_⟩) hH ?_
                  · go_simp
                  simp only [Act.put, List.setIfInBounds_toArray, List.set_cons_zero, List.set_cons_succ]
                  refine wpAnyH_take (i := 4) (oi := { dst := some 96, op := Op.move (Operand.tmp 95), type := 4, pos := "law.go:130", after := #[{ on := 3, ground := Ground.data }], guard := none }) (v := .bool false) rfl (by kernel_rfl) (by kernel_rfl) (by kernel_rfl) (fun _ _ _ h => h) (Or.inl ⟨by rfl, fun wx hS => ?_⟩) hH ?_
                  · go_simp
                  simp only [Act.put, List.setIfInBounds_toArray, List.set_cons_zero, List.set_cons_succ]
                  refine wpAnyH_take (i := 5) (oi := { dst := some 97, op := Op.move (Operand.tmp 8), type := 22, pos := "law.go:130", after := #[{ on := 4, ground := Ground.guard }], guard := some (4, false) }) (v := .slice (some ⟨vb, vo, none⟩) P.length vc8) rfl (by kernel_rfl) (by kernel_rfl) (by kernel_rfl) (fun _ _ _ h => h) (Or.inl ⟨by rfl, fun wx hS => ?_⟩) hH ?_
                  · go_simp
                  simp only [Act.put, List.setIfInBounds_toArray, List.set_cons_zero, List.set_cons_succ]
                  refine wpAnyH_take (i := 6) (oi := { dst := some 98, op := Op.move (Operand.tmp 10), type := 3, pos := "law.go:130", after := #[{ on := 4, ground := Ground.guard }], guard := some (4, false) }) (v := .int .i64 (ps : Int)) rfl (by kernel_rfl) (by kernel_rfl) (by kernel_rfl) (fun _ _ _ h => h) (Or.inl ⟨by rfl, fun wx hS => ?_⟩) hH ?_
                  · go_simp
                  simp only [Act.put, List.setIfInBounds_toArray, List.set_cons_zero, List.set_cons_succ]
                  refine wpAnyH_take (i := 7) (oi := { dst := some 99, op := Op.indexAddr 22 (Operand.tmp 97) (Operand.tmp 98), type := 0, pos := "law.go:130", after := #[{ on := 5, ground := Ground.data }, { on := 6, ground := Ground.data }, { on := 4, ground := Ground.guard }], guard := some (4, false) }) (v := .pointer (some ⟨vb, vo + ps * 32, none⟩)) rfl (by kernel_rfl) (by kernel_rfl) (by kernel_rfl) (fun _ _ _ h => h) (Or.inl ⟨by rfl, fun wx hS => ?_⟩) hH ?_
                  · go_simp
                  simp only [Act.put, List.setIfInBounds_toArray, List.set_cons_zero, List.set_cons_succ]
                  refine wpAnyH_take (i := 8) (oi := { dst := some 100, op := Op.load 24 (Operand.tmp 99), type := 24, pos := "law.go:130", after := #[{ on := 7, ground := Ground.data }, { on := 4, ground := Ground.guard }], guard := some (4, false) }) (v := .agg (bvals p).toArray) rfl (by kernel_rfl) (by kernel_rfl) (by kernel_rfl) (fun _ _ _ h => h) (yieldsIf_load_mid (by rfl) 24 _ rfl (vb) (vo + ps * 32) rfl (bvals p) _ (fun wx hS => range_below S1.out hS (Nat.le_refl _)) Try.underlying24 rfl (by rw [HPL.out]; kernel_rfl)) hH ?_
                  simp only [Act.put, List.setIfInBounds_toArray, List.set_cons_zero, List.set_cons_succ]
                  refine wpAnyH_take (i := 9) (oi := { dst := some 101, op := Op.move (Operand.tmp 0), type := 29, pos := "law.go:130", after := #[{ on := 4, ground := Ground.guard }], guard := some (4, false) }) (v := .slice (some ⟨b, o, none⟩) M.length c1) rfl (by kernel_rfl) (by kernel_rfl) (by kernel_rfl) (fun _ _ _ h => h) (Or.inl ⟨by rfl, fun wx hS => ?_⟩) hH ?_
                  · go_simp
                  simp only [Act.put, List.setIfInBounds_toArray, List.set_cons_zero, List.set_cons_succ]
                  refine wpAnyH_take (i := 10) (oi := { dst := some 102, op := Op.move (Operand.tmp 12), type := 3, pos := "law.go:130", after := #[{ on := 4, ground := Ground.guard }], guard := some (4, false) }) (v := .int .i64 (t : Int)) rfl (by kernel_rfl) (by kernel_rfl) (by kernel_rfl) (fun _ _ _ h => h) (Or.inl ⟨by rfl, fun wx hS => ?_⟩) hH ?_
                  · go_simp
                  simp only [Act.put, List.setIfInBounds_toArray, List.set_cons_zero, List.set_cons_succ]
                  refine wpAnyH_take (i := 11) (oi := { dst := some 103, op := Op.indexAddr 29 (Operand.tmp 101) (Operand.tmp 102), type := 0, pos := "law.go:130", after := #[{ on := 9, ground := Ground.data }, { on := 10, ground := Ground.data }, { on := 4, ground := Ground.guard }], guard := some (4, false) }) (v := .pointer (some ⟨b, o + t * 39, none⟩)) rfl (by kernel_rfl) (by kernel_rfl) (by kernel_rfl) (fun _ _ _ h => h) (Or.inl ⟨by rfl, fun wx hS => ?_⟩) hH ?_
                  · go_simp
                  simp only [Act.put, List.setIfInBounds_toArray, List.set_cons_zero, List.set_cons_succ]
                  refine wpAnyH_take (i := 12) (oi := { dst := some 104, op := Op.fieldAddr 26 (Operand.tmp 103) 6, type := 0, pos := "law.go:130", after := #[{ on := 11, ground := Ground.data }, { on := 4, ground := Ground.guard }], guard := some (4, false) }) (v := .pointer (some ⟨b, o + t * 39 + 6, none⟩)) rfl (by kernel_rfl) (by kernel_rfl) (by kernel_rfl) (fun _ _ _ h => h) (Or.inl ⟨by rfl, fun wx hS => ?_⟩) hH ?_
                  · go_simp
                  simp only [Act.put, List.setIfInBounds_toArray, List.set_cons_zero, List.set_cons_succ]
                  refine wpAnyH_take (i := 13) (oi := { dst := some 105, op := Op.load 22 (Operand.tmp 104), type := 22, pos := "law.go:130", after := #[{ on := 12, ground := Ground.data }, { on := 4, ground := Ground.guard }], guard := some (4, false) }) (v := .slice (some ⟨sb, so, none⟩) n.parts.length pc) rfl (by kernel_rfl) (by kernel_rfl) (by kernel_rfl) (fun _ _ _ h => h) (Or.inl ⟨by rfl, fun wx hS => ?_⟩) hH ?_
                  · have c := (hS.cell (p := ⟨b, o + t * 39 + 6, none⟩) (block_lt_of_cell d6)).trans d6; go_simp
                  simp only [Act.put, List.setIfInBounds_toArray, List.set_cons_zero, List.set_cons_succ]
                  refine wpAnyH_take (i := 14) (oi := { dst := some 106, op := Op.move (Operand.tmp 13), type := 3, pos := "law.go:130", after := #[{ on := 4, ground := Ground.guard }], guard := some (4, false) }) (v := .int .i64 (s : Int)) rfl (by kernel_rfl) (by kernel_rfl) (by kernel_rfl) (fun _ _ _ h => h) (Or.inl ⟨by rfl, fun wx hS => ?_⟩) hH ?_
                  · go_simp
                  simp only [Act.put, List.setIfInBounds_toArray, List.set_cons_zero, List.set_cons_succ]
                  refine wpAnyH_take (i := 15) (oi := { dst := some 107, op := Op.indexAddr 22 (Operand.tmp 105) (Operand.tmp 106), type := 0, pos := "law.go:130", after := #[{ on := 13, ground := Ground.data }, { on := 14, ground := Ground.data }, { on := 4, ground := Ground.guard }], guard := some (4, false) }) (v := .pointer (some ⟨sb, so + s * 32, none⟩)) rfl (by kernel_rfl) (by kernel_rfl) (by kernel_rfl) (fun _ _ _ h => h) (Or.inl ⟨by rfl, fun wx hS => ?_⟩) hH ?_
                  · go_simp
                  simp only [Act.put, List.setIfInBounds_toArray, List.set_cons_zero, List.set_cons_succ]
                  refine wpAnyH_take (i := 16) (oi := { dst := some 108, op := Op.load 24 (Operand.tmp 107), type := 24, pos := "law.go:130", after := #[{ on := 15, ground := Ground.data }, { on := 4, ground := Ground.guard }], guard := some (4, false) }) (v := .agg (bvals p).toArray) rfl (by kernel_rfl) (by kernel_rfl) (by kernel_rfl) (fun _ _ _ h => h) (yieldsIf_load_mid (by rfl) 24 _ rfl (sb) (so + s * 32) rfl (bvals p) _ (fun wx hS => range_below S2.out hS (Nat.le_refl _)) Try.underlying24 rfl (by rw [HPL.out]; kernel_rfl)) hH ?_
                  simp only [Act.put, List.setIfInBounds_toArray, List.set_cons_zero, List.set_cons_succ]
                  refine wpAnyH_take (i := 17) (oi := { dst := some 109, op := Op.binOp BinOp.neq 24 (Operand.tmp 100) (Operand.tmp 108) 24, type := 4, pos := "law.go:130", after := #[{ on := 8, ground := Ground.data }, { on := 16, ground := Ground.data }, { on := 4, ground := Ground.guard }], guard := some (4, false) }) (v := .bool false) rfl (by kernel_rfl) (by kernel_rfl) (by kernel_rfl) (fun _ _ _ h => h) (yields_same (by rfl) _ _ rfl p HP.out rfl rfl) hH ?_
                  simp only [Act.put, List.setIfInBounds_toArray, List.set_cons_zero, List.set_cons_succ]
                  refine wpAnyH_take (i := 18) (oi := { dst := some 110, op := Op.pick (Operand.tmp 96) (Operand.const (Value.bool true)) (Operand.tmp 109), type := 4, pos := "law.go:130", after := #[{ on := 4, ground := Ground.data }, { on := 17, ground := Ground.data }], guard := none }) (v := .bool false) rfl (by kernel_rfl) (by kernel_rfl) (by kernel_rfl) (fun _ _ _ h => h) (Or.inl ⟨by rfl, fun wx hS => ?_⟩) hH ?_
                  · go_simp
                  simp only [Act.put, List.setIfInBounds_toArray, List.set_cons_zero, List.set_cons_succ]
                  refine wpAnyH_done (by kernel_rfl) ?_ _
                  refine NoPanic.normal ?_
                  have HBW := Lib.hid (HBY.out.trans (hH.mono HBY.out.size))
                  clear hD hH d6 S1 S2
                  go_wp2_with fail
                  go_roundw
                  case rel => exact ⟨s + 1, ps + 1, by omega, by go_num, by go_num, Lib.hid (by rw [HPS.out]; omega), HBW⟩
                  case measure => simp [intOf]; omega
                · obtain rfl : s = n.parts.length := by omega
                  have q_s : ¬ ((n.parts.length : Int) < (n.parts.length : Int)) := by omega
                  have HP2 : Hid (ps = (partsL (M.take (t + 1))).length) := Lib.hid (by rw [EPT.out, List.length_append, ← HPL0.out, HPS.out])
                  have HT2 : Hid (tl = (treesL (M.take (t + 1))).length) := Lib.hid (by rw [ETT.out, HTL0.out])
                  go_wp2_with fail
                  go_roundw
                  case rel => exact ⟨t + 1, ps, tl, by omega, by go_num, rfl, rfl, HP2, HT2, HBZ⟩
                  case measure => simp [intOf]; omega
            · have HK0 : Hid (¬ n.kind = 0) := Lib.hid (by rw [← HKD.out]; exact k0)
              rw [if_neg HK0.out, List.append_nil] at EPT
              have hb0 : (kd == 0) = false := by simp [k0]
              have HP2 : Hid (pl = (partsL (M.take (t + 1))).length) := Lib.hid (by rw [EPT.out, HPL0.out])
              by_cases k1 : kd = 1
              · have HK1 : Hid (n.kind = 1) := Lib.hid (by rw [← HKD.out]; exact k1)
                rw [if_pos HK1.out] at ETT
                have hb1 : (kd == 1) = true := by simp [k1]
                clear k0 k1
                have p_p : 0 ≤ (tl : Int) := by omega
                obtain ⟨gl, ge⟩ := GT.out HK1.out
                simp only [← HTL0.out, ← ET.out] at gl ge
                have q_p : (tl : Int) < (T.length : Int) := by omega
                have q_g : ¬ ((T.length : Int) ≤ (tl : Int)) := by omega
                obtain ⟨aa, cc, ee, h1a, h2a, -, h32, hv⟩ := I9.out.below HB.out (Nat.le_refl _)
                injection ee with e1 e2 e3
                subst e1 e3
                obtain ⟨vb, vo, e4, hs1⟩ := ids_at hv h32 tl gl
                subst e4
                rw [ge] at hs1
                have S1 := Lib.hid hs1
                have S2 := Lib.hid RT.out
                have HP : Hid (n.tree.length = 32) := Lib.hid WF.out.tree
                have HPL : Hid ((bvals n.tree).length = 32) := Lib.hid (by rw [bvals_length, HP.out])
                have HT2 : Hid (tl + 1 = (treesL (M.take (t + 1))).length) := Lib.hid (by rw [ETT.out, List.length_append, ← HTL0.out]; rfl)
                clear hv hs1 h32 ge
                generalize n.tree = p at *

                go_upto_region 22 with fail
                have hD := below_drewN (Below.refl wx.heap.size wx) 1
                refine wp_region_noPanic ?_
                refine wp_region_held_drew (S := fun x => Below wx.heap.size wx x) (by kernel_rfl) hD (fun hH => ?_)
                generalize wx.drew = z0 at *
                refine wpAnyH_take (i := 0) (oi := { dst := some 115, op := Op.move (Operand.tmp 11), type := 3, pos := "law.go:136", after := #[], guard := none }) (v := .int .i64 (tl : Int)) rfl (by kernel_rfl) (by kernel_rfl) (by kernel_rfl) (fun _ _ _ h => h) (Or.inl ⟨by rfl, fun wx hS => ?_⟩) hH ?_
                · go_simp
                simp only [Act.put, List.setIfInBounds_toArray, List.set_cons_zero, List.set_cons_succ]
                refine wpAnyH_take (i := 1) (oi := { dst := some 116, op := Op.move (Operand.tmp 9), type := 22, pos := "law.go:136", after := #[], guard := none }) (v := .slice (some ⟨vb, vo, none⟩) T.length vc9) rfl (by kernel_rfl) (by kernel_rfl) (by kernel_rfl) (fun _ _ _ h => h) (Or.inl ⟨by rfl, fun wx hS => ?_⟩) hH ?_
                · go_simp
                simp only [Act.put, List.setIfInBounds_toArray, List.set_cons_zero, List.set_cons_succ]
                refine wpAnyH_take (i := 2) (oi := { dst := some 117, op := Op.call { callee := Callee.builtin Builtin.len, args := #[Operand.tmp 116], argTypes := #[22] }, type := 3, pos := "law.go:136", after := #[{ on := 1, ground := Ground.data }], guard := none }) (v := .int .i64 (T.length : Int)) rfl (by kernel_rfl) (by kernel_rfl) (by kernel_rfl) (fun _ _ _ h => h) (Or.inl ⟨by rfl, fun wx hS => ?_⟩) hH ?_
                · go_simp
                simp only [Act.put, List.setIfInBounds_toArray, List.set_cons_zero, List.set_cons_succ]
                refine wpAnyH_take (i := 3) (oi := { dst := some 118, op := Op.binOp BinOp.geq 3 (Operand.tmp 115) (Operand.tmp 117) 3, type := 4, pos := "law.go:136", after := #[{ on := 0, ground := Ground.data }, { on := 2, ground := Ground.data }], guard := none }) (v := .bool false) rfl (by kernel_rfl) (by kernel_rfl) (by kernel_rfl) (fun _ _ _ h => h) (Or.inl ⟨by rfl, fun wx hS => ?_⟩) hH ?_
                · go_simp
                simp only [Act.put, List.setIfInBounds_toArray, List.set_cons_zero, List.set_cons_succ]
                refine wpAnyH_take (i := 4) (oi := { dst := some 119, op := Op.move (Operand.tmp 118), type := 4, pos := "law.go:136", after := #[{ on := 3, ground := Ground.data }], guard := none }) (v := .bool false) rfl (by kernel_rfl) (by kernel_rfl) (by kernel_rfl) (fun _ _ _ h => h) (Or.inl ⟨by rfl, fun wx hS => ?_⟩) hH ?_
                · go_simp
                simp only [Act.put, List.setIfInBounds_toArray, List.set_cons_zero, List.set_cons_succ]
                refine wpAnyH_take (i := 5) (oi := { dst := some 120, op := Op.move (Operand.tmp 9), type := 22, pos := "law.go:136", after := #[{ on := 4, ground := Ground.guard }], guard := some (4, false) }) (v := .slice (some ⟨vb, vo, none⟩) T.length vc9) rfl (by kernel_rfl) (by kernel_rfl) (by kernel_rfl) (fun _ _ _ h => h) (Or.inl ⟨by rfl, fun wx hS => ?_⟩) hH ?_
                · go_simp
                simp only [Act.put, List.setIfInBounds_toArray, List.set_cons_zero, List.set_cons_succ]
                refine wpAnyH_take (i := 6) (oi := { dst := some 121, op := Op.move (Operand.tmp 11), type := 3, pos := "law.go:136", after := #[{ on := 4, ground := Ground.guard }], guard := some (4, false) }) (v := .int .i64 (tl : Int)) rfl (by kernel_rfl) (by kernel_rfl) (by kernel_rfl) (fun _ _ _ h => h) (Or.inl ⟨by rfl, fun wx hS => ?_⟩) hH ?_
                · go_simp
                simp only [Act.put, List.setIfInBounds_toArray, List.set_cons_zero, List.set_cons_succ]
                refine wpAnyH_take (i := 7) (oi := { dst := some 122, op := Op.indexAddr 22 (Operand.tmp 120) (Operand.tmp 121), type := 0, pos := "law.go:136", after := #[{ on := 5, ground := Ground.data }, { on := 6, ground := Ground.data }, { on := 4, ground := Ground.guard }], guard := some (4, false) }) (v := .pointer (some ⟨vb, vo + tl * 32, none⟩)) rfl (by kernel_rfl) (by kernel_rfl) (by kernel_rfl) (fun _ _ _ h => h) (Or.inl ⟨by rfl, fun wx hS => ?_⟩) hH ?_
                · go_simp
                simp only [Act.put, List.setIfInBounds_toArray, List.set_cons_zero, List.set_cons_succ]
                refine wpAnyH_take (i := 8) (oi := { dst := some 123, op := Op.load 24 (Operand.tmp 122), type := 24, pos := "law.go:136", after := #[{ on := 7, ground := Ground.data }, { on := 4, ground := Ground.guard }], guard := some (4, false) }) (v := .agg (bvals p).toArray) rfl (by kernel_rfl) (by kernel_rfl) (by kernel_rfl) (fun _ _ _ h => h) (yieldsIf_load_mid (by rfl) 24 _ rfl (vb) (vo + tl * 32) rfl (bvals p) _ (fun wx hS => range_below S1.out hS (Nat.le_refl _)) Try.underlying24 rfl (by rw [HPL.out]; kernel_rfl)) hH ?_
                simp only [Act.put, List.setIfInBounds_toArray, List.set_cons_zero, List.set_cons_succ]
                refine wpAnyH_take (i := 9) (oi := { dst := some 124, op := Op.move (Operand.tmp 0), type := 29, pos := "law.go:136", after := #[{ on := 4, ground := Ground.guard }], guard := some (4, false) }) (v := .slice (some ⟨b, o, none⟩) M.length c1) rfl (by kernel_rfl) (by kernel_rfl) (by kernel_rfl) (fun _ _ _ h => h) (Or.inl ⟨by rfl, fun wx hS => ?_⟩) hH ?_
                · go_simp
                simp only [Act.put, List.setIfInBounds_toArray, List.set_cons_zero, List.set_cons_succ]
                refine wpAnyH_take (i := 10) (oi := { dst := some 125, op := Op.move (Operand.tmp 12), type := 3, pos := "law.go:136", after := #[{ on := 4, ground := Ground.guard }], guard := some (4, false) }) (v := .int .i64 (t : Int)) rfl (by kernel_rfl) (by kernel_rfl) (by kernel_rfl) (fun _ _ _ h => h) (Or.inl ⟨by rfl, fun wx hS => ?_⟩) hH ?_
                · go_simp
                simp only [Act.put, List.setIfInBounds_toArray, List.set_cons_zero, List.set_cons_succ]
                refine wpAnyH_take (i := 11) (oi := { dst := some 126, op := Op.indexAddr 29 (Operand.tmp 124) (Operand.tmp 125), type := 0, pos := "law.go:136", after := #[{ on := 9, ground := Ground.data }, { on := 10, ground := Ground.data }, { on := 4, ground := Ground.guard }], guard := some (4, false) }) (v := .pointer (some ⟨b, o + t * 39, none⟩)) rfl (by kernel_rfl) (by kernel_rfl) (by kernel_rfl) (fun _ _ _ h => h) (Or.inl ⟨by rfl, fun wx hS => ?_⟩) hH ?_
                · go_simp
                simp only [Act.put, List.setIfInBounds_toArray, List.set_cons_zero, List.set_cons_succ]
                refine wpAnyH_take (i := 12) (oi := { dst := some 127, op := Op.fieldAddr 26 (Operand.tmp 126) 7, type := 0, pos := "law.go:136", after := #[{ on := 11, ground := Ground.data }, { on := 4, ground := Ground.guard }], guard := some (4, false) }) (v := .pointer (some ⟨b, o + t * 39 + 7, none⟩)) rfl (by kernel_rfl) (by kernel_rfl) (by kernel_rfl) (fun _ _ _ h => h) (Or.inl ⟨by rfl, fun wx hS => ?_⟩) hH ?_
                · go_simp
                simp only [Act.put, List.setIfInBounds_toArray, List.set_cons_zero, List.set_cons_succ]
                refine wpAnyH_take (i := 13) (oi := { dst := some 128, op := Op.load 24 (Operand.tmp 127), type := 24, pos := "law.go:136", after := #[{ on := 12, ground := Ground.data }, { on := 4, ground := Ground.guard }], guard := some (4, false) }) (v := .agg (bvals p).toArray) rfl (by kernel_rfl) (by kernel_rfl) (by kernel_rfl) (fun _ _ _ h => h) (yieldsIf_load_mid (by rfl) 24 _ rfl (b) (o + t * 39 + 7) rfl (bvals p) _ (fun wx hS => range_below S2.out hS (Nat.le_refl _)) Try.underlying24 rfl (by rw [HPL.out]; kernel_rfl)) hH ?_
                simp only [Act.put, List.setIfInBounds_toArray, List.set_cons_zero, List.set_cons_succ]
                refine wpAnyH_take (i := 14) (oi := { dst := some 129, op := Op.binOp BinOp.neq 24 (Operand.tmp 123) (Operand.tmp 128) 24, type := 4, pos := "law.go:136", after := #[{ on := 8, ground := Ground.data }, { on := 13, ground := Ground.data }, { on := 4, ground := Ground.guard }], guard := some (4, false) }) (v := .bool false) rfl (by kernel_rfl) (by kernel_rfl) (by kernel_rfl) (fun _ _ _ h => h) (yields_same (by rfl) _ _ rfl p HP.out rfl rfl) hH ?_
                simp only [Act.put, List.setIfInBounds_toArray, List.set_cons_zero, List.set_cons_succ]
                refine wpAnyH_take (i := 15) (oi := { dst := some 130, op := Op.pick (Operand.tmp 119) (Operand.const (Value.bool true)) (Operand.tmp 129), type := 4, pos := "law.go:136", after := #[{ on := 4, ground := Ground.data }, { on := 14, ground := Ground.data }], guard := none }) (v := .bool false) rfl (by kernel_rfl) (by kernel_rfl) (by kernel_rfl) (fun _ _ _ h => h) (Or.inl ⟨by rfl, fun wx hS => ?_⟩) hH ?_
                · go_simp
                simp only [Act.put, List.setIfInBounds_toArray, List.set_cons_zero, List.set_cons_succ]
                refine wpAnyH_done (by kernel_rfl) ?_ _
                refine NoPanic.normal ?_
                have HBW := Lib.hid (HB.out.trans (hH.mono HB.out.size))
                clear hD hH d6 S1 S2 d1
                go_wp2_with fail
                go_roundw
                case rel => exact ⟨t + 1, pl, tl + 1, by omega, by go_num, rfl, by go_num, HP2, HT2, HBW⟩
                case measure => simp [intOf]; omega
              · rw [if_neg (by rw [← HKD.out]; exact k1), List.append_nil] at ETT
                have hb1 : (kd == 1) = false := by simp [k1]
                have HT2 : Hid (tl = (treesL (M.take (t + 1))).length) := Lib.hid (by rw [ETT.out, HTL0.out])
                clear k0 k1
                go_wp2_with fail
                go_roundw
                case rel => exact ⟨t + 1, pl, tl, by omega, by go_num, rfl, rfl, HP2, HT2, HB⟩
                case measure => simp [intOf]; omega
          · obtain rfl : t = M.length := by omega
            have qt : ¬ ((M.length : Int) < (M.length : Int)) := by omega
            obtain rfl : pl = P.length := by rw [HPL0.out, List.take_length, EP.out]
            obtain rfl : tl = T.length := by rw [HTL0.out, List.take_length, ET.out]
            have B9 := Lib.hid (B8.out.trans (HB.out.mono B8.out.size))
            go_wp2_with fail
            go_ret
            exact ⟨rfl, B9.out⟩
  · go_wp2_with (refine store_new 33 info_nd rfl _ _ rfl zs zs rfl rfl HZ.out HZ.out HZO.out ?_)
    intro w5 h1 h2
    have B5 := Lib.hid (B3.out.trans (h2.out.mono B3.out.size))
    have R5 := Lib.hid (R3.out.below h2.out (Nat.le_refl _))
    clear h1 h2 B3 R3
    generalize w3.heap.size = g5 at *
    have HKL := Lib.hid hKl
    go_wp2_with fail
    go_loopw [7] (fun i wx => ∃ k : Nat, k ≤ M.length ∧ i = .int .i64 k ∧ Hid (K = k + firstAt x (M.drop k)) ∧ w5 = wx) (fun i _ => M.length - (intOf i).toNat)
    case atStart => exact ⟨0, Nat.zero_le _, rfl, Lib.hid (by rw [HK.out]; simp), rfl⟩
    case round =>
      obtain ⟨k, hk, rfl, HE, rfl⟩ := hrel
      have pk : 0 ≤ (k : Int) := by omega
      by_cases hkl : k < M.length
      · have qk : (k : Int) < (M.length : Int) := by omega
        obtain ⟨b, o, e1, hnk⟩ := R5.out.at k hkl
        subst e1
        have c0 := hnk.name
        have HD := Lib.hid (firstAt_drop x M k hkl)
        obtain ⟨m, hm⟩ : ∃ m, m = M[k].name := ⟨_, rfl⟩
        rw [← hm] at c0 HD
        clear hm hnk
        have hr : (m == x) = false := by
          by_cases h : m = x
          · have h1 := HE.out
            have h2 := HD.out
            rw [if_pos h] at h2
            omega
          · simpa using h
        have cmr : ((str m).toList == (str x).toList) = false := by rw [Lib.toList_data, Lib.toList_data]; exact hr
        have HN2 : Hid (K = (k + 1) + firstAt x (M.drop (k + 1))) := Lib.hid (by rw [HE.out, HD.out, if_neg]; simpa using hr)
        clear hr HD
        go_wp2_with fail
        go_roundw
        case rel => exact ⟨k + 1, by omega, by go_num, HN2, trivial⟩
        case measure => simp [intOf]; omega
      · obtain rfl : k = M.length := by omega
        obtain rfl : K = M.length := hKl
        have qk : ¬ ((M.length : Int) < (M.length : Int)) := by omega
        clear HE HK
        go_upto_region 6 with fail
        refine wp_region_noPanic ?_
        refine wp_region_held_drew (S := fun x => Below w5.heap.size w5 x) (by kernel_rfl) (below_drewN (Below.refl w5.heap.size w5) 1) (fun hH => ?_)
        generalize w5.drew = y0 at *
        refine wpAnyH_ready (rs := [0]) (by kernel_rfl) (by simp) ?_
        refine AllReadyH.cons (o := { dst := some 38, op := Op.call { callee := Callee.value (Operand.func 11), args := #[], argTypes := #[] }, type := 4, pos := "law.go:121", after := #[], guard := none }) rfl (fun KK hKK => ?_) AllReadyH.nil
        go_simp
        with_reducible refine (nodes_any y0).mono ?_
        rintro e y1 ⟨rfl, kb⟩
        have hN := hH.trans (kb.mono hH.size)
        clear hH kb
        refine hKK.out _ _ hN (fun hH => ?_)
        clear hKK KK hN
        try simp only [Act.put, List.setIfInBounds_toArray, List.set_cons_zero, List.set_cons_succ]
        refine wpAnyH_take (i := 1) (oi := { dst := some 39, op := Op.unOp UnOp.not 4 (Operand.tmp 38), type := 4, pos := "law.go:121", after := #[{ on := 0, ground := Ground.data }], guard := none }) (v := .bool false) rfl (by kernel_rfl) (by kernel_rfl) (by kernel_rfl) (fun _ _ _ h => h) (Or.inl ⟨by rfl, fun wx hS => ?_⟩) hH ?_
        · go_simp
        simp only [Act.put, List.setIfInBounds_toArray, List.set_cons_zero, List.set_cons_succ]
        refine wpAnyH_take (i := 2) (oi := { dst := some 40, op := Op.move (Operand.tmp 39), type := 4, pos := "law.go:121", after := #[{ on := 1, ground := Ground.data }, { on := 0, ground := Ground.chain }], guard := none }) (v := .bool false) rfl (by kernel_rfl) (by kernel_rfl) (by kernel_rfl) (fun _ _ _ h => h) (Or.inl ⟨by rfl, fun wx hS => ?_⟩) hH ?_
        · go_simp
        simp only [Act.put, List.setIfInBounds_toArray, List.set_cons_zero, List.set_cons_succ]
        refine wpAnyH_take (i := 3) (oi := { dst := some 41, op := Op.move (Operand.tmp 6), type := 4, pos := "law.go:121", after := #[{ on := 2, ground := Ground.guard }], guard := some (2, false) }) (v := .bool false) rfl (by kernel_rfl) (by kernel_rfl) (by kernel_rfl) (fun _ _ _ h => h) (Or.inl ⟨by rfl, fun wx hS => ?_⟩) hH ?_
        · go_simp
        simp only [Act.put, List.setIfInBounds_toArray, List.set_cons_zero, List.set_cons_succ]
        refine wpAnyH_take (i := 4) (oi := { dst := some 42, op := Op.move (Operand.tmp 7), type := 3, pos := "law.go:121", after := #[{ on := 2, ground := Ground.guard }], guard := some (2, false) }) (v := .int .i64 (M.length : Int)) rfl (by kernel_rfl) (by kernel_rfl) (by kernel_rfl) (fun _ _ _ h => h) (Or.inl ⟨by rfl, fun wx hS => ?_⟩) hH ?_
        · go_simp
        simp only [Act.put, List.setIfInBounds_toArray, List.set_cons_zero, List.set_cons_succ]
        refine wpAnyH_take (i := 5) (oi := { dst := some 43, op := Op.move (Operand.tmp 0), type := 29, pos := "law.go:121", after := #[{ on := 2, ground := Ground.guard }], guard := some (2, false) }) (v := .slice a1 M.length c1) rfl (by kernel_rfl) (by kernel_rfl) (by kernel_rfl) (fun _ _ _ h => h) (Or.inl ⟨by rfl, fun wx hS => ?_⟩) hH ?_
        · go_simp
        simp only [Act.put, List.setIfInBounds_toArray, List.set_cons_zero, List.set_cons_succ]
        refine wpAnyH_take (i := 6) (oi := { dst := some 44, op := Op.call { callee := Callee.builtin Builtin.len, args := #[Operand.tmp 43], argTypes := #[29] }, type := 3, pos := "law.go:121", after := #[{ on := 5, ground := Ground.data }, { on := 2, ground := Ground.guard }], guard := some (2, false) }) (v := .int .i64 (M.length : Int)) rfl (by kernel_rfl) (by kernel_rfl) (by kernel_rfl) (fun _ _ _ h => h) (Or.inl ⟨by rfl, fun wx hS => ?_⟩) hH ?_
        · go_simp
        simp only [Act.put, List.setIfInBounds_toArray, List.set_cons_zero, List.set_cons_succ]
        refine wpAnyH_take (i := 7) (oi := { dst := some 45, op := Op.binOp BinOp.lss 3 (Operand.tmp 42) (Operand.tmp 44) 3, type := 4, pos := "law.go:121", after := #[{ on := 4, ground := Ground.data }, { on := 6, ground := Ground.data }, { on := 2, ground := Ground.guard }], guard := some (2, false) }) (v := .bool false) rfl (by kernel_rfl) (by kernel_rfl) (by kernel_rfl) (fun _ _ _ h => h) (Or.inl ⟨by rfl, fun wx hS => ?_⟩) hH ?_
        · go_simp
        simp only [Act.put, List.setIfInBounds_toArray, List.set_cons_zero, List.set_cons_succ]
        refine wpAnyH_take (i := 8) (oi := { dst := some 46, op := Op.binOp BinOp.neq 4 (Operand.tmp 41) (Operand.tmp 45) 4, type := 4, pos := "law.go:121", after := #[{ on := 3, ground := Ground.data }, { on := 7, ground := Ground.data }, { on := 2, ground := Ground.guard }], guard := some (2, false) }) (v := .bool false) rfl (by kernel_rfl) (by kernel_rfl) (by kernel_rfl) (fun _ _ _ h => h) (Or.inl ⟨by rfl, fun wx hS => ?_⟩) hH ?_
        · go_simp
        simp only [Act.put, List.setIfInBounds_toArray, List.set_cons_zero, List.set_cons_succ]
        refine wpAnyH_take (i := 9) (oi := { dst := some 47, op := Op.pick (Operand.tmp 40) (Operand.const (Value.bool true)) (Operand.tmp 46), type := 4, pos := "law.go:121", after := #[{ on := 2, ground := Ground.data }, { on := 8, ground := Ground.data }], guard := none }) (v := .bool false) rfl (by kernel_rfl) (by kernel_rfl) (by kernel_rfl) (fun _ _ _ h => h) (Or.inl ⟨by rfl, fun wx hS => ?_⟩) hH ?_
        · go_simp
        simp only [Act.put, List.setIfInBounds_toArray, List.set_cons_zero, List.set_cons_succ]
        refine wpAnyH_take (i := 10) (oi := { dst := some 48, op := Op.move (Operand.tmp 47), type := 4, pos := "law.go:121", after := #[{ on := 9, ground := Ground.data }, { on := 2, ground := Ground.chain }], guard := none }) (v := .bool false) rfl (by kernel_rfl) (by kernel_rfl) (by kernel_rfl) (fun _ _ _ h => h) (Or.inl ⟨by rfl, fun wx hS => ?_⟩) hH ?_
        · go_simp
        simp only [Act.put, List.setIfInBounds_toArray, List.set_cons_zero, List.set_cons_succ]
        refine wpAnyH_take (i := 11) (oi := { dst := some 49, op := Op.move (Operand.tmp 6), type := 4, pos := "law.go:121", after := #[{ on := 10, ground := Ground.guard }], guard := some (10, false) }) (v := .bool false) rfl (by kernel_rfl) (by kernel_rfl) (by kernel_rfl) (fun _ _ _ h => h) (Or.inl ⟨by rfl, fun wx hS => ?_⟩) hH ?_
        · go_simp
        simp only [Act.put, List.setIfInBounds_toArray, List.set_cons_zero, List.set_cons_succ]
        refine wpAnyH_take (i := 12) (oi := { dst := some 50, op := Op.move (Operand.tmp 49), type := 4, pos := "law.go:121", after := #[{ on := 11, ground := Ground.data }, { on := 10, ground := Ground.chain }, { on := 10, ground := Ground.guard }], guard := some (10, false) }) (v := .bool false) rfl (by kernel_rfl) (by kernel_rfl) (by kernel_rfl) (fun _ _ _ h => h) (Or.inl ⟨by rfl, fun wx hS => ?_⟩) hH ?_
        · go_simp
        simp only [Act.put, List.setIfInBounds_toArray, List.set_cons_zero, List.set_cons_succ]
        refine wpAnyH_take (i := 13) (oi := { dst := some 51, op := Op.load 33 (Operand.tmp 5), type := 33, pos := "law.go:121", after := #[{ on := 12, ground := Ground.guard }], guard := some (12, true) }) (v := undef) rfl (by kernel_rfl) (by kernel_rfl) (by kernel_rfl) (fun _ _ _ h => h) (Or.inr ⟨by rfl, rfl⟩) hH ?_
        simp only [Act.put, List.setIfInBounds_toArray, List.set_cons_zero, List.set_cons_succ]
        refine wpAnyH_take (i := 14) (oi := { dst := some 52, op := Op.buildSlice 27 1 #[(0, Operand.tmp 51)], type := 27, pos := "law.go:121", after := #[{ on := 13, ground := Ground.data }, { on := 12, ground := Ground.guard }], guard := some (12, true) }) (v := undef) rfl (by kernel_rfl) (by kernel_rfl) (by kernel_rfl) (fun _ _ _ h => h) (Or.inr ⟨by rfl, rfl⟩) hH ?_
        simp only [Act.put, List.setIfInBounds_toArray, List.set_cons_zero, List.set_cons_succ]
        refine wpAnyH_take (i := 15) (oi := { dst := some 53, op := Op.call { callee := Callee.value (Operand.func 20), args := #[Operand.tmp 52], argTypes := #[27] }, type := 29, pos := "law.go:121", after := #[{ on := 14, ground := Ground.data }, { on := 12, ground := Ground.chain }, { on := 12, ground := Ground.guard }], guard := some (12, true) }) (v := undef) rfl (by kernel_rfl) (by kernel_rfl) (by kernel_rfl) (fun _ _ _ h => h) (Or.inr ⟨by rfl, rfl⟩) hH ?_
        simp only [Act.put, List.setIfInBounds_toArray, List.set_cons_zero, List.set_cons_succ]
        refine wpAnyH_take (i := 16) (oi := { dst := some 54, op := Op.move (Operand.tmp 0), type := 29, pos := "law.go:121", after := #[{ on := 12, ground := Ground.guard }], guard := some (12, true) }) (v := undef) rfl (by kernel_rfl) (by kernel_rfl) (by kernel_rfl) (fun _ _ _ h => h) (Or.inr ⟨by rfl, rfl⟩) hH ?_
        simp only [Act.put, List.setIfInBounds_toArray, List.set_cons_zero, List.set_cons_succ]
        refine wpAnyH_take (i := 17) (oi := { dst := some 55, op := Op.move (Operand.tmp 7), type := 3, pos := "law.go:121", after := #[{ on := 12, ground := Ground.guard }], guard := some (12, true) }) (v := undef) rfl (by kernel_rfl) (by kernel_rfl) (by kernel_rfl) (fun _ _ _ h => h) (Or.inr ⟨by rfl, rfl⟩) hH ?_
        simp only [Act.put, List.setIfInBounds_toArray, List.set_cons_zero, List.set_cons_succ]
        refine wpAnyH_take (i := 18) (oi := { dst := some 56, op := Op.move (Operand.tmp 7), type := 3, pos := "law.go:121", after := #[{ on := 12, ground := Ground.guard }], guard := some (12, true) }) (v := undef) rfl (by kernel_rfl) (by kernel_rfl) (by kernel_rfl) (fun _ _ _ h => h) (Or.inr ⟨by rfl, rfl⟩) hH ?_
        simp only [Act.put, List.setIfInBounds_toArray, List.set_cons_zero, List.set_cons_succ]
        refine wpAnyH_take (i := 19) (oi := { dst := some 57, op := Op.binOp BinOp.add 3 (Operand.tmp 56) (Operand.const (Value.int IntKind.i64 1)) 3, type := 3, pos := "law.go:121", after := #[{ on := 18, ground := Ground.data }, { on := 12, ground := Ground.guard }], guard := some (12, true) }) (v := undef) rfl (by kernel_rfl) (by kernel_rfl) (by kernel_rfl) (fun _ _ _ h => h) (Or.inr ⟨by rfl, rfl⟩) hH ?_
        simp only [Act.put, List.setIfInBounds_toArray, List.set_cons_zero, List.set_cons_succ]
        refine wpAnyH_take (i := 20) (oi := { dst := some 58, op := Op.slice 29 (Operand.tmp 54) (some (Operand.tmp 55)) (some (Operand.tmp 57)) none, type := 29, pos := "law.go:121", after := #[{ on := 16, ground := Ground.data }, { on := 17, ground := Ground.data }, { on := 19, ground := Ground.data }, { on := 12, ground := Ground.guard }], guard := some (12, true) }) (v := undef) rfl (by kernel_rfl) (by kernel_rfl) (by kernel_rfl) (fun _ _ _ h => h) (Or.inr ⟨by rfl, rfl⟩) hH ?_
        simp only [Act.put, List.setIfInBounds_toArray, List.set_cons_zero, List.set_cons_succ]
        refine wpAnyH_take (i := 21) (oi := { dst := some 59, op := Op.call { callee := Callee.value (Operand.func 19), args := #[Operand.tmp 53, Operand.tmp 58], argTypes := #[29, 29] }, type := 4, pos := "law.go:121", after := #[{ on := 15, ground := Ground.data }, { on := 20, ground := Ground.data }, { on := 15, ground := Ground.chain }, { on := 12, ground := Ground.guard }], guard := some (12, true) }) (v := undef) rfl (by kernel_rfl) (by kernel_rfl) (by kernel_rfl) (fun _ _ _ h => h) (Or.inr ⟨by rfl, rfl⟩) hH ?_
        simp only [Act.put, List.setIfInBounds_toArray, List.set_cons_zero, List.set_cons_succ]
        refine wpAnyH_take (i := 22) (oi := { dst := some 60, op := Op.unOp UnOp.not 4 (Operand.tmp 59), type := 4, pos := "law.go:121", after := #[{ on := 21, ground := Ground.data }, { on := 12, ground := Ground.guard }], guard := some (12, true) }) (v := undef) rfl (by kernel_rfl) (by kernel_rfl) (by kernel_rfl) (fun _ _ _ h => h) (Or.inr ⟨by rfl, rfl⟩) hH ?_
        simp only [Act.put, List.setIfInBounds_toArray, List.set_cons_zero, List.set_cons_succ]
        refine wpAnyH_take (i := 23) (oi := { dst := some 61, op := Op.pick (Operand.tmp 50) (Operand.tmp 60) (Operand.const (Value.bool false)), type := 4, pos := "law.go:121", after := #[{ on := 12, ground := Ground.data }, { on := 22, ground := Ground.data }, { on := 10, ground := Ground.guard }], guard := some (10, false) }) (v := .bool false) rfl (by kernel_rfl) (by kernel_rfl) (by kernel_rfl) (fun _ _ _ h => h) (Or.inl ⟨by rfl, fun wx hS => ?_⟩) hH ?_
        · go_simp
        simp only [Act.put, List.setIfInBounds_toArray, List.set_cons_zero, List.set_cons_succ]
        refine wpAnyH_take (i := 24) (oi := { dst := some 62, op := Op.pick (Operand.tmp 48) (Operand.const (Value.bool true)) (Operand.tmp 61), type := 4, pos := "law.go:121", after := #[{ on := 10, ground := Ground.data }, { on := 23, ground := Ground.data }], guard := none }) (v := .bool false) rfl (by kernel_rfl) (by kernel_rfl) (by kernel_rfl) (fun _ _ _ h => h) (Or.inl ⟨by rfl, fun wx hS => ?_⟩) hH ?_
        · go_simp
        simp only [Act.put, List.setIfInBounds_toArray, List.set_cons_zero, List.set_cons_succ]
        refine wpAnyH_done (by kernel_rfl) ?_ _
        refine NoPanic.normal ?_
        have B6 := Lib.hid (B5.out.trans (hH.mono B5.out.size))
        have R6 := Lib.hid (R5.out.below hH (Nat.le_refl _))
        clear hH B5 R5
        generalize y1 = w6 at *
        have PT := Lib.hid (to_any a1 c1 M w6 (by omega) HP32.out R6.out)
        go_wp2_with fail
        with_reducible refine PT.out.mono ?_
        rintro e w7 ⟨⟨v7, rfl, hv7⟩, b7⟩
        have B7 := Lib.hid (B6.out.trans (b7.mono B6.out.size))
        have R7 := Lib.hid (R6.out.below b7 (Nat.le_refl _))
        obtain ⟨a7, c7, rfl, hlc7, hcc7, hz7, hr7⟩ := hv7.row
        have PI := Lib.hid (ids_any a7 c7 M w7 (by omega) HWT.out hr7)
        clear b7 PT B6 R6 hv7 hr7
        go_wp2_with fail
        with_reducible refine PI.out.mono ?_
        rintro e w8 ⟨⟨v8, v9, rfl, i8, i9⟩, b8⟩
        have B8 := Lib.hid (B7.out.trans (b8.mono B7.out.size))
        have R8 := Lib.hid (R7.out.below b8 (Nat.le_refl _))
        obtain ⟨va8, vc8, rfl⟩ := i8.form
        obtain ⟨va9, vc9, rfl⟩ := i9.form
        have I8 := Lib.hid i8
        have I9 := Lib.hid i9
        clear b8 PI B7 R7 i8 i9
        obtain ⟨P, hP⟩ : ∃ P, P = partsL M := ⟨_, rfl⟩
        obtain ⟨T, hT⟩ : ∃ T, T = treesL M := ⟨_, rfl⟩
        rw [← hP] at I8
        rw [← hT] at I9
        rw [← hP, ← hT]
        have EP := Lib.hid hP
        have ET := Lib.hid hT
        clear hP hT
        go_wp2_with fail
        go_loopw [12, 10, 11] (fun j i k wx => ∃ t pl tl : Nat, t ≤ M.length ∧ j = .int .i64 t ∧ i = .int .i64 pl ∧ k = .int .i64 tl ∧ Hid (pl = (partsL (M.take t)).length) ∧ Hid (tl = (treesL (M.take t)).length) ∧ Hid (Below w8.heap.size w8 wx)) (fun j _ _ _ => M.length - (intOf j).toNat)
        case atStart => exact ⟨0, 0, 0, Nat.zero_le _, rfl, rfl, rfl, Lib.hid (by simp [partsL]), Lib.hid (by simp [treesL]), Lib.hid (Below.refl _ _)⟩
        case round =>
          rename World => wx
          obtain ⟨t, pl, tl, ht, rfl, rfl, rfl, HPL0, HTL0, HB⟩ := hrel
          have pt : 0 ≤ (t : Int) := by omega
          by_cases hlt : t < M.length
          · have qt : (t : Int) < (M.length : Int) := by omega
            obtain ⟨b, o, e1, hn⟩ := (R8.out.below HB.out (Nat.le_refl _)).at t hlt
            subst e1
            have EPT := Lib.hid (partsL_take M t hlt)
            have ETT := Lib.hid (treesL_take M t hlt)
            have LP := Lib.hid (partsL_len M)
            have LT := Lib.hid (treesL_len M)
            obtain ⟨n, hnn⟩ : ∃ n, n = M[t] := ⟨_, rfl⟩
            rw [← hnn] at hn EPT ETT
            have GP : Hid (n.kind = 0 → ∀ s (hs : s < n.parts.length), ∃ h : (partsL (M.take t)).length + s < (partsL M).length, (partsL M)[(partsL (M.take t)).length + s] = n.parts[s]) := Lib.hid (by
              subst hnn
              exact parts_get M t hlt)
            have GT : Hid (n.kind = 1 → ∃ h : (treesL (M.take t)).length < (treesL M).length, (treesL M)[(treesL (M.take t)).length] = n.tree) := Lib.hid (by
              subst hnn
              exact trees_get M t hlt)
            clear hnn
            obtain ⟨pa, pc, wf, hid, hr⟩ := hn.form
            have d1 := hr 1 _ rfl
            have d6 := hr 6 _ rfl
            have RT := Lib.hid (tree_range hr)
            have HID := Lib.hid hid
            have WF := Lib.hid wf
            clear hn wf hid hr
            change wx.cell? ⟨b, o + t * 39 + 1, none⟩ = some (.int .i64 n.kind) at d1
            change wx.cell? ⟨b, o + t * 39 + 6, none⟩ = some (.slice pa n.parts.length pc) at d6
            obtain ⟨kd, hkd⟩ : ∃ kd, kd = n.kind := ⟨_, rfl⟩
            rw [← hkd] at d1
            have HKD := Lib.hid hkd
            clear hkd
            by_cases k0 : kd = 0
            · have HK0 : Hid (n.kind = 0) := Lib.hid (by rw [← HKD.out]; exact k0)
              rw [if_pos HK0.out] at EPT
              rw [if_neg (by rw [HK0.out]; decide), List.append_nil] at ETT
              have hb0 : (kd == 0) = true := by simp [k0]
              clear k0
              go_wp2_with fail
              go_loopw [13, 10] (fun m i wy => ∃ s ps : Nat, s ≤ n.parts.length ∧ m = .int .i64 s ∧ i = .int .i64 ps ∧ Hid (ps = pl + s) ∧ Hid (Below wx.heap.size wx wy)) (fun m _ _ => n.parts.length - (intOf m).toNat)
              case atStart => exact ⟨0, pl, Nat.zero_le _, rfl, rfl, Lib.hid rfl, Lib.hid (Below.refl _ _)⟩
              case round =>
                rename World => wy
                obtain ⟨s, ps, hs, rfl, rfl, HPS, HBY⟩ := hrel
                have p_s : 0 ≤ (s : Int) := by omega
                have p_p : 0 ≤ (ps : Int) := by omega
                have d6 := (HBY.out.cell (p := ⟨b, o + t * 39 + 6, none⟩) (block_lt_of_cell d6)).trans d6
                have HBZ := Lib.hid (HB.out.trans (HBY.out.mono HB.out.size))
                by_cases hls : s < n.parts.length
                · have q_s : (s : Int) < (n.parts.length : Int) := by omega
                  obtain ⟨gl, ge⟩ := GP.out HK0.out s hls
                  simp only [← HPL0.out, ← HPS.out, ← EP.out] at gl ge
                  have q_p : (ps : Int) < (P.length : Int) := by omega
                  have q_g : ¬ ((P.length : Int) ≤ (ps : Int)) := by omega
                  obtain ⟨aa, cc, ee, h1a, h2a, -, h32, hv⟩ := I8.out.below HBZ.out (Nat.le_refl _)
                  injection ee with e1 e2 e3
                  subst e1 e3
                  obtain ⟨aa2, cc2, ee2, h1b, h2b, -, h32b, hv2⟩ := HID.out.below HBY.out (Nat.le_refl _)
                  injection ee2 with e1 e2 e3
                  subst e1 e3
                  obtain ⟨vb, vo, e4, hs1⟩ := ids_at hv h32 ps gl
                  obtain ⟨sb, so, e5, ht1⟩ := ids_at hv2 h32b s hls
                  subst e4 e5
                  rw [ge] at hs1
                  have S1 := Lib.hid hs1
                  have S2 := Lib.hid ht1
                  have HP : Hid (n.parts[s].length = 32) := Lib.hid (h32b _ (List.getElem_mem hls))
                  have HPL : Hid ((bvals n.parts[s]).length = 32) := Lib.hid (by rw [bvals_length, HP.out])
                  clear hv hv2 hs1 ht1 h32 h32b ge
                  generalize n.parts[s] = p at *

                  go_upto_region 18 with fail
                  have hD := below_drewN (Below.refl wy.heap.size wy) 1
                  refine wp_region_noPanic ?_
                  refine wp_region_held_drew (S := fun x => Below wy.heap.size wy x) (by kernel_rfl) hD (fun hH => ?_)
                  generalize wy.drew = z0 at *
                  refine wpAnyH_take (i := 0) (oi := { dst := some 92, op := Op.move (Operand.tmp 10), type := 3, pos := "law.go:130", after := #[], guard := none }) (v := .int .i64 (ps : Int)) rfl (by kernel_rfl) (by kernel_rfl) (by kernel_rfl) (fun _ _ _ h => h) (Or.inl ⟨by rfl, fun wx hS => ?_⟩) hH ?_
                  · go_simp
                  simp only [Act.put, List.setIfInBounds_toArray, List.set_cons_zero, List.set_cons_succ]
                  refine wpAnyH_take (i := 1) (oi := { dst := some 93, op := Op.move (Operand.tmp 8), type := 22, pos := "law.go:130", after := #[], guard := none }) (v := .slice (some ⟨vb, vo, none⟩) P.length vc8) rfl (by kernel_rfl) (by kernel_rfl) (by kernel_rfl) (fun _ _ _ h => h) (Or.inl ⟨by rfl, fun wx hS => ?_⟩) hH ?_
                  · go_simp
                  simp only [Act.put, List.setIfInBounds_toArray, List.set_cons_zero, List.set_cons_succ]
                  refine wpAnyH_take (i := 2) (oi := { dst := some 94, op := Op.call { callee := Callee.builtin Builtin.len, args := #[Operand.tmp 93], argTypes := #[22] }, type := 3, pos := "law.go:130", after := #[{ on := 1, ground := Ground.data }], guard := none }) (v := .int .i64 (P.length : Int)) rfl (by kernel_rfl) (by kernel_rfl) (by kernel_rfl) (fun _ _ _ h => h) (Or.inl ⟨by rfl, fun wx hS => ?_⟩) hH ?_
                  · go_simp
                  simp only [Act.put, List.setIfInBounds_toArray, List.set_cons_zero, List.set_cons_succ]
                  refine wpAnyH_take (i := 3) (oi := { dst := some 95, op := Op.binOp BinOp.geq 3 (Operand.tmp 92) (Operand.tmp 94) 3, type := 4, pos := "law.go:130", after := #[{ on := 0, ground := Ground.data }, { on := 2, ground := Ground.data }], guard := none }) (v := .bool false) rfl (by kernel_rfl) (by kernel_rfl) (by kernel_rfl) (fun _ _ _ h => h) (Or.inl ⟨by rfl, fun wx hS => ?_⟩) hH ?_
                  · go_simp
                  simp only [Act.put, List.setIfInBounds_toArray, List.set_cons_zero, List.set_cons_succ]
                  refine wpAnyH_take (i := 4) (oi := { dst := some 96, op := Op.move (Operand.tmp 95), type := 4, pos := "law.go:130", after := #[{ on := 3, ground := Ground.data }], guard := none }) (v := .bool false) rfl (by kernel_rfl) (by kernel_rfl) (by kernel_rfl) (fun _ _ _ h => h) (Or.inl ⟨by rfl, fun wx hS => ?_⟩) hH ?_
                  · go_simp
                  simp only [Act.put, List.setIfInBounds_toArray, List.set_cons_zero, List.set_cons_succ]
                  refine wpAnyH_take (i := 5) (oi := { dst := some 97, op := Op.move (Operand.tmp 8), type := 22, pos := "law.go:130", after := #[{ on := 4, ground := Ground.guard }], guard := some (4, false) }) (v := .slice (some ⟨vb, vo, none⟩) P.length vc8) rfl (by kernel_rfl) (by kernel_rfl) (by kernel_rfl) (fun _ _ _ h => h) (Or.inl ⟨by rfl, fun wx hS => ?_⟩) hH ?_
                  · go_simp
                  simp only [Act.put, List.setIfInBounds_toArray, List.set_cons_zero, List.set_cons_succ]
                  refine wpAnyH_take (i := 6) (oi := { dst := some 98, op := Op.move (Operand.tmp 10), type := 3, pos := "law.go:130", after := #[{ on := 4, ground := Ground.guard }], guard := some (4, false) }) (v := .int .i64 (ps : Int)) rfl (by kernel_rfl) (by kernel_rfl) (by kernel_rfl) (fun _ _ _ h => h) (Or.inl ⟨by rfl, fun wx hS => ?_⟩) hH ?_
                  · go_simp
                  simp only [Act.put, List.setIfInBounds_toArray, List.set_cons_zero, List.set_cons_succ]
                  refine wpAnyH_take (i := 7) (oi := { dst := some 99, op := Op.indexAddr 22 (Operand.tmp 97) (Operand.tmp 98), type := 0, pos := "law.go:130", after := #[{ on := 5, ground := Ground.data }, { on := 6, ground := Ground.data }, { on := 4, ground := Ground.guard }], guard := some (4, false) }) (v := .pointer (some ⟨vb, vo + ps * 32, none⟩)) rfl (by kernel_rfl) (by kernel_rfl) (by kernel_rfl) (fun _ _ _ h => h) (Or.inl ⟨by rfl, fun wx hS => ?_⟩) hH ?_
                  · go_simp
                  simp only [Act.put, List.setIfInBounds_toArray, List.set_cons_zero, List.set_cons_succ]
                  refine wpAnyH_take (i := 8) (oi := { dst := some 100, op := Op.load 24 (Operand.tmp 99), type := 24, pos := "law.go:130", after := #[{ on := 7, ground := Ground.data }, { on := 4, ground := Ground.guard }], guard := some (4, false) }) (v := .agg (bvals p).toArray) rfl (by kernel_rfl) (by kernel_rfl) (by kernel_rfl) (fun _ _ _ h => h) (yieldsIf_load_mid (by rfl) 24 _ rfl (vb) (vo + ps * 32) rfl (bvals p) _ (fun wx hS => range_below S1.out hS (Nat.le_refl _)) Try.underlying24 rfl (by rw [HPL.out]; kernel_rfl)) hH ?_
                  simp only [Act.put, List.setIfInBounds_toArray, List.set_cons_zero, List.set_cons_succ]
                  refine wpAnyH_take (i := 9) (oi := { dst := some 101, op := Op.move (Operand.tmp 0), type := 29, pos := "law.go:130", after := #[{ on := 4, ground := Ground.guard }], guard := some (4, false) }) (v := .slice (some ⟨b, o, none⟩) M.length c1) rfl (by kernel_rfl) (by kernel_rfl) (by kernel_rfl) (fun _ _ _ h => h) (Or.inl ⟨by rfl, fun wx hS => ?_⟩) hH ?_
                  · go_simp
                  simp only [Act.put, List.setIfInBounds_toArray, List.set_cons_zero, List.set_cons_succ]
                  refine wpAnyH_take (i := 10) (oi := { dst := some 102, op := Op.move (Operand.tmp 12), type := 3, pos := "law.go:130", after := #[{ on := 4, ground := Ground.guard }], guard := some (4, false) }) (v := .int .i64 (t : Int)) rfl (by kernel_rfl) (by kernel_rfl) (by kernel_rfl) (fun _ _ _ h => h) (Or.inl ⟨by rfl, fun wx hS => ?_⟩) hH ?_
                  · go_simp
                  simp only [Act.put, List.setIfInBounds_toArray, List.set_cons_zero, List.set_cons_succ]
                  refine wpAnyH_take (i := 11) (oi := { dst := some 103, op := Op.indexAddr 29 (Operand.tmp 101) (Operand.tmp 102), type := 0, pos := "law.go:130", after := #[{ on := 9, ground := Ground.data }, { on := 10, ground := Ground.data }, { on := 4, ground := Ground.guard }], guard := some (4, false) }) (v := .pointer (some ⟨b, o + t * 39, none⟩)) rfl (by kernel_rfl) (by kernel_rfl) (by kernel_rfl) (fun _ _ _ h => h) (Or.inl ⟨by rfl, fun wx hS => ?_⟩) hH ?_
                  · go_simp
                  simp only [Act.put, List.setIfInBounds_toArray, List.set_cons_zero, List.set_cons_succ]
                  refine wpAnyH_take (i := 12) (oi := { dst := some 104, op := Op.fieldAddr 26 (Operand.tmp 103) 6, type := 0, pos := "law.go:130", after := #[{ on := 11, ground := Ground.data }, { on := 4, ground := Ground.guard }], guard := some (4, false) }) (v := .pointer (some ⟨b, o + t * 39 + 6, none⟩)) rfl (by kernel_rfl) (by kernel_rfl) (by kernel_rfl) (fun _ _ _ h => h) (Or.inl ⟨by rfl, fun wx hS => ?_⟩) hH ?_
                  · go_simp
                  simp only [Act.put, List.setIfInBounds_toArray, List.set_cons_zero, List.set_cons_succ]
                  refine wpAnyH_take (i := 13) (oi := { dst := some 105, op := Op.load 22 (Operand.tmp 104), type := 22, pos := "law.go:130", after := #[{ on := 12, ground := Ground.data }, { on := 4, ground := Ground.guard }], guard := some (4, false) }) (v := .slice (some ⟨sb, so, none⟩) n.parts.length pc) rfl (by kernel_rfl) (by kernel_rfl) (by kernel_rfl) (fun _ _ _ h => h) (Or.inl ⟨by rfl, fun wx hS => ?_⟩) hH ?_
                  · have c := (hS.cell (p := ⟨b, o + t * 39 + 6, none⟩) (block_lt_of_cell d6)).trans d6; go_simp
                  simp only [Act.put, List.setIfInBounds_toArray, List.set_cons_zero, List.set_cons_succ]
                  refine wpAnyH_take (i := 14) (oi := { dst := some 106, op := Op.move (Operand.tmp 13), type := 3, pos := "law.go:130", after := #[{ on := 4, ground := Ground.guard }], guard := some (4, false) }) (v := .int .i64 (s : Int)) rfl (by kernel_rfl) (by kernel_rfl) (by kernel_rfl) (fun _ _ _ h => h) (Or.inl ⟨by rfl, fun wx hS => ?_⟩) hH ?_
                  · go_simp
                  simp only [Act.put, List.setIfInBounds_toArray, List.set_cons_zero, List.set_cons_succ]
                  refine wpAnyH_take (i := 15) (oi := { dst := some 107, op := Op.indexAddr 22 (Operand.tmp 105) (Operand.tmp 106), type := 0, pos := "law.go:130", after := #[{ on := 13, ground := Ground.data }, { on := 14, ground := Ground.data }, { on := 4, ground := Ground.guard }], guard := some (4, false) }) (v := .pointer (some ⟨sb, so + s * 32, none⟩)) rfl (by kernel_rfl) (by kernel_rfl) (by kernel_rfl) (fun _ _ _ h => h) (Or.inl ⟨by rfl, fun wx hS => ?_⟩) hH ?_
                  · go_simp
                  simp only [Act.put, List.setIfInBounds_toArray, List.set_cons_zero, List.set_cons_succ]
                  refine wpAnyH_take (i := 16) (oi := { dst := some 108, op := Op.load 24 (Operand.tmp 107), type := 24, pos := "law.go:130", after := #[{ on := 15, ground := Ground.data }, { on := 4, ground := Ground.guard }], guard := some (4, false) }) (v := .agg (bvals p).toArray) rfl (by kernel_rfl) (by kernel_rfl) (by kernel_rfl) (fun _ _ _ h => h) (yieldsIf_load_mid (by rfl) 24 _ rfl (sb) (so + s * 32) rfl (bvals p) _ (fun wx hS => range_below S2.out hS (Nat.le_refl _)) Try.underlying24 rfl (by rw [HPL.out]; kernel_rfl)) hH ?_
                  simp only [Act.put, List.setIfInBounds_toArray, List.set_cons_zero, List.set_cons_succ]
                  refine wpAnyH_take (i := 17) (oi := { dst := some 109, op := Op.binOp BinOp.neq 24 (Operand.tmp 100) (Operand.tmp 108) 24, type := 4, pos := "law.go:130", after := #[{ on := 8, ground := Ground.data }, { on := 16, ground := Ground.data }, { on := 4, ground := Ground.guard }], guard := some (4, false) }) (v := .bool false) rfl (by kernel_rfl) (by kernel_rfl) (by kernel_rfl) (fun _ _ _ h => h) (yields_same (by rfl) _ _ rfl p HP.out rfl rfl) hH ?_
                  simp only [Act.put, List.setIfInBounds_toArray, List.set_cons_zero, List.set_cons_succ]
                  refine wpAnyH_take (i := 18) (oi := { dst := some 110, op := Op.pick (Operand.tmp 96) (Operand.const (Value.bool true)) (Operand.tmp 109), type := 4, pos := "law.go:130", after := #[{ on := 4, ground := Ground.data }, { on := 17, ground := Ground.data }], guard := none }) (v := .bool false) rfl (by kernel_rfl) (by kernel_rfl) (by kernel_rfl) (fun _ _ _ h => h) (Or.inl ⟨by rfl, fun wx hS => ?_⟩) hH ?_
                  · go_simp
                  simp only [Act.put, List.setIfInBounds_toArray, List.set_cons_zero, List.set_cons_succ]
                  refine wpAnyH_done (by kernel_rfl) ?_ _
                  refine NoPanic.normal ?_
                  have HBW := Lib.hid (HBY.out.trans (hH.mono HBY.out.size))
                  clear hD hH d6 S1 S2
                  go_wp2_with fail
                  go_roundw
                  case rel => exact ⟨s + 1, ps + 1, by omega, by go_num, by go_num, Lib.hid (by rw [HPS.out]; omega), HBW⟩
                  case measure => simp [intOf]; omega
                · obtain rfl : s = n.parts.length := by omega
                  have q_s : ¬ ((n.parts.length : Int) < (n.parts.length : Int)) := by omega
                  have HP2 : Hid (ps = (partsL (M.take (t + 1))).length) := Lib.hid (by rw [EPT.out, List.length_append, ← HPL0.out, HPS.out])
                  have HT2 : Hid (tl = (treesL (M.take (t + 1))).length) := Lib.hid (by rw [ETT.out, HTL0.out])
                  go_wp2_with fail
                  go_roundw
                  case rel => exact ⟨t + 1, ps, tl, by omega, by go_num, rfl, rfl, HP2, HT2, HBZ⟩
                  case measure => simp [intOf]; omega
            · have HK0 : Hid (¬ n.kind = 0) := Lib.hid (by rw [← HKD.out]; exact k0)
              rw [if_neg HK0.out, List.append_nil] at EPT
              have hb0 : (kd == 0) = false := by simp [k0]
              have HP2 : Hid (pl = (partsL (M.take (t + 1))).length) := Lib.hid (by rw [EPT.out, HPL0.out])
              by_cases k1 : kd = 1
              · have HK1 : Hid (n.kind = 1) := Lib.hid (by rw [← HKD.out]; exact k1)
                rw [if_pos HK1.out] at ETT
                have hb1 : (kd == 1) = true := by simp [k1]
                clear k0 k1
                have p_p : 0 ≤ (tl : Int) := by omega
                obtain ⟨gl, ge⟩ := GT.out HK1.out
                simp only [← HTL0.out, ← ET.out] at gl ge
                have q_p : (tl : Int) < (T.length : Int) := by omega
                have q_g : ¬ ((T.length : Int) ≤ (tl : Int)) := by omega
                obtain ⟨aa, cc, ee, h1a, h2a, -, h32, hv⟩ := I9.out.below HB.out (Nat.le_refl _)
                injection ee with e1 e2 e3
                subst e1 e3
                obtain ⟨vb, vo, e4, hs1⟩ := ids_at hv h32 tl gl
                subst e4
                rw [ge] at hs1
                have S1 := Lib.hid hs1
                have S2 := Lib.hid RT.out
                have HP : Hid (n.tree.length = 32) := Lib.hid WF.out.tree
                have HPL : Hid ((bvals n.tree).length = 32) := Lib.hid (by rw [bvals_length, HP.out])
                have HT2 : Hid (tl + 1 = (treesL (M.take (t + 1))).length) := Lib.hid (by rw [ETT.out, List.length_append, ← HTL0.out]; rfl)
                clear hv hs1 h32 ge
                generalize n.tree = p at *

                go_upto_region 22 with fail
                have hD := below_drewN (Below.refl wx.heap.size wx) 1
                refine wp_region_noPanic ?_
                refine wp_region_held_drew (S := fun x => Below wx.heap.size wx x) (by kernel_rfl) hD (fun hH => ?_)
                generalize wx.drew = z0 at *
                refine wpAnyH_take (i := 0) (oi := { dst := some 115, op := Op.move (Operand.tmp 11), type := 3, pos := "law.go:136", after := #[], guard := none }) (v := .int .i64 (tl : Int)) rfl (by kernel_rfl) (by kernel_rfl) (by kernel_rfl) (fun _ _ _ h => h) (Or.inl ⟨by rfl, fun wx hS => ?_⟩) hH ?_
                · go_simp
                simp only [Act.put, List.setIfInBounds_toArray, List.set_cons_zero, List.set_cons_succ]
                refine wpAnyH_take (i := 1) (oi := { dst := some 116, op := Op.move (Operand.tmp 9), type := 22, pos := "law.go:136", after := #[], guard := none }) (v := .slice (some ⟨vb, vo, none⟩) T.length vc9) rfl (by kernel_rfl) (by kernel_rfl) (by kernel_rfl) (fun _ _ _ h => h) (Or.inl ⟨by rfl, fun wx hS => ?_⟩) hH ?_
                · go_simp
                simp only [Act.put, List.setIfInBounds_toArray, List.set_cons_zero, List.set_cons_succ]
                refine wpAnyH_take (i := 2) (oi := { dst := some 117, op := Op.call { callee := Callee.builtin Builtin.len, args := #[Operand.tmp 116], argTypes := #[22] }, type := 3, pos := "law.go:136", after := #[{ on := 1, ground := Ground.data }], guard := none }) (v := .int .i64 (T.length : Int)) rfl (by kernel_rfl) (by kernel_rfl) (by kernel_rfl) (fun _ _ _ h => h) (Or.inl ⟨by rfl, fun wx hS => ?_⟩) hH ?_
                · go_simp
                simp only [Act.put, List.setIfInBounds_toArray, List.set_cons_zero, List.set_cons_succ]
                refine wpAnyH_take (i := 3) (oi := { dst := some 118, op := Op.binOp BinOp.geq 3 (Operand.tmp 115) (Operand.tmp 117) 3, type := 4, pos := "law.go:136", after := #[{ on := 0, ground := Ground.data }, { on := 2, ground := Ground.data }], guard := none }) (v := .bool false) rfl (by kernel_rfl) (by kernel_rfl) (by kernel_rfl) (fun _ _ _ h => h) (Or.inl ⟨by rfl, fun wx hS => ?_⟩) hH ?_
                · go_simp
                simp only [Act.put, List.setIfInBounds_toArray, List.set_cons_zero, List.set_cons_succ]
                refine wpAnyH_take (i := 4) (oi := { dst := some 119, op := Op.move (Operand.tmp 118), type := 4, pos := "law.go:136", after := #[{ on := 3, ground := Ground.data }], guard := none }) (v := .bool false) rfl (by kernel_rfl) (by kernel_rfl) (by kernel_rfl) (fun _ _ _ h => h) (Or.inl ⟨by rfl, fun wx hS => ?_⟩) hH ?_
                · go_simp
                simp only [Act.put, List.setIfInBounds_toArray, List.set_cons_zero, List.set_cons_succ]
                refine wpAnyH_take (i := 5) (oi := { dst := some 120, op := Op.move (Operand.tmp 9), type := 22, pos := "law.go:136", after := #[{ on := 4, ground := Ground.guard }], guard := some (4, false) }) (v := .slice (some ⟨vb, vo, none⟩) T.length vc9) rfl (by kernel_rfl) (by kernel_rfl) (by kernel_rfl) (fun _ _ _ h => h) (Or.inl ⟨by rfl, fun wx hS => ?_⟩) hH ?_
                · go_simp
                simp only [Act.put, List.setIfInBounds_toArray, List.set_cons_zero, List.set_cons_succ]
                refine wpAnyH_take (i := 6) (oi := { dst := some 121, op := Op.move (Operand.tmp 11), type := 3, pos := "law.go:136", after := #[{ on := 4, ground := Ground.guard }], guard := some (4, false) }) (v := .int .i64 (tl : Int)) rfl (by kernel_rfl) (by kernel_rfl) (by kernel_rfl) (fun _ _ _ h => h) (Or.inl ⟨by rfl, fun wx hS => ?_⟩) hH ?_
                · go_simp
                simp only [Act.put, List.setIfInBounds_toArray, List.set_cons_zero, List.set_cons_succ]
                refine wpAnyH_take (i := 7) (oi := { dst := some 122, op := Op.indexAddr 22 (Operand.tmp 120) (Operand.tmp 121), type := 0, pos := "law.go:136", after := #[{ on := 5, ground := Ground.data }, { on := 6, ground := Ground.data }, { on := 4, ground := Ground.guard }], guard := some (4, false) }) (v := .pointer (some ⟨vb, vo + tl * 32, none⟩)) rfl (by kernel_rfl) (by kernel_rfl) (by kernel_rfl) (fun _ _ _ h => h) (Or.inl ⟨by rfl, fun wx hS => ?_⟩) hH ?_
                · go_simp
                simp only [Act.put, List.setIfInBounds_toArray, List.set_cons_zero, List.set_cons_succ]
                refine wpAnyH_take (i := 8) (oi := { dst := some 123, op := Op.load 24 (Operand.tmp 122), type := 24, pos := "law.go:136", after := #[{ on := 7, ground := Ground.data }, { on := 4, ground := Ground.guard }], guard := some (4, false) }) (v := .agg (bvals p).toArray) rfl (by kernel_rfl) (by kernel_rfl) (by kernel_rfl) (fun _ _ _ h => h) (yieldsIf_load_mid (by rfl) 24 _ rfl (vb) (vo + tl * 32) rfl (bvals p) _ (fun wx hS => range_below S1.out hS (Nat.le_refl _)) Try.underlying24 rfl (by rw [HPL.out]; kernel_rfl)) hH ?_
                simp only [Act.put, List.setIfInBounds_toArray, List.set_cons_zero, List.set_cons_succ]
                refine wpAnyH_take (i := 9) (oi := { dst := some 124, op := Op.move (Operand.tmp 0), type := 29, pos := "law.go:136", after := #[{ on := 4, ground := Ground.guard }], guard := some (4, false) }) (v := .slice (some ⟨b, o, none⟩) M.length c1) rfl (by kernel_rfl) (by kernel_rfl) (by kernel_rfl) (fun _ _ _ h => h) (Or.inl ⟨by rfl, fun wx hS => ?_⟩) hH ?_
                · go_simp
                simp only [Act.put, List.setIfInBounds_toArray, List.set_cons_zero, List.set_cons_succ]
                refine wpAnyH_take (i := 10) (oi := { dst := some 125, op := Op.move (Operand.tmp 12), type := 3, pos := "law.go:136", after := #[{ on := 4, ground := Ground.guard }], guard := some (4, false) }) (v := .int .i64 (t : Int)) rfl (by kernel_rfl) (by kernel_rfl) (by kernel_rfl) (fun _ _ _ h => h) (Or.inl ⟨by rfl, fun wx hS => ?_⟩) hH ?_
                · go_simp
                simp only [Act.put, List.setIfInBounds_toArray, List.set_cons_zero, List.set_cons_succ]
                refine wpAnyH_take (i := 11) (oi := { dst := some 126, op := Op.indexAddr 29 (Operand.tmp 124) (Operand.tmp 125), type := 0, pos := "law.go:136", after := #[{ on := 9, ground := Ground.data }, { on := 10, ground := Ground.data }, { on := 4, ground := Ground.guard }], guard := some (4, false) }) (v := .pointer (some ⟨b, o + t * 39, none⟩)) rfl (by kernel_rfl) (by kernel_rfl) (by kernel_rfl) (fun _ _ _ h => h) (Or.inl ⟨by rfl, fun wx hS => ?_⟩) hH ?_
                · go_simp
                simp only [Act.put, List.setIfInBounds_toArray, List.set_cons_zero, List.set_cons_succ]
                refine wpAnyH_take (i := 12) (oi := { dst := some 127, op := Op.fieldAddr 26 (Operand.tmp 126) 7, type := 0, pos := "law.go:136", after := #[{ on := 11, ground := Ground.data }, { on := 4, ground := Ground.guard }], guard := some (4, false) }) (v := .pointer (some ⟨b, o + t * 39 + 7, none⟩)) rfl (by kernel_rfl) (by kernel_rfl) (by kernel_rfl) (fun _ _ _ h => h) (Or.inl ⟨by rfl, fun wx hS => ?_⟩) hH ?_
                · go_simp
                simp only [Act.put, List.setIfInBounds_toArray, List.set_cons_zero, List.set_cons_succ]
                refine wpAnyH_take (i := 13) (oi := { dst := some 128, op := Op.load 24 (Operand.tmp 127), type := 24, pos := "law.go:136", after := #[{ on := 12, ground := Ground.data }, { on := 4, ground := Ground.guard }], guard := some (4, false) }) (v := .agg (bvals p).toArray) rfl (by kernel_rfl) (by kernel_rfl) (by kernel_rfl) (fun _ _ _ h => h) (yieldsIf_load_mid (by rfl) 24 _ rfl (b) (o + t * 39 + 7) rfl (bvals p) _ (fun wx hS => range_below S2.out hS (Nat.le_refl _)) Try.underlying24 rfl (by rw [HPL.out]; kernel_rfl)) hH ?_
                simp only [Act.put, List.setIfInBounds_toArray, List.set_cons_zero, List.set_cons_succ]
                refine wpAnyH_take (i := 14) (oi := { dst := some 129, op := Op.binOp BinOp.neq 24 (Operand.tmp 123) (Operand.tmp 128) 24, type := 4, pos := "law.go:136", after := #[{ on := 8, ground := Ground.data }, { on := 13, ground := Ground.data }, { on := 4, ground := Ground.guard }], guard := some (4, false) }) (v := .bool false) rfl (by kernel_rfl) (by kernel_rfl) (by kernel_rfl) (fun _ _ _ h => h) (yields_same (by rfl) _ _ rfl p HP.out rfl rfl) hH ?_
                simp only [Act.put, List.setIfInBounds_toArray, List.set_cons_zero, List.set_cons_succ]
                refine wpAnyH_take (i := 15) (oi := { dst := some 130, op := Op.pick (Operand.tmp 119) (Operand.const (Value.bool true)) (Operand.tmp 129), type := 4, pos := "law.go:136", after := #[{ on := 4, ground := Ground.data }, { on := 14, ground := Ground.data }], guard := none }) (v := .bool false) rfl (by kernel_rfl) (by kernel_rfl) (by kernel_rfl) (fun _ _ _ h => h) (Or.inl ⟨by rfl, fun wx hS => ?_⟩) hH ?_
                · go_simp
                simp only [Act.put, List.setIfInBounds_toArray, List.set_cons_zero, List.set_cons_succ]
                refine wpAnyH_done (by kernel_rfl) ?_ _
                refine NoPanic.normal ?_
                have HBW := Lib.hid (HB.out.trans (hH.mono HB.out.size))
                clear hD hH d6 S1 S2 d1
                go_wp2_with fail
                go_roundw
                case rel => exact ⟨t + 1, pl, tl + 1, by omega, by go_num, rfl, by go_num, HP2, HT2, HBW⟩
                case measure => simp [intOf]; omega
              · rw [if_neg (by rw [← HKD.out]; exact k1), List.append_nil] at ETT
                have hb1 : (kd == 1) = false := by simp [k1]
                have HT2 : Hid (tl = (treesL (M.take (t + 1))).length) := Lib.hid (by rw [ETT.out, HTL0.out])
                clear k0 k1
                go_wp2_with fail
                go_roundw
                case rel => exact ⟨t + 1, pl, tl, by omega, by go_num, rfl, rfl, HP2, HT2, HB⟩
                case measure => simp [intOf]; omega
          · obtain rfl : t = M.length := by omega
            have qt : ¬ ((M.length : Int) < (M.length : Int)) := by omega
            obtain rfl : pl = P.length := by rw [HPL0.out, List.take_length, EP.out]
            obtain rfl : tl = T.length := by rw [HTL0.out, List.take_length, ET.out]
            have B9 := Lib.hid (B8.out.trans (HB.out.mono B8.out.size))
            go_wp2_with fail
            go_ret
            exact ⟨rfl, B9.out⟩
end Go.Proofs.Ytjgmhaajcglpmaa
