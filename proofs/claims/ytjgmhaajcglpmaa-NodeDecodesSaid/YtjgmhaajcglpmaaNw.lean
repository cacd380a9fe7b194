/- A node is written. -/
import Derived.Test.YtjgmhaajcglpmaaNr
namespace Go.Proofs.Ytjgmhaajcglpmaa
open Go.RowKit

theorem join2 {α β : Type} {Q H : α → β → World → Prop} {G : Prop} (main : (∀ x y w, H x y w → Q x y w) → G) (rest : ∀ x y w, H x y w → Q x y w) : G := main rest
theorem join1 {α : Type} {Q H : α → World → Prop} {G : Prop} (main : (∀ x w, H x w → Q x w) → G) (rest : ∀ x w, H x w → Q x w) : G := main rest
theorem wpAnyH_listed {P : Program} {md : Region.Mode} {ops : Array Oper} {Q : Exit → Act → World → Prop} {S : World → Prop} {fuel : Nat} {L L2 : Array Bool} {a : Act} {w : World} (h : L = L2) (g : wpAnyH P md ops Q S fuel L2 a w) : wpAnyH P md ops Q S fuel L a w := h ▸ g
theorem alloc_below (w : World) (o : Obj) : Below w.heap.size w (w.alloc o) := (Below.refl _ _).alloc (Nat.le_refl _) _
/-- A block of things that aren't bytes is there, whatever the writer does. -/
theorem kept_vals {B k b : Nat} {w : World} {cs : List Value} {t : TypeId} (h : blockIs w b cs t) (ht : t ≠ 5) (hne : b ≠ k) : ∀ w', Below B w w' → KeptT k w w' → valsIn w' (some ⟨b, 0, none⟩) cs := fun w' _ hk => by
  have hb := hk.is h hne ht
  refine Or.inr ⟨_, _, rfl, fun j hj => ?_⟩
  rw [Nat.zero_add]
  exact hb.cell j
theorem text1L (B k b : Nat) (s : List UInt8 × Int) (l : List UInt8) (w : World) (h : OutAt w B k s) (hb : blockIs w b [.string (str l)] 9) (hne : b ≠ k) (hs : s.1.length ≤ 100000000) (hl : l.length ≤ 200000) :
    Calls Try.prog 52 #[.pointer (some ⟨k, 0, none⟩), .slice (some ⟨b, 0, none⟩) 1 1] w fun e w' => e = .returned (.pointer (some ⟨k, 0, none⟩)) ∧ OutAt w' B k (outText s l) ∧ Below B w w' ∧ KeptT k w w' :=
  texts_any B k s (some ⟨b, 0, none⟩) [l] 1 w 200000 (fun z hz => by rw [List.mem_singleton.1 hz]; exact hl) (by decide) (by simp; omega) h (kept_vals hb (by decide) hne)
theorem numsL (B k b : Nat) (s : List UInt8 × Int) (zs : List Int) (n : Nat) (hn : n = zs.length) (w : World) (h : OutAt w B k s) (hb : blockIs w b (zvals zs) 3) (hne : b ≠ k) (hx : ∀ z ∈ zs, (Lit.int .i64 z).wf = true) (hl : s.1.length ≤ 100000000) (hz : zs.length ≤ 40000) :
    Calls Try.prog 34 #[.pointer (some ⟨k, 0, none⟩), .slice (some ⟨b, 0, none⟩) n n] w fun e w' => e = .returned (.pointer (some ⟨k, 0, none⟩)) ∧ OutAt w' B k (outNums s zs) ∧ Below B w w' ∧ KeptT k w w' := by
  subst hn
  exact nums_any B k s (some ⟨b, 0, none⟩) zs zs.length w h hx hl hz (kept_vals hb (by decide) hne)
theorem OutAt.al {w : World} {B k : Nat} {s : List UInt8 × Int} (h : OutAt w B k s) (o : Obj) : OutAt (w.alloc o) B k s := h.below (alloc_below w o)
/-- What a writer holds behind a node. -/
def outParts (s : List UInt8 × Int) (P : List (List UInt8)) : List UInt8 × Int := P.foldl outRaw s
def Nd.out (s : List UInt8 × Int) (n : Nd) : List UInt8 × Int :=
  if n.kind = 0 then outParts (outNums (outNums (outText s n.name) [n.kind, n.mode, n.time]) [n.size, n.parts.length]) n.parts
  else if n.kind = 1 then outRaw (outNums (outText s n.name) [n.kind, n.mode, n.time]) n.tree
  else if n.kind = 2 then outText (outNums (outText s n.name) [n.kind, n.mode, n.time]) n.target
  else outNums (outText s n.name) [n.kind, n.mode, n.time]
theorem outRaw_len (s : List UInt8 × Int) (l : List UInt8) : (outRaw s l).1.length ≤ s.1.length + l.length := by
  unfold outRaw
  split
  · omega
  · show (s.1 ++ l).length ≤ _
    rw [List.length_append]
    omega
theorem outParts_len (s : List UInt8 × Int) (P : List (List UInt8)) (h : ∀ p ∈ P, p.length = 32) : (outParts s P).1.length ≤ s.1.length + 32 * P.length := by
  induction P generalizing s with
  | nil => simp [outParts]
  | cons p P ih =>
    have h1 := ih (outRaw s p) (fun q hq => h q (List.mem_cons_of_mem _ hq))
    have h2 := outRaw_len s p
    have h3 := h p List.mem_cons_self
    show (outParts (outRaw s p) P).1.length ≤ _
    rw [List.length_cons]
    omega
theorem outParts_take (s : List UInt8 × Int) (P : List (List UInt8)) (j : Nat) (h : j < P.length) : outParts s (P.take (j + 1)) = outRaw (outParts s (P.take j)) P[j] := by
  unfold outParts
  rw [List.take_succ_eq_append_getElem h, List.foldl_append]
  rfl
theorem idcells_get : ∀ (P : List (List UInt8)), (∀ p ∈ P, p.length = 32) → ∀ (n : Nat) (hn : n < P.length) (j : Nat), j < 32 → (idcells P)[n * 32 + j]? = (bvals P[n])[j]?
  | [], _, n, hn, _, _ => absurd hn (Nat.not_lt_zero n)
  | p :: P, h, n, hn, j, hj => by
    have hp : (bvals p).length = 32 := by rw [bvals_length, h p (by simp)]
    rw [idcells, List.flatMap_cons]
    cases n with
    | zero =>
      rw [List.getElem?_append_left (by omega)]
      simp
    | succ n =>
      rw [List.getElem?_append_right (by omega)]
      have := idcells_get P (fun m hm => h m (by simp [hm])) n (by simpa using hn) j hj
      rw [idcells] at this
      rw [show (n + 1) * 32 + j - (bvals p).length = n * 32 + j by omega]
      simpa using this
theorem idcells_length (P : List (List UInt8)) (h : ∀ p ∈ P, p.length = 32) : (idcells P).length = P.length * 32 := by
  induction P with
  | nil => rfl
  | cons p P ih =>
    rw [idcells, List.flatMap_cons, List.length_append, bvals_length, h p (by simp), List.length_cons]
    have := ih (fun m hm => h m (by simp [hm]))
    rw [idcells] at this
    omega
theorem ids_at {w : World} {a : Option Addr} {P : List (List UInt8)} (h : valsIn w a (idcells P)) (h32 : ∀ p ∈ P, p.length = 32) (j : Nat) (hj : j < P.length) : ∃ b o, a = some ⟨b, o, none⟩ ∧ w.rangeAt b (o + j * 32) (bvals P[j]) := by
  have hlen := idcells_length P h32
  rcases h with h | ⟨b, o, e, h⟩
  · rw [h] at hlen; simp at hlen; omega
  · refine ⟨b, o, e, fun t u hu => ?_⟩
    have hl : (bvals P[j]).length = 32 := by rw [bvals_length, h32 _ (List.getElem_mem hj)]
    have ht := (List.getElem?_eq_some_iff.1 hu).1
    have e1 := idcells_get P h32 j hj t (by omega)
    rw [show o + j * 32 + t = o + (j * 32 + t) by omega, h (j * 32 + t) (by rw [hlen]; omega), e1, hu]
theorem zero_id (w : World) : (zeroValue 24).run Try.prog w = .ok (.agg (bvals noughts).toArray) w := by kernel_rfl
theorem info_id : (Try.prog.info? 24).map (·.size) = some 32 := by kernel_rfl
theorem bvals_one (l : List UInt8) : ∀ v ∈ bvals l, v.oneCell' = true := by
  intro v hv
  obtain ⟨q, -, rfl⟩ := List.mem_map.1 hv
  rfl
theorem bytes_range {w : World} {b o : Nat} {l : List UInt8} (h : w.rangeAt b o (bvals l)) : bytesIn w (some ⟨b, o, none⟩) l :=
  Or.inr ⟨b, o, rfl, fun j hj => h j _ (by simp [bvals, hj])⟩
/-- A new name of a blob, and what it is. -/
theorem store_id {w : World} {ops : Array Oper} {rest : List Oper} {o : Oper} {a : Act} {Q : Exit → Act → World → Prop} (hgd : o.guard = none) (x y : Operand) (ho : o.op = .store 24 x y)
    (l : List UInt8) (hx : a.eval x = .pointer (some ⟨w.heap.size, 0, none⟩)) (hy : a.eval y = .agg (bvals l).toArray) (hc : l.length = 32)
    (h : ∀ w', Hid (blockIs w' w.heap.size (bvals l) 24) → Hid (Below w.heap.size w w') → wpList Try.prog ops Q rest (a.put o.dst undef) w') : wpList Try.prog ops Q (o :: rest) a (w.alloc (.cells (bvals noughts).toArray 24 (0, 0))) := by
  have hz : (bvals noughts).length = 32 := by rw [bvals_length]; rfl
  have hb : (bvals l).length = 32 := by rw [bvals_length, hc]
  refine wpList_store_block hgd 24 x y ho w.heap.size 0 (bvals l) hx hy (bvals noughts) 24 (blockIs.new w _ _) (by rw [hb]; exact info_id) (by omega) (bvals_one l) ?_
  intro w' g1 g2 g3
  refine h w' (Lib.hid ?_) (Lib.hid ?_)
  · have := g1.out
    rw [splice_all _ _ (by omega)] at this
    exact this
  · exact (alloc_below w _).trans (g2.out.below (Nat.le_refl _) (by simp))
set_option maxRecDepth 100000 in
set_option maxHeartbeats 4000000 in
theorem write_any (B k : Nat) (s : List UInt8 × Int) (n : Nd) (pa : Option Addr) (pc : Nat) (w : World) (h : OutAt w B k s) (wf : n.Wf) (hB : B ≤ w.heap.size)
    (hp : ∀ w', Below B w w' → idsIn w' (.slice pa n.parts.length pc) n.parts) (hs : s.1.length ≤ 90000000) (hnl : n.name.length ≤ 200000) (htl : n.target.length ≤ 200000) (hpl : n.parts.length ≤ 200000) :
    Calls Try.prog 35 #[.agg (n.cells (.slice pa n.parts.length pc)).toArray, .pointer (some ⟨k, 0, none⟩)] w fun e w' => e = .returned (.tuple #[]) ∧ OutAt w' B k (n.out s) ∧ Below B w w' ∧ KeptT k w w' := by
  have HP := Lib.hid hp
  have WF := Lib.hid wf
  have HKL : Hid (k < w.heap.size) := Lib.hid h.lt.2
  have HBK : Hid (B ≤ k) := Lib.hid h.lt.1
  have O1 := Lib.hid (h.al (.cells (n.cells (.slice pa n.parts.length pc)).toArray 33 (0, 0)))
  have B1 := Lib.hid ((Below.refl B w).alloc hB (.cells (n.cells (.slice pa n.parts.length pc)).toArray 33 (0, 0)))
  have K1 := Lib.hid ((KeptT.refl k w).alloc (.cells (n.cells (.slice pa n.parts.length pc)).toArray 33 (0, 0)))
  have HB1 := Lib.hid (blockIs.new w (n.cells (.slice pa n.parts.length pc)) 33)
  have HSL := Lib.hid hs
  have HNL := Lib.hid hnl
  have HGK : Hid (w.heap.size ≠ k) := Lib.hid (by have := HKL.out; omega)
  obtain ⟨so, hso⟩ : ∃ so, so = n.out s := ⟨_, rfl⟩
  rw [← hso]
  have HSO := Lib.hid hso
  clear hp wf h hs hnl hso
  go_enter Try.func35, Try.ntmps35
  go_upto_region 1 with fail
  generalize hcs : n.cells (.slice pa n.parts.length pc) = cs at *
  have HCS := Lib.hid hcs
  clear hcs
  generalize w.alloc (.cells cs.toArray 33 (0, 0)) = w0 at *
  generalize hg : w.heap.size = g at *
  have HG := Lib.hid hg
  have HBW : Hid (B ≤ w.heap.size) := Lib.hid (by rw [hg]; exact hB)
  clear hg
  obtain ⟨kd, hkd⟩ : ∃ kd, kd = n.kind := ⟨_, rfl⟩
  obtain ⟨md, hmd⟩ : ∃ md, md = n.mode := ⟨_, rfl⟩
  obtain ⟨tm, htm⟩ : ∃ tm, tm = n.time := ⟨_, rfl⟩
  obtain ⟨nm, hnm⟩ : ∃ nm, nm = n.name := ⟨_, rfl⟩
  have CL : Hid (∀ x : World, blockIs x g cs 33 → x.cell? ⟨g, 0, none⟩ = some (.string (str nm)) ∧ x.cell? ⟨g, 1, none⟩ = some (.int .i64 kd) ∧ x.cell? ⟨g, 2, none⟩ = some (.int .i64 md) ∧ x.cell? ⟨g, 3, none⟩ = some (.int .i64 tm)) := Lib.hid (fun x hx => by
    rw [← HCS.out] at hx
    obtain ⟨c0, c1, c2, c3, -⟩ := nd_block hx
    rw [hkd, hmd, htm, hnm]
    exact ⟨c0, c1, c2, c3⟩)
  have HWX : Hid (∀ z ∈ [kd, md, tm], (Lit.int .i64 z).wf = true) := Lib.hid (by
    intro z hz
    simp only [List.mem_cons, List.not_mem_nil, or_false] at hz
    rcases hz with rfl | rfl | rfl
    · rw [hkd]; exact WF.out.kind
    · rw [hmd]; exact WF.out.mode
    · rw [htm]; exact WF.out.time)
  rw [← hnm] at HNL
  have HKD := Lib.hid hkd
  have HMD := Lib.hid hmd
  have HTM := Lib.hid htm
  have HNM := Lib.hid hnm
  clear hkd hmd htm hnm
  have TL : Hid ((outText s nm).1.length ≤ 100000000) := Lib.hid (by have := outText_len s nm; have := HSL.out; have := HNL.out; omega)
  refine wp_region_noPanic ?_
  refine wp_region_held_drew (S := fun x => blockIs x g cs 33) (by kernel_rfl) (HB1.out) (fun hH => ?_)
  have qo : OutAt w0.drew B k s := O1.out
  have qB : Below B w w0.drew := below_drewN B1.out 1
  have qK : KeptT k w w0.drew := K1.out
  generalize w0.drew = y0 at *
  clear O1 B1 K1 HB1
  refine wpAnyH_take (i := 0) (oi := { dst := some 6, op := Op.move (Operand.tmp 1), type := 64, pos := "bytes.go:64", after := #[], guard := none }) (v := .pointer (some ⟨k, 0, none⟩)) rfl (by kernel_rfl) (by kernel_rfl) (by kernel_rfl) (fun _ _ _ h => h) (Or.inl ⟨by rfl, fun wx hS => ?_⟩) hH ?_
  · go_simp
  simp only [Act.put, List.setIfInBounds_toArray, List.set_cons_zero, List.set_cons_succ]
  refine wpAnyH_take (i := 1) (oi := { dst := some 7, op := Op.fieldAddr 33 (Operand.tmp 2) 0, type := 0, pos := "bytes.go:64", after := #[], guard := none }) (v := .pointer (some ⟨g, 0, none⟩)) rfl (by kernel_rfl) (by kernel_rfl) (by kernel_rfl) (fun _ _ _ h => h) (Or.inl ⟨by rfl, fun wx hS => ?_⟩) hH ?_
  · go_simp
  simp only [Act.put, List.setIfInBounds_toArray, List.set_cons_zero, List.set_cons_succ]
  refine wpAnyH_take (i := 2) (oi := { dst := some 8, op := Op.load 9 (Operand.tmp 7), type := 9, pos := "bytes.go:64", after := #[{ on := 1, ground := Ground.data }], guard := none }) (v := .string (str nm)) rfl (by kernel_rfl) (by kernel_rfl) (by kernel_rfl) (fun _ _ _ h => h) (Or.inl ⟨by rfl, fun wx hS => ?_⟩) hH ?_
  · have c := CL.out wx hS; have c := c.1; go_simp
  simp only [Act.put, List.setIfInBounds_toArray, List.set_cons_zero, List.set_cons_succ]
  refine wpAnyH_take (i := 5) (oi := { dst := some 11, op := Op.fieldAddr 33 (Operand.tmp 2) 1, type := 0, pos := "bytes.go:64", after := #[], guard := none }) (v := .pointer (some ⟨g, 1, none⟩)) rfl (by kernel_rfl) (by kernel_rfl) (by kernel_rfl) (fun _ _ _ h => h) (Or.inl ⟨by rfl, fun wx hS => ?_⟩) hH ?_
  · go_simp
  simp only [Act.put, List.setIfInBounds_toArray, List.set_cons_zero, List.set_cons_succ]
  refine wpAnyH_take (i := 6) (oi := { dst := some 12, op := Op.load 3 (Operand.tmp 11), type := 3, pos := "bytes.go:64", after := #[{ on := 5, ground := Ground.data }], guard := none }) (v := .int .i64 kd) rfl (by kernel_rfl) (by kernel_rfl) (by kernel_rfl) (fun _ _ _ h => h) (Or.inl ⟨by rfl, fun wx hS => ?_⟩) hH ?_
  · have c := CL.out wx hS; have c := c.2.1; go_simp
  simp only [Act.put, List.setIfInBounds_toArray, List.set_cons_zero, List.set_cons_succ]
  refine wpAnyH_take (i := 7) (oi := { dst := some 13, op := Op.fieldAddr 33 (Operand.tmp 2) 2, type := 0, pos := "bytes.go:64", after := #[], guard := none }) (v := .pointer (some ⟨g, 2, none⟩)) rfl (by kernel_rfl) (by kernel_rfl) (by kernel_rfl) (fun _ _ _ h => h) (Or.inl ⟨by rfl, fun wx hS => ?_⟩) hH ?_
  · go_simp
  simp only [Act.put, List.setIfInBounds_toArray, List.set_cons_zero, List.set_cons_succ]
  refine wpAnyH_take (i := 8) (oi := { dst := some 14, op := Op.load 3 (Operand.tmp 13), type := 3, pos := "bytes.go:64", after := #[{ on := 7, ground := Ground.data }], guard := none }) (v := .int .i64 md) rfl (by kernel_rfl) (by kernel_rfl) (by kernel_rfl) (fun _ _ _ h => h) (Or.inl ⟨by rfl, fun wx hS => ?_⟩) hH ?_
  · have c := CL.out wx hS; have c := c.2.2.1; go_simp
  simp only [Act.put, List.setIfInBounds_toArray, List.set_cons_zero, List.set_cons_succ]
  refine wpAnyH_take (i := 9) (oi := { dst := some 15, op := Op.fieldAddr 33 (Operand.tmp 2) 3, type := 0, pos := "bytes.go:64", after := #[], guard := none }) (v := .pointer (some ⟨g, 3, none⟩)) rfl (by kernel_rfl) (by kernel_rfl) (by kernel_rfl) (fun _ _ _ h => h) (Or.inl ⟨by rfl, fun wx hS => ?_⟩) hH ?_
  · go_simp
  simp only [Act.put, List.setIfInBounds_toArray, List.set_cons_zero, List.set_cons_succ]
  refine wpAnyH_take (i := 10) (oi := { dst := some 16, op := Op.load 3 (Operand.tmp 15), type := 3, pos := "bytes.go:64", after := #[{ on := 9, ground := Ground.data }], guard := none }) (v := .int .i64 tm) rfl (by kernel_rfl) (by kernel_rfl) (by kernel_rfl) (fun _ _ _ h => h) (Or.inl ⟨by rfl, fun wx hS => ?_⟩) hH ?_
  · have c := CL.out wx hS; have c := c.2.2.2; go_simp
  simp only [Act.put, List.setIfInBounds_toArray, List.set_cons_zero, List.set_cons_succ]
  revert qK
  revert qB
  revert qo
  revert hH
  refine join2 (Q := ?Q1) (H := fun (ga gb : Nat) (x : World) => blockIs x g cs 33 ∧ OutAt x B k (outText s nm) ∧ Below B w x ∧ KeptT k w x ∧ blockIs x gb (zvals [kd, md, tm]) 3 ∧ gb ≠ k) (fun REST => ?main1) ?rest1
  case main1 =>
    intro hH qo qB qK
    refine wpAnyH_ready (rs := [3, 11]) (by kernel_rfl) (by simp) ?_
    refine AllReadyH.cons (o := { dst := some 9, op := Op.buildSlice 105 1 #[(0, Operand.tmp 8)], type := 105, pos := "bytes.go:64", after := #[{ on := 2, ground := Ground.data }], guard := none }) rfl (fun KK hKK => ?_) (AllReadyH.cons (o := { dst := some 17, op := Op.buildSlice 83 3 #[(0, Operand.tmp 12), (1, Operand.tmp 14), (2, Operand.tmp 16)], type := 83, pos := "bytes.go:64", after := #[{ on := 6, ground := Ground.data }, { on := 8, ground := Ground.data }, { on := 10, ground := Ground.data }], guard := none }) rfl (fun KK hKK => ?_) AllReadyH.nil)
    · have q_ga : blockIs (y0.alloc (.cells #[.string (str nm)] 9 (0, 0))) y0.heap.size [.string (str nm)] 9 ∧ y0.heap.size ≠ k := ⟨blockIs.new y0 _ _, Nat.ne_of_gt qo.lt.2⟩
      replace qo := qo.al (.cells #[.string (str nm)] 9 (0, 0))
      replace qB := qB.alloc (Nat.le_trans HBW.out qB.size) (.cells #[.string (str nm)] 9 (0, 0))
      replace qK := qK.alloc (.cells #[.string (str nm)] 9 (0, 0))
      have hN := hH.alloc (.cells #[.string (str nm)] 9 (0, 0))
      clear hH
      go_simp
      refine hKK.out _ _ hN (fun hH => ?_)
      clear hKK KK hN
      try simp only [Act.put, List.setIfInBounds_toArray, List.set_cons_zero, List.set_cons_succ]
      generalize y0.alloc (.cells #[.string (str nm)] 9 (0, 0)) = y1 at *
      generalize y0.heap.size = ga at q_ga ⊢
      refine wpAnyH_ready (rs := [4, 11]) (by kernel_rfl) (by simp) ?_
      refine AllReadyH.cons (o := { dst := some 10, op := Op.call { callee := Callee.value (Operand.func 52), args := #[Operand.tmp 6, Operand.tmp 9], argTypes := #[64, 105] }, type := 64, pos := "bytes.go:64", after := #[{ on := 0, ground := Ground.data }, { on := 3, ground := Ground.data }], guard := none }) rfl (fun KK hKK => ?_) (AllReadyH.cons (o := { dst := some 17, op := Op.buildSlice 83 3 #[(0, Operand.tmp 12), (1, Operand.tmp 14), (2, Operand.tmp 16)], type := 83, pos := "bytes.go:64", after := #[{ on := 6, ground := Ground.data }, { on := 8, ground := Ground.data }, { on := 10, ground := Ground.data }], guard := none }) rfl (fun KK hKK => ?_) AllReadyH.nil)
      · go_simp
        with_reducible refine (text1L B k ga s nm y1 qo q_ga.1 q_ga.2 (by have := HSL.out; omega) HNL.out).mono ?_
        rintro e y2 ⟨rfl, o2, b2, k2⟩
        have hN := k2.is hH HGK.out (by decide)
        clear hH qo
        have qo := o2
        replace qB := qB.trans b2
        replace qK := qK.trans k2
        replace q_ga := And.intro (k2.is q_ga.1 q_ga.2 (by decide)) q_ga.2
        clear o2 b2 k2
        refine hKK.out _ _ hN (fun hH => ?_)
        clear hKK KK hN
        try simp only [Act.put, List.setIfInBounds_toArray, List.set_cons_zero, List.set_cons_succ]
        refine wpAnyH_ready (rs := [11]) (by kernel_rfl) (by simp) ?_
        refine AllReadyH.cons (o := { dst := some 17, op := Op.buildSlice 83 3 #[(0, Operand.tmp 12), (1, Operand.tmp 14), (2, Operand.tmp 16)], type := 83, pos := "bytes.go:64", after := #[{ on := 6, ground := Ground.data }, { on := 8, ground := Ground.data }, { on := 10, ground := Ground.data }], guard := none }) rfl (fun KK hKK => ?_) AllReadyH.nil
        have q_gb : blockIs (y2.alloc (.cells #[.int .i64 kd, .int .i64 md, .int .i64 tm] 3 (0, 0))) y2.heap.size (zvals [kd, md, tm]) 3 ∧ y2.heap.size ≠ k := ⟨blockIs.new y2 _ _, Nat.ne_of_gt qo.lt.2⟩
        replace qo := qo.al (.cells #[.int .i64 kd, .int .i64 md, .int .i64 tm] 3 (0, 0))
        replace qB := qB.alloc (Nat.le_trans HBW.out qB.size) (.cells #[.int .i64 kd, .int .i64 md, .int .i64 tm] 3 (0, 0))
        replace qK := qK.alloc (.cells #[.int .i64 kd, .int .i64 md, .int .i64 tm] 3 (0, 0))
        replace q_ga := And.intro (q_ga.1.alloc (.cells #[.int .i64 kd, .int .i64 md, .int .i64 tm] 3 (0, 0))) q_ga.2
        have hN := hH.alloc (.cells #[.int .i64 kd, .int .i64 md, .int .i64 tm] 3 (0, 0))
        clear hH
        go_simp
        refine hKK.out _ _ hN (fun hH => ?_)
        clear hKK KK hN
        try simp only [Act.put, List.setIfInBounds_toArray, List.set_cons_zero, List.set_cons_succ]
        generalize y2.alloc (.cells #[.int .i64 kd, .int .i64 md, .int .i64 tm] 3 (0, 0)) = y3 at *
        generalize y2.heap.size = gb at q_gb ⊢
        refine wpAnyH_listed (L2 := #[true, true, true, true, true, true, true, true, true, true, true, true, false]) (by kernel_rfl) ?_
        exact REST ga gb y3 ⟨hH, qo, qB, qK, q_gb.1, q_gb.2⟩
      · have q_gb : blockIs (y1.alloc (.cells #[.int .i64 kd, .int .i64 md, .int .i64 tm] 3 (0, 0))) y1.heap.size (zvals [kd, md, tm]) 3 ∧ y1.heap.size ≠ k := ⟨blockIs.new y1 _ _, Nat.ne_of_gt qo.lt.2⟩
        replace qo := qo.al (.cells #[.int .i64 kd, .int .i64 md, .int .i64 tm] 3 (0, 0))
        replace qB := qB.alloc (Nat.le_trans HBW.out qB.size) (.cells #[.int .i64 kd, .int .i64 md, .int .i64 tm] 3 (0, 0))
        replace qK := qK.alloc (.cells #[.int .i64 kd, .int .i64 md, .int .i64 tm] 3 (0, 0))
        replace q_ga := And.intro (q_ga.1.alloc (.cells #[.int .i64 kd, .int .i64 md, .int .i64 tm] 3 (0, 0))) q_ga.2
        have hN := hH.alloc (.cells #[.int .i64 kd, .int .i64 md, .int .i64 tm] 3 (0, 0))
        clear hH
        go_simp
        refine hKK.out _ _ hN (fun hH => ?_)
        clear hKK KK hN
        try simp only [Act.put, List.setIfInBounds_toArray, List.set_cons_zero, List.set_cons_succ]
        generalize y1.alloc (.cells #[.int .i64 kd, .int .i64 md, .int .i64 tm] 3 (0, 0)) = y2 at *
        generalize y1.heap.size = gb at q_gb ⊢
        refine wpAnyH_ready (rs := [4]) (by kernel_rfl) (by simp) ?_
        refine AllReadyH.cons (o := { dst := some 10, op := Op.call { callee := Callee.value (Operand.func 52), args := #[Operand.tmp 6, Operand.tmp 9], argTypes := #[64, 105] }, type := 64, pos := "bytes.go:64", after := #[{ on := 0, ground := Ground.data }, { on := 3, ground := Ground.data }], guard := none }) rfl (fun KK hKK => ?_) AllReadyH.nil
        go_simp
        with_reducible refine (text1L B k ga s nm y2 qo q_ga.1 q_ga.2 (by have := HSL.out; omega) HNL.out).mono ?_
        rintro e y3 ⟨rfl, o2, b2, k2⟩
        have hN := k2.is hH HGK.out (by decide)
        clear hH qo
        have qo := o2
        replace qB := qB.trans b2
        replace qK := qK.trans k2
        replace q_ga := And.intro (k2.is q_ga.1 q_ga.2 (by decide)) q_ga.2
        replace q_gb := And.intro (k2.is q_gb.1 q_gb.2 (by decide)) q_gb.2
        clear o2 b2 k2
        refine hKK.out _ _ hN (fun hH => ?_)
        clear hKK KK hN
        try simp only [Act.put, List.setIfInBounds_toArray, List.set_cons_zero, List.set_cons_succ]
        refine wpAnyH_listed (L2 := #[true, true, true, true, true, true, true, true, true, true, true, true, false]) (by kernel_rfl) ?_
        exact REST ga gb y3 ⟨hH, qo, qB, qK, q_gb.1, q_gb.2⟩
    · have q_gb : blockIs (y0.alloc (.cells #[.int .i64 kd, .int .i64 md, .int .i64 tm] 3 (0, 0))) y0.heap.size (zvals [kd, md, tm]) 3 ∧ y0.heap.size ≠ k := ⟨blockIs.new y0 _ _, Nat.ne_of_gt qo.lt.2⟩
      replace qo := qo.al (.cells #[.int .i64 kd, .int .i64 md, .int .i64 tm] 3 (0, 0))
      replace qB := qB.alloc (Nat.le_trans HBW.out qB.size) (.cells #[.int .i64 kd, .int .i64 md, .int .i64 tm] 3 (0, 0))
      replace qK := qK.alloc (.cells #[.int .i64 kd, .int .i64 md, .int .i64 tm] 3 (0, 0))
      have hN := hH.alloc (.cells #[.int .i64 kd, .int .i64 md, .int .i64 tm] 3 (0, 0))
      clear hH
      go_simp
      refine hKK.out _ _ hN (fun hH => ?_)
      clear hKK KK hN
      try simp only [Act.put, List.setIfInBounds_toArray, List.set_cons_zero, List.set_cons_succ]
      generalize y0.alloc (.cells #[.int .i64 kd, .int .i64 md, .int .i64 tm] 3 (0, 0)) = y1 at *
      generalize y0.heap.size = gb at q_gb ⊢
      refine wpAnyH_ready (rs := [3]) (by kernel_rfl) (by simp) ?_
      refine AllReadyH.cons (o := { dst := some 9, op := Op.buildSlice 105 1 #[(0, Operand.tmp 8)], type := 105, pos := "bytes.go:64", after := #[{ on := 2, ground := Ground.data }], guard := none }) rfl (fun KK hKK => ?_) AllReadyH.nil
      have q_ga : blockIs (y1.alloc (.cells #[.string (str nm)] 9 (0, 0))) y1.heap.size [.string (str nm)] 9 ∧ y1.heap.size ≠ k := ⟨blockIs.new y1 _ _, Nat.ne_of_gt qo.lt.2⟩
      replace qo := qo.al (.cells #[.string (str nm)] 9 (0, 0))
      replace qB := qB.alloc (Nat.le_trans HBW.out qB.size) (.cells #[.string (str nm)] 9 (0, 0))
      replace qK := qK.alloc (.cells #[.string (str nm)] 9 (0, 0))
      replace q_gb := And.intro (q_gb.1.alloc (.cells #[.string (str nm)] 9 (0, 0))) q_gb.2
      have hN := hH.alloc (.cells #[.string (str nm)] 9 (0, 0))
      clear hH
      go_simp
      refine hKK.out _ _ hN (fun hH => ?_)
      clear hKK KK hN
      try simp only [Act.put, List.setIfInBounds_toArray, List.set_cons_zero, List.set_cons_succ]
      generalize y1.alloc (.cells #[.string (str nm)] 9 (0, 0)) = y2 at *
      generalize y1.heap.size = ga at q_ga ⊢
      refine wpAnyH_ready (rs := [4]) (by kernel_rfl) (by simp) ?_
      refine AllReadyH.cons (o := { dst := some 10, op := Op.call { callee := Callee.value (Operand.func 52), args := #[Operand.tmp 6, Operand.tmp 9], argTypes := #[64, 105] }, type := 64, pos := "bytes.go:64", after := #[{ on := 0, ground := Ground.data }, { on := 3, ground := Ground.data }], guard := none }) rfl (fun KK hKK => ?_) AllReadyH.nil
      go_simp
      with_reducible refine (text1L B k ga s nm y2 qo q_ga.1 q_ga.2 (by have := HSL.out; omega) HNL.out).mono ?_
      rintro e y3 ⟨rfl, o2, b2, k2⟩
      have hN := k2.is hH HGK.out (by decide)
      clear hH qo
      have qo := o2
      replace qB := qB.trans b2
      replace qK := qK.trans k2
      replace q_ga := And.intro (k2.is q_ga.1 q_ga.2 (by decide)) q_ga.2
      replace q_gb := And.intro (k2.is q_gb.1 q_gb.2 (by decide)) q_gb.2
      clear o2 b2 k2
      refine hKK.out _ _ hN (fun hH => ?_)
      clear hKK KK hN
      try simp only [Act.put, List.setIfInBounds_toArray, List.set_cons_zero, List.set_cons_succ]
      refine wpAnyH_listed (L2 := #[true, true, true, true, true, true, true, true, true, true, true, true, false]) (by kernel_rfl) ?_
      exact REST ga gb y3 ⟨hH, qo, qB, qK, q_gb.1, q_gb.2⟩
  case rest1 =>
    rintro ga gb x1 ⟨hH, qo, qB, qK, qb, qne⟩
    refine wpAnyH_ready (rs := [12]) (by kernel_rfl) (by simp) ?_
    refine AllReadyH.cons (o := { dst := some 18, op := Op.call { callee := Callee.value (Operand.func 34), args := #[Operand.tmp 10, Operand.tmp 17], argTypes := #[64, 83] }, type := 64, pos := "bytes.go:64", after := #[{ on := 4, ground := Ground.data }, { on := 11, ground := Ground.data }, { on := 4, ground := Ground.chain }], guard := none }) rfl (fun KK hKK => ?_) AllReadyH.nil
    go_simp
    with_reducible refine (numsL B k gb (outText s nm) [kd, md, tm] 3 rfl x1 qo qb qne HWX.out TL.out (by simp)).mono ?_
    rintro e x2 ⟨rfl, o2, b2, k2⟩
    have hN := k2.is hH HGK.out (by decide)
    refine hKK.out _ _ hN (fun hH => ?_)
    clear hKK KK hN
    try simp only [Act.put, List.setIfInBounds_toArray, List.set_cons_zero, List.set_cons_succ]
    refine wpAnyH_done (by kernel_rfl) ?_ _
    refine NoPanic.normal ?_
    have O2 := Lib.hid o2
    have B2 := Lib.hid (qB.trans b2)
    have K2 := Lib.hid (qK.trans k2)
    have HB2 := Lib.hid hH
    clear o2 b2 k2 hH qo qB qK qb qne
    rw [← HCS.out] at HB2
    obtain ⟨-, c1, -, -, c4, c5, c6⟩ := nd_block HB2.out
    have RT := Lib.hid (nd_tree HB2.out)
    rw [HCS.out] at HB2
    rw [← HKD.out] at c1
    have LEN : Hid ((outNums (outText s nm) [kd, md, tm]).1.length ≤ 91000000) := Lib.hid (by
      have h1 := outNums_len (outText s nm) [kd, md, tm]
      have h2 := outText_len s nm
      have h3 := HSL.out
      have h4 := HNL.out
      simp at h1
      omega)
    have HOUT : Hid (n.out s = if kd = 0 then outParts (outNums (outNums (outText s nm) [kd, md, tm]) [n.size, n.parts.length]) n.parts else if kd = 1 then outRaw (outNums (outText s nm) [kd, md, tm]) n.tree else if kd = 2 then outText (outNums (outText s nm) [kd, md, tm]) n.target else outNums (outText s nm) [kd, md, tm]) := Lib.hid (by
      rw [HKD.out, HNM.out, HMD.out, HTM.out]
      rfl)
    generalize outNums (outText s nm) [kd, md, tm] = s1 at *
    rw [← HSO.out] at HOUT
    by_cases k0 : kd = 0
    · rw [if_pos k0] at HOUT
      rw [k0] at c1
      clear k0
      have HX2 : Hid (∀ z ∈ [n.size, (n.parts.length : Int)], (Lit.int .i64 z).wf = true) := Lib.hid (by
        intro z hz
        simp only [List.mem_cons, List.not_mem_nil, or_false] at hz
        rcases hz with rfl | rfl
        · exact WF.out.size
        · simp [Lit.wf, IntKind.min, IntKind.max, IntKind.signed, IntKind.bits]; omega)
      have KB := Lib.hid (alloc_below x2 (.cells (zvals [n.size, (n.parts.length : Int)]).toArray 3 (0, 0)))
      have P1 := Lib.hid (numsL B k x2.heap.size s1 [n.size, (n.parts.length : Int)] 2 rfl (x2.alloc (.cells #[.int .i64 n.size, .int .i64 (n.parts.length : Int)] 3 (0, 0))) (O2.out.al _) (blockIs.new x2 _ _) (Nat.ne_of_gt O2.out.lt.2) HX2.out (by have := LEN.out; omega) (by simp))
      have HB3 := Lib.hid (HB2.out.below KB.out HB2.out.lt)
      have B3 := Lib.hid (B2.out.trans ((Below.refl B x2).alloc (Nat.le_trans HBW.out B2.out.size) (.cells (zvals [n.size, (n.parts.length : Int)]).toArray 3 (0, 0))))
      have K3 := Lib.hid (K2.out.alloc (.cells (zvals [n.size, (n.parts.length : Int)]).toArray 3 (0, 0)))
      go_wp2_with fail
      with_reducible refine P1.out.mono ?_
      rintro e x4 ⟨rfl, o4, b4, k4⟩
      have O4 := Lib.hid o4
      have B4 := Lib.hid (B3.out.trans b4)
      have K4 := Lib.hid (K3.out.trans k4)
      have HB4 := Lib.hid (k4.is HB3.out HGK.out (by decide))
      clear o4 b4 k4 P1 HB3 B3 K3 HB2 O2 B2 K2 KB c1 c4 c5 c6 RT
      rw [← HCS.out] at HB4
      obtain ⟨-, -, -, -, -, -, c6⟩ := nd_block HB4.out
      rw [HCS.out] at HB4
      have L4 : Hid ((outNums s1 [n.size, (n.parts.length : Int)]).1.length ≤ 91000018) := Lib.hid (by
        have h1 := outNums_len s1 [n.size, (n.parts.length : Int)]
        have h2 := LEN.out
        simp at h1
        omega)
      generalize outNums s1 [n.size, (n.parts.length : Int)] = s4 at *
      go_wp2_with fail
      go_loopw [34] (fun i wr => ∃ j : Nat, j ≤ n.parts.length ∧ i = .int .i64 j ∧ Hid (OutAt wr B k (outParts s4 (n.parts.take j))) ∧ Hid (Below B w wr) ∧ Hid (KeptT k w wr)) (fun i _ => n.parts.length - (intOf i).toNat)
      case atStart => exact ⟨0, Nat.zero_le _, rfl, O4, B4, K4⟩
      case round =>
        obtain ⟨j, hj, rfl, OR, BR, KR⟩ := hrel
        have p0 : 0 ≤ (j : Int) := by omega
        by_cases hlt : j < n.parts.length
        · have q0 : (j : Int) < (n.parts.length : Int) := by omega
          obtain ⟨a', c', e', -, -, -, h32, hv⟩ := HP.out wr BR.out
          obtain ⟨rfl, rfl⟩ : a' = pa ∧ c' = pc := by
            injection e' with e1 e2 e3
            exact ⟨e1.symm, e3.symm⟩
          obtain ⟨pb, po, rfl, hr⟩ := ids_at hv h32 j hlt
          have HTK := Lib.hid (outParts_take s4 n.parts j hlt)
          have HLN : Hid ((outParts s4 (n.parts.take j)).1.length ≤ 99000000) := Lib.hid (by
            have h1 := outParts_len s4 (n.parts.take j) (fun p hp => h32 p (List.mem_of_mem_take hp))
            have h2 : (n.parts.take j).length ≤ 200000 := by rw [List.length_take]; omega
            have := L4.out
            omega)
          have HPL : Hid (n.parts[j].length = 32) := Lib.hid (h32 _ (List.getElem_mem hlt))
          have R1 := Lib.hid hr
          have HCL : Hid ((bvals n.parts[j]).length = 32) := Lib.hid (by rw [bvals_length, HPL.out])
          have hz := zero_id
          clear e' hv h32 hr
          generalize n.parts[j] = p at *
          go_wp2_with (first | (refine load_id (by rfl) _ rfl pb (po + j * 32) rfl (bvals p) R1.out HCL.out ?_) | (refine store_id rfl _ _ rfl p rfl rfl HPL.out ?_))
          intro w5 h1 h2
          have R5 := Lib.hid (bytes_range (block_range h1.out))
          have O5 := Lib.hid (OR.out.below h2.out)
          have B5 := Lib.hid (BR.out.trans (h2.out.mono (Nat.le_trans HBW.out BR.out.size)))
          have K5 := Lib.hid (KR.out.trans (KeptT.of_below (B := 0) h2.out))
          clear h1 h2 hz R1
          generalize wr.heap.size = g5 at *
          have P1 := Lib.hid (raw1k B k (outParts s4 (n.parts.take j)) (some ⟨g5, 0, none⟩) 32 p w5 O5.out R5.out (fun h => by cases h) (by have := HLN.out; omega) (by rw [HPL.out]; decide))
          rw [HPL.out] at P1
          go_wp2_with fail
          with_reducible refine P1.out.mono ?_
          rintro e w6 ⟨rfl, o6, b6, k6⟩
          rw [← HTK.out] at o6
          have O6 := Lib.hid o6
          have B6 := Lib.hid (B5.out.trans b6)
          have K6 := Lib.hid (K5.out.trans k6)
          clear o6 b6 k6 P1 O5 B5 K5 HTK
          go_wp2_with fail
          go_roundw
          case rel => exact ⟨j + 1, by omega, by go_num, O6, B6, K6⟩
          case measure => simp [intOf]; omega
        · obtain rfl : j = n.parts.length := by omega
          rw [List.take_length] at OR
          have q0 : ¬ ((n.parts.length : Int) < (n.parts.length : Int)) := by omega
          go_wp2_with fail
          go_end0
          exact ⟨rfl, by rw [HOUT.out]; exact OR.out, BR.out, KR.out⟩
    · rw [if_neg k0] at HOUT
      by_cases k1 : kd = 1
      · rw [if_pos k1] at HOUT
        rw [k1] at c1
        clear k0 k1
        have RI := Lib.hid (bytes_range RT.out)
        have P1 := Lib.hid (raw1k B k s1 (some ⟨g, 7, none⟩) 32 n.tree x2 O2.out RI.out (fun h => by cases h) (by have := LEN.out; omega) (by rw [WF.out.tree]; decide))
        have HTL := Lib.hid WF.out.tree
        rw [HTL.out] at P1
        go_wp2_with fail
        with_reducible refine P1.out.mono ?_
        rintro e x3 ⟨rfl, o3, b3, k3⟩
        go_wp2_with fail
        go_end0
        exact ⟨rfl, by rw [HOUT.out]; exact o3, B2.out.trans b3, K2.out.trans k3⟩
      · rw [if_neg k1] at HOUT
        by_cases k2 : kd = 2
        · rw [if_pos k2] at HOUT
          rw [k2] at c1
          clear k0 k1 k2
          have P1 := Lib.hid (text1k B k s1 n.target x2 O2.out (by have := LEN.out; omega) htl)
          go_wp2_with fail
          with_reducible refine P1.out.mono ?_
          rintro e x3 ⟨rfl, o3, b3, k3⟩
          go_wp2_with fail
          go_end0
          exact ⟨rfl, by rw [HOUT.out]; exact o3, B2.out.trans b3, K2.out.trans k3⟩
        · rw [if_neg k2] at HOUT
          have e0 : (kd == 0) = false := by simpa using k0
          have e1 : (kd == 1) = false := by simpa using k1
          have e2 : (kd == 2) = false := by simpa using k2
          clear k0 k1 k2
          go_wp2_with fail
          go_end0
          exact ⟨rfl, by rw [HOUT.out]; exact O2.out, B2.out, K2.out⟩
end Go.Proofs.Ytjgmhaajcglpmaa
