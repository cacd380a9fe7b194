/- A strings.Builder, and the contracts of size and joined: parts, one behind the other. -/
import Derived.Test.YthefledeoiegjaaCr
namespace Go.Proofs.Ythefledeoiegjaa
open Go.RowKit Go.MapKept

def bldAt (w : World) (B b : Nat) (p : Option Addr) (l : List UInt8) : Prop := Lib.BuilderAt 65 5 B b (.pointer p) (bvals l) w
theorem info_builder : ∃ j, Try.prog.info? 65 = some j ∧ j.size = 2 := by
  obtain ⟨j, h1, h2⟩ := Option.map_eq_some_iff.1 (show (Try.prog.info? 65).map (·.size) = some 2 by kernel_rfl)
  exact ⟨j, h1, h2⟩
set_option maxRecDepth 100000 in
theorem copy_used (b : Nat) (w : World) (h0 : w.cell? ⟨b, 0, none⟩ = some (.pointer (some ⟨b, 0, none⟩))) :
    Calls Try.prog 33 #[.pointer (some ⟨b, 0, none⟩)] w fun e w' => e = .returned (.tuple #[]) ∧ w = w' := by
  obtain ⟨j, hj, _⟩ := info_builder
  have q := fun (w : World) => Lib.run_neq_ptr_same (P := Try.prog) w ⟨b, 0, none⟩ Try.underlying63 hj
  go_enter Try.func33, Try.ntmps33
  go_wp2_with fail
  go_end0
  exact ⟨rfl, rfl⟩
set_option maxRecDepth 100000 in
set_option maxHeartbeats 1000000 in
theorem copy_fresh (b : Nat) (w : World) (h0 : w.cell? ⟨b, 0, none⟩ = some (.pointer none)) (hsh : w.shape? b = some (65, 2)) (hfz : w.frozen? ⟨b, 0, none⟩ = false) :
    Calls Try.prog 33 #[.pointer (some ⟨b, 0, none⟩)] w fun e w' => e = .returned (.tuple #[]) ∧ w' = w.setCell ⟨b, 0, none⟩ (.pointer (some ⟨b, 0, none⟩)) := by
  obtain ⟨j, hj, hjs⟩ := info_builder
  have q := fun (w : World) => Lib.run_neq_ptr_same (P := Try.prog) w ⟨b, 0, none⟩ Try.underlying63 hj
  go_enter Try.func33, Try.ntmps33
  go_wp2_with fail
  rw [Lib.run_to_unsafe w ⟨b, 0, none⟩ Try.underlying63 Try.underlying78 hj (by rw [hjs]; decide) hsh (Nat.zero_lt_succ 1)]
  simp only [Result.andThen]
  rw [Oper.upon_value]
  go_wp2_with fail
  rw [run_callFunc_extern Try.func37 (by kernel_rfl) (by kernel_rfl) (by kernel_rfl) (e := Extern.AbiNoEscape.same) (by kernel_rfl)]
  rw [Lib.run_noEscape]
  simp only [Result.andThen]
  rw [Oper.upon_value]
  go_wp2_with fail
  rw [Lib.run_from_unsafe w ⟨b, 0, none⟩ Try.underlying78 Try.underlying63 hj hsh (by kernel_rfl)]
  simp only [Result.andThen]
  rw [Oper.upon_value]
  go_wp2_with fail
  go_end0
  exact ⟨rfl, rfl⟩
theorem copy_any (B b : Nat) (p : Option Addr) (l : List UInt8) (w : World) (h : bldAt w B b p l) (hp : p = none ∨ p = some ⟨b, 0, none⟩) :
    Calls Try.prog 33 #[.pointer (some ⟨b, 0, none⟩)] w fun e w' => e = .returned (.tuple #[]) ∧ bldAt w' B b (some ⟨b, 0, none⟩) l ∧ Below B w w' ∧ But b w w' := by
  rcases hp with rfl | rfl
  · refine (copy_fresh b w h.cell0 h.shape h.frozen0).mono ?_
    rintro e w' ⟨rfl, rfl⟩
    exact ⟨rfl, h.used _, (Below.refl B w).setCell (p := ⟨b, 0, none⟩) h.1 _, (But.refl b w).setCell _ _ (Or.inl rfl)⟩
  · refine (copy_used b w h.cell0).mono ?_
    rintro e w' ⟨rfl, rfl⟩
    exact ⟨rfl, h, Below.refl B _, But.refl _ _⟩
/-- What was there, of bytes older than the builder, is there. -/
theorem bytesIn.below_old {w w' : World} {a : Option Addr} {l : List UInt8} {B : Nat} (h : bytesIn w a l) (hb : Below B w w') (ha : ∀ p, a = some p → p.block < B) : bytesIn w' a l := by
  rcases h with h | ⟨bb, bo, rfl, h3⟩
  · exact Or.inl h
  · exact Or.inr ⟨bb, bo, rfl, fun j hj => (hb.cell (p := ⟨bb, bo + j, none⟩) (show bb < B from ha ⟨bb, bo, none⟩ rfl)).trans (h3 j hj)⟩
set_option maxRecDepth 100000 in
set_option maxHeartbeats 2000000 in
theorem write_any (B b : Nat) (p : Option Addr) (l : List UInt8) (a : Option Addr) (y : List UInt8) (c : Nat) (w : World) (h : bldAt w B b p l) (hp : p = none ∨ p = some ⟨b, 0, none⟩) (hB : B ≤ w.heap.size)
    (hin : ∀ w', Below B w w' → bytesIn w' a y) (hz : a = none → c = 0) (hl : l.length + y.length ≤ 1000000) :
    Calls Try.prog 28 #[.pointer (some ⟨b, 0, none⟩), .slice a y.length c] w fun e w' => (∃ v, e = .returned v) ∧ bldAt w' B b (some ⟨b, 0, none⟩) (l ++ y) ∧ Below B w w' := by
  have HB := Lib.hid hB
  have HI := Lib.hid hin
  have HZ := Lib.hid hz
  have HL := Lib.hid hl
  have P := Lib.hid (copy_any B b p l w h hp)
  clear h hp hB hin hz hl
  go_enter Try.func28, Try.ntmps28
  go_wp2_with fail
  with_reducible refine P.out.mono ?_
  clear P
  rintro e w1 ⟨rfl, h1, b1, -⟩
  obtain ⟨hBb, v, hb1, hown, hne⟩ := h1
  have d1 : w1.cell? ⟨b, 1, none⟩ = some v := by simp [World.cell?, hb1]
  have f1 : w1.frozen? ⟨b, 1, none⟩ = false := by simp [World.frozen?, hb1]
  have HBb := Lib.hid hBb
  have HB1 := Lib.hid hb1
  have HO : Hid (rowIs w1 B v l) := Lib.hid (by unfold rowIs; rw [bvals_length] at hown; exact hown)
  have HN := Lib.hid hne
  have HI1 := Lib.hid (HI.out w1 b1)
  have B1 := Lib.hid b1
  have HBS : Hid (B ≤ w1.heap.size) := Lib.hid (Nat.le_trans HB.out b1.size)
  clear hBb hb1 hown hne b1
  go_wp2_with (at_builtin; refine append_bytes rfl _ _ rfl B v l rfl HO.out a _ c y rfl rfl HZ.out HI1.out HL.out HBS.out ?_)
  intro v' w2 hown hgr
  obtain ⟨va, vl, vc, rfl⟩ : ∃ va vl vc, v' = .slice va vl vc := by
    obtain ⟨va, vc, h, -, -, -⟩ := rowIs.bytes hown
    exact ⟨va, _, vc, h⟩
  have hb2 : w2.heap[b]? = some (.cells #[.pointer (some ⟨b, 0, none⟩), v] 65 (0, 0)) := by
    rw [hgr.block b (Array.getElem?_eq_some_iff.1 HB1.out).1 (fun e => HN.out e.symm)]
    exact HB1.out
  have d2 : w2.cell? ⟨b, 1, none⟩ = some v := by simp [World.cell?, hb2]
  have f2 : w2.frozen? ⟨b, 1, none⟩ = false := by simp [World.frozen?, hb2]
  have hne2 : (Value.slice va vl vc).ownBlock ≠ some b := Lib.ownBlock_ne hown hb2 (by decide)
  have L1 : Hid (bldAt (w2.setCell ⟨b, 1, none⟩ (.slice va vl vc)) B b (some ⟨b, 0, none⟩) (l ++ y)) := Lib.hid ⟨HBb.out, .slice va vl vc, by
    rw [heap_setCell_same w2 b 1 _ _ _ hb2]
    rfl, by
    have := ownsRow_setCell_other (a := ⟨b, 1, none⟩) hown (fun e => hne2 e) (.slice va vl vc)
    rw [bvals_length]
    exact this, hne2⟩
  have L2 := Lib.hid ((B1.out.trans (rowIs.grew HO.out HBS.out hgr)).setCell (p := ⟨b, 1, none⟩) HBb.out (.slice va vl vc))
  clear hown hgr hb2 hne2 d1 f1
  go_wp2_with fail
  go_ret2
  exact ⟨⟨_, rfl⟩, L1.out, L2.out⟩
/-- Parts: each one's address, capacity and bytes. -/
abbrev Part := Option Addr × Nat × List UInt8
def partV (p : Part) : Value := .slice p.1 p.2.2.length p.2.1
def partsIn (w : World) (a : Option Addr) (Ps : List Part) : Prop := valsIn w a (Ps.map partV) ∧ ∀ p ∈ Ps, bytesIn w p.1 p.2.2 ∧ (p.1 = none → p.2.1 = 0)
def partsJoin (Ps : List Part) : List UInt8 := (Ps.map fun p => p.2.2).flatten
theorem partsJoin_take (Ps : List Part) (j : Nat) (h : j < Ps.length) : partsJoin (Ps.take (j + 1)) = partsJoin (Ps.take j) ++ Ps[j].2.2 := by
  unfold partsJoin
  rw [List.take_succ_eq_append_getElem h, List.map_append, List.flatten_append]
  simp only [List.map_cons, List.map_nil, List.flatten_cons, List.flatten_nil, List.append_nil]
theorem partsJoin_le (Ps : List Part) (j : Nat) : (partsJoin (Ps.take j)).length ≤ (partsJoin Ps).length := by
  have : partsJoin Ps = partsJoin (Ps.take j) ++ partsJoin (Ps.drop j) := by
    unfold partsJoin
    rw [← List.flatten_append, ← List.map_append, List.take_append_drop]
  rw [this]
  simp
theorem partsIn.below {w w' : World} {a : Option Addr} {Ps : List Part} (h : partsIn w a Ps) (hb : Below w.heap.size w w') : partsIn w' a Ps :=
  ⟨h.1.below hb (Nat.le_refl _), fun p hp => ⟨(h.2 p hp).1.below hb (Nat.le_refl _), (h.2 p hp).2⟩⟩
set_option maxRecDepth 100000 in
set_option maxHeartbeats 2000000 in
theorem size_any (a : Option Addr) (Ps : List Part) (c : Nat) (w : World) (h : partsIn w a Ps) (hl : (partsJoin Ps).length ≤ 1000000) (hn : Ps.length ≤ 1000000) :
    Calls Try.prog 20 #[.slice a Ps.length c] w fun e w' => e = .returned (.int .i64 ((partsJoin Ps).length : Int)) ∧ w = w' := by
  have H := Lib.hid h
  have HL := Lib.hid hl
  have hn' : (Ps.length : Int) ≤ 1000000 := by omega
  clear h hl
  go_enter Try.func20, Try.ntmps20
  go_wp2_with fail
  go_loopw [3, 8] (fun u v wr => ∃ (n j : Nat), u = .int .i64 (n : Int) ∧ v = .int .i64 (j : Int) ∧ j ≤ Ps.length ∧ Hid (n = (partsJoin (Ps.take j)).length) ∧ wr = w) (fun _ v _ => Ps.length - (intOf v).toNat)
  case atStart => exact ⟨0, 0, rfl, rfl, Nat.zero_le _, Lib.hid (by simp [partsJoin]), rfl⟩
  case round =>
    obtain ⟨n, j, rfl, rfl, hj, K1, rfl⟩ := hrel
    have p0 : 0 ≤ (j : Int) := by omega
    by_cases hlt : j < Ps.length
    · have q0 : (j : Int) < (Ps.length : Int) := by omega
      obtain ⟨bb, bo, hbo, d⟩ := H.out.1.at j (by simpa using hlt)
      subst hbo
      have e1 : (Ps.map partV)[j]'(by simpa using hlt) = .slice Ps[j].1 Ps[j].2.2.length Ps[j].2.1 := by simp [partV]
      rw [e1] at d
      have K2 : Hid (n + Ps[j].2.2.length = (partsJoin (Ps.take (j + 1))).length) := Lib.hid (by rw [partsJoin_take Ps j hlt, List.length_append, K1.out])
      have hle : n + Ps[j].2.2.length ≤ 1000000 := by
        have := K2.out; have := partsJoin_le Ps (j + 1); have := HL.out; omega
      clear e1
      generalize Ps[j].1 = pa at *
      generalize Ps[j].2.2.length = pl at *
      generalize Ps[j].2.1 = pc at *
      have n0 : 0 ≤ (n : Int) := by omega
      have n1 : (n : Int) + (pl : Int) ≤ 1000000 := by omega
      have n2 : 0 ≤ (pl : Int) := by omega
      go_wp2_with fail
      go_roundw
      case rel => exact ⟨n + pl, j + 1, by first | go_num | (rw [IntWalk.wrap64_in _ (by omega)]; rfl), by go_num, by omega, K2, by first | rfl | exact trivial⟩
      case measure => simp [intOf]; omega
    · obtain rfl : j = Ps.length := by omega
      have E : Hid (n = (partsJoin Ps).length) := Lib.hid (by rw [K1.out, List.take_length])
      go_wp2_with fail
      go_ret
      exact ⟨ret_i64 (by rw [E.out]), rfl⟩
set_option maxRecDepth 100000 in
set_option maxHeartbeats 4000000 in
theorem joined_any (a : Option Addr) (Ps : List Part) (c : Nat) (w : World) (h : partsIn w a Ps) (hl : (partsJoin Ps).length ≤ 1000000) (hn : Ps.length ≤ 1000000) :
    Calls Try.prog 23 #[.slice a Ps.length c] w fun e w' => e = .returned (.string (str (partsJoin Ps))) ∧ Below w.heap.size w w' := by
  have H := Lib.hid h
  have HL := Lib.hid hl
  have hn' : (Ps.length : Int) ≤ 1000000 := by omega
  clear h hl
  go_enter Try.func23, Try.ntmps23
  go_wp2_with fail
  have G0 : Hid (bldAt (w.alloc (.cells #[.pointer none, .slice none 0 0] 65 (0, 0))) w.heap.size w.heap.size none []) := Lib.hid ⟨Nat.le_refl _, .slice none 0 0, heap_alloc_new w _, World.ownsRow_nil _ _ _ _, by simp [Value.ownBlock]⟩
  have B0 : Hid (Below w.heap.size w (w.alloc (.cells #[.pointer none, .slice none 0 0] 65 (0, 0)))) := Lib.hid ((Below.refl _ _).alloc (Nat.le_refl _) _)
  generalize hb : w.heap.size = b at *
  have HBB := Lib.hid hb
  clear hb
  generalize w.alloc (.cells #[.pointer none, .slice none 0 0] 65 (0, 0)) = w0 at *
  go_loopw [8] (fun v wr => ∃ (j : Nat) (p : Option Addr), v = .int .i64 (j : Int) ∧ j ≤ Ps.length ∧ (p = none ∨ p = some ⟨b, 0, none⟩) ∧ Hid (bldAt wr b b p (partsJoin (Ps.take j))) ∧ Hid (Below b w wr)) (fun v _ => Ps.length - (intOf v).toNat)
  case atStart => exact ⟨0, none, rfl, Nat.zero_le _, Or.inl rfl, G0, B0⟩
  case round =>
    obtain ⟨j, p, rfl, hj, hp, K1, K2⟩ := hrel
    have HP := Lib.hid hp
    clear hp
    have p0 : 0 ≤ (j : Int) := by omega
    have HS : Hid (b ≤ wr.heap.size) := Lib.hid (by rw [← HBB.out]; exact K2.out.size)
    by_cases hlt : j < Ps.length
    · have q0 : (j : Int) < (Ps.length : Int) := by omega
      obtain ⟨bb, bo, hbo, d⟩ := H.out.1.at j (by simpa using hlt)
      subst hbo
      have e1 : (Ps.map partV)[j]'(by simpa using hlt) = .slice Ps[j].1 Ps[j].2.2.length Ps[j].2.1 := by simp [partV]
      rw [e1] at d
      have d1 := (K2.out.cell (p := ⟨bb, bo + j, none⟩) (by rw [← HBB.out]; exact block_lt_of_cell d)).trans d
      have J := Lib.hid (partsJoin_take Ps j hlt)
      have JL : Hid ((partsJoin (Ps.take j)).length + Ps[j].2.2.length ≤ 1000000) := Lib.hid (by
        have h1 := partsJoin_le Ps (j + 1)
        rw [J.out, List.length_append] at h1
        have := HL.out
        omega)
      have PI : Hid (∀ w', Below b wr w' → bytesIn w' Ps[j].1 Ps[j].2.2) := Lib.hid (fun w' hw => (H.out.2 Ps[j] (List.getElem_mem hlt)).1.below (K2.out.trans hw) (by rw [HBB.out]; exact Nat.le_refl _))
      have PZ : Hid (Ps[j].1 = none → Ps[j].2.1 = 0) := Lib.hid (H.out.2 Ps[j] (List.getElem_mem hlt)).2
      clear e1 d
      generalize Ps[j].1 = pa at *
      generalize Ps[j].2.2 = py at *
      generalize Ps[j].2.1 = pc at *
      have P := Lib.hid (write_any b b p _ pa py pc wr K1.out HP.out HS.out PI.out PZ.out JL.out)
      go_wp2_with fail
      with_reducible refine P.out.mono ?_
      clear P
      rintro e w1 ⟨⟨v, rfl⟩, h1, b1⟩
      rw [← J.out] at h1
      have L1 := Lib.hid h1
      have L2 := Lib.hid (K2.out.trans b1)
      clear h1 b1
      go_wp2_with fail
      go_roundw
      case rel => exact ⟨j + 1, _, by go_num, by omega, Or.inr rfl, L1, L2⟩
      case measure => simp [intOf]; omega
    · obtain rfl : j = Ps.length := by omega
      have K3 : Hid (bldAt wr b b p (partsJoin Ps)) := Lib.hid (by have := K1.out; rwa [List.take_length] at this)
      go_wp2_with fail
      have hI : Lib.IsBuilder 65 5 b b (Lib.byteCells (partsJoin Ps)) wr := by
        rcases HP.out with rfl | rfl
        · exact Or.inl K3.out
        · exact Or.inr K3.out
      with_reducible refine (Try.Builder_String_any b b (partsJoin Ps) wr hI HS.out).mono ?_
      rintro e w1 ⟨rfl, b1⟩
      have L2 := Lib.hid (K2.out.trans b1)
      clear hI b1
      go_wp2_with fail
      go_ret
      exact ⟨rfl, by rw [HBB.out]; exact L2.out⟩
end Go.Proofs.Ythefledeoiegjaa
