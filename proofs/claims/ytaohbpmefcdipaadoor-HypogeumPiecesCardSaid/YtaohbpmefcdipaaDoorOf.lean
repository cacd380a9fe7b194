/- sum.Of: the sum of parts. -/
import Derived.Test.YtaohbpmefcdipaaDoorEnd
namespace Go.Proofs.YtaohbpmefcdipaaDoor
open Go.RowKit Sha

/-- Bytes that lie somewhere. -/
def bytesIn (w : World) (a : Option Addr) (l : List UInt8) : Prop :=
  l = [] ∨ ∃ bb bo, a = some ⟨bb, bo, none⟩ ∧ ∀ j, j < l.length → w.cell? ⟨bb, bo + j, none⟩ = some (.int .u8 (V (l.getD j 0)))
theorem bytesIn.at {w w' : World} {B b : Nat} {a : Option Addr} {l : List UInt8} (h : bytesIn w a l) (hw : Below B w w') (hB : w.heap.size ≤ B) (hb : B ≤ b) : bytesAt w' b a l := by
  rcases h with h | ⟨bb, bo, h1, h3⟩
  · exact Or.inl h
  · by_cases h0 : l = []
    · exact Or.inl h0
    · have hlt : bb < w.heap.size := block_lt_of_cell (h3 0 (List.length_pos_iff.2 h0))
      exact Or.inr ⟨bb, bo, h1, by omega, fun j hj => (hw.cell (p := ⟨bb, bo + j, none⟩) (by show bb < B; omega)).trans (h3 j hj)⟩

/-- A slice of parts. -/
def partsIn (w : World) (a : Option Addr) (ls : List (List UInt8)) : Prop :=
  ls = [] ∨ ∃ pb po, a = some ⟨pb, po, none⟩ ∧ ∀ j, j < ls.length → ∃ aj cj, w.cell? ⟨pb, po + j, none⟩ = some (.slice aj (ls.getD j []).length cj) ∧ (ls.getD j []).length ≤ cj ∧ cj ≤ 9223372036854775807 ∧ bytesIn w aj (ls.getD j [])

/-- What the two tables hold. -/
def tables (w : World) : Prop :=
  (∀ j, j < 64 → w.cell? ⟨1, j, none⟩ = some (.int .u32 (U (consts.getD j 0)))) ∧ (∀ j x, init.list[j]? = some x → w.cell? ⟨0, j, none⟩ = some (.int .u32 (U x))) ∧ 1 < w.heap.size ∧ 0 < w.heap.size
theorem tables.below {w w' : World} {B : Nat} (h : tables w) (hb : Below B w w') (h1 : 1 < B) (h2 : 0 < B) : tables w' :=
  ⟨fun j hj => (hb.cell h1).trans (h.1 j hj), fun j x hj => (hb.cell h2).trans (h.2.1 j x hj), Nat.lt_of_lt_of_le h.2.2.1 hb.size, Nat.lt_of_lt_of_le h.2.2.2 hb.size⟩

def zero73 : List Value := runCells ⟨0, 0, 0, 0, 0, 0, 0, 0⟩ (List.replicate 64 0) 0
theorem zero50 (w : World) : (zeroValue 77).run Tryd.prog w = .ok (.agg zero73.toArray) w := by kernel_rfl
theorem zero73_ne : (zero73 = []) = False := by simp [zero73, runCells]
theorem zero73_one : ∀ v ∈ zero73, v.oneCell' = true := by decide
theorem set_one {l : List Value} (h : ∀ v ∈ l, v.oneCell' = true) (i : Nat) (k : IntKind) (n : Int) : ∀ v ∈ l.set i (.int k n), v.oneCell' = true := by
  intro v hv
  rcases List.mem_or_eq_of_mem_set hv with h1 | rfl
  · exact h v h1
  · rfl
theorem flatten_take (ls : List (List UInt8)) (k : Nat) (h : k < ls.length) : (ls.take (k + 1)).flatten = (ls.take k).flatten ++ ls.getD k [] := by
  rw [List.take_succ_eq_append_getElem h, List.flatten_append]
  simp [h]
theorem flatten_le (ls : List (List UInt8)) (k : Nat) : (ls.take k).flatten.length ≤ ls.flatten.length := by
  conv => rhs; rw [← List.take_append_drop k ls, List.flatten_append, List.length_append]
  omega
theorem flatten_le2 (ls : List (List UInt8)) (k : Nat) (h : k < ls.length) : (ls.take k).flatten.length + (ls.getD k []).length ≤ ls.flatten.length := by
  have h1 := flatten_le ls (k + 1)
  rw [flatten_take ls k h, List.length_append] at h1
  exact h1
theorem sha_length (l : List UInt8) : (sha l).length = 32 := rfl
theorem info50 : (Tryd.prog.info? 77).map (·.size) = some 73 := by kernel_rfl

set_option maxRecDepth 100000 in
set_option maxHeartbeats 2000000 in
theorem of_any (c : Nat) (a : Option Addr) (ls : List (List UInt8)) (w : World) (hl : ls.length ≤ 1000000) (_ : ls.length ≤ c) (hm : ls.flatten.length ≤ 1000000) (ht : tables w) (hp : partsIn w a ls) :
    Calls Tryd.prog 16 #[.slice a ls.length c] w fun e w' => e = .returned (.agg (byteCells (sha ls.flatten)).toArray) ∧ Below w.heap.size w w' := by
  have s0 : w.cell? ⟨0, 0, none⟩ = some (.int .u32 (U init.a)) := ht.2.1 0 _ rfl
  have s1 : w.cell? ⟨0, 1, none⟩ = some (.int .u32 (U init.b)) := ht.2.1 1 _ rfl
  have s2 : w.cell? ⟨0, 2, none⟩ = some (.int .u32 (U init.c)) := ht.2.1 2 _ rfl
  have s3 : w.cell? ⟨0, 3, none⟩ = some (.int .u32 (U init.d)) := ht.2.1 3 _ rfl
  have s4 : w.cell? ⟨0, 4, none⟩ = some (.int .u32 (U init.e)) := ht.2.1 4 _ rfl
  have s5 : w.cell? ⟨0, 5, none⟩ = some (.int .u32 (U init.f)) := ht.2.1 5 _ rfl
  have s6 : w.cell? ⟨0, 6, none⟩ = some (.int .u32 (U init.g)) := ht.2.1 6 _ rfl
  have s7 : w.cell? ⟨0, 7, none⟩ = some (.int .u32 (U init.h)) := ht.2.1 7 _ rfl
  have hz := zero50
  have hz2 := zero73_ne
  have hz3 := zero28
  have hl0 : 0 < w.heap.size := ht.2.2.2
  have HT := Lib.hid ht
  have HP := Lib.hid hp
  have HM := Lib.hid hm
  clear ht hp hm
  go_enter Tryd.func16, Tryd.ntmps16
  go_wp2_with (refine wpList_store_block rfl 77 _ _ rfl (w.heap.size + 1) 0 _ rfl rfl zero73 77 (blockIs.last _ _ _ _ (by simp)) (by rw [info50]; rfl) (by simp) ?ones ?_)
  case ones => exact set_one (set_one (set_one (set_one (set_one (set_one (set_one (set_one zero73_one _ _ _) _ _ _) _ _ _) _ _ _) _ _ _) _ _ _) _ _ _) _ _ _
  intro w1 h1 h2 h3
  have h1 := h1.out
  rw [splice_all _ _ (by simp)] at h1
  have G1 : Hid (runIs w1 (w.heap.size + 1) [] [] 77 []) := Lib.hid ⟨List.replicate 64 0, rfl, rfl, h1⟩
  have G2 : Hid (blockIs w1 w.heap.size (zeros 32) 43) := Lib.hid (h2.out.is ((blockIs.new w (zeros 32) 43).alloc _) (by omega))
  have G3 : Hid (Below w.heap.size w w1) := Lib.hid ((((Below.refl _ w).alloc (Nat.le_refl _) _).alloc (by simp) _).trans (h2.out.below (by omega) (by simp <;> omega)))
  clear h1 h2 h3 s0 s1 s2 s3 s4 s5 s6 s7 hz hz2 hz3
  go_wp2_with fail
  go_loopw [10, 5] (fun i _ wr => ∃ k : Nat, k ≤ ls.length ∧ i = .int .i64 k ∧ runIs wr (w.heap.size + 1) [] [] 77 (ls.take k).flatten ∧ But (w.heap.size + 1) w1 wr) (fun i _ _ => ls.length - (intOf i).toNat)
  case atStart => exact ⟨0, by omega, rfl, G1.out, But.refl _ _⟩
  case round =>
    obtain ⟨k, hk, rfl, h1, h2⟩ := hrel
    by_cases hlt : k < ls.length
    · have hB : Below w.heap.size w wr := G3.out.trans (h2.below (by omega) G3.out.size)
      rcases HP.out with h0 | ⟨pb, po, rfl, hpp⟩
      · simp [h0] at hlt
      obtain ⟨aj, cj, hcell, hlc, hcc, hin⟩ := hpp k hlt
      have cc : wr.cell? ⟨pb, po + k, none⟩ = some (.slice aj (ls.getD k []).length cj) := (hB.cell (p := ⟨pb, po + k, none⟩) (block_lt_of_cell hcell)).trans hcell
      have hmk := flatten_le2 ls k hlt
      have hin2 : bytesAt wr (w.heap.size + 1) aj (ls.getD k []) := hin.at hB (Nat.le_refl _) (by omega)
      have HB := Lib.hid hB
      have H1 := Lib.hid h1
      have H2 := Lib.hid h2
      have HI := Lib.hid hin2
      have HMK := Lib.hid hmk
      clear hB h1 h2 hin hin2 hmk hpp hcell
      have p : 0 ≤ (k : Int) := by omega
      have q : (k : Int) < (ls.length : Int) := by omega
      generalize hL : ls.getD k [] = L at *
      have HL := Lib.hid hL
      clear hL
      go_wp2_with fail
      refine (take_any (w.heap.size + 1) cj aj [] [] 77 (ls.take k).flatten L wr hlc hcc (by have := HMK.out; have := HM.out; omega) H1.out HI.out (fun j hj => (HB.out.cell HT.out.2.2.1).trans (HT.out.1 j hj)) (by have := HT.out.2.2.1; omega)).mono ?_
      rintro e w3 ⟨rfl, g1, g2⟩
      have K1 := Lib.hid g1
      have K2 := Lib.hid (H2.out.trans g2)
      clear g1 g2
      go_wp2_with fail
      go_roundw
      case rel => exact ⟨k + 1, by omega, by go_num, by rw [flatten_take _ _ hlt, HL.out]; exact K1.out, K2.out⟩
      case measure => simp [intOf]; omega
    · have hB : Below w.heap.size w wr := G3.out.trans (h2.below (by omega) G3.out.size)
      have hke : (ls.take k).flatten = ls.flatten := by rw [List.take_of_length_le (by omega)]
      rw [hke] at h1
      clear hke
      generalize hMM : ls.flatten = M at *
      have HMM := Lib.hid hMM
      clear hMM
      obtain ⟨s, hs, hsm, hr⟩ := h1
      have hw1 : w.heap.size + 1 < wr.heap.size := hr.lt
      have R1 : Hid (wr.rangeAt (w.heap.size + 1) 0 (runCells (regAfter M) s M.length)) := Lib.hid (rangeAt_block (p := []) hr)
      have R2 : Hid (blockIs wr w.heap.size (zeros 32) 43) := Lib.hid (h2.is G2.out (by omega))
      have HB := Lib.hid hB
      have HS := Lib.hid hs
      have HSM := Lib.hid hsm
      clear h2 hB hs hsm hr
      go_wp2_with (refine wpList_load_mid rfl 77 _ rfl (w.heap.size + 1) 0 rfl (runCells (regAfter M) s M.length) _ R1.out Tryd.underlying77 rfl (by rw [info50, runCells_length _ _ _ HS.out]) ?_)
      refine (end_any M s wr HM.out HS.out HSM.out (fun j hj => (HB.out.cell HT.out.2.2.1).trans (HT.out.1 j hj)) (Nat.lt_of_lt_of_le HT.out.2.2.1 HB.out.size)).mono ?_
      rintro e w5 ⟨rfl, g1⟩
      have K1 : Hid (blockIs w5 w.heap.size (zeros 32) 43) := Lib.hid (R2.out.below g1 (by omega))
      have K2 := Lib.hid (HB.out.trans (g1.mono HB.out.size))
      clear g1 R1 R2 HB
      go_wp2_with (refine wpList_store_block rfl 43 _ _ rfl w.heap.size 0 (byteCells (sha M)) rfl rfl (zeros 32) 43 K1.out (by rw [info28, byteCells_length, sha_length]) (by simp [zeros, byteCells_length, sha_length]) (byteCells_one _) ?_)
      intro w6 h1 h2 h3
      have h1 := h1.out
      rw [splice_all _ _ (by simp [zeros, byteCells_length, sha_length])] at h1
      have H1 := Lib.hid h1
      have H2 := Lib.hid (K2.out.trans (h2.out.below (Nat.le_refl _) K2.out.size))
      clear h1 h2 h3
      go_wp2_with fail
      refine bodyPost_ret (v := .agg (byteCells (sha M)).toArray) (results_cell_row rfl _ _ w.heap.size 43 _ (0, 0) _ rfl H1.out Tryd.underlying43 rfl (by rw [info28]; simp [byteCells_length, sha_length])) rfl ?_
      exact ⟨by rw [HMM.out], H2.out⟩
end Go.Proofs.YtaohbpmefcdipaaDoor
