/- sum.Keyed: the sum of parts by a key. And sum.Stretch. -/
import Derived.Test.YtjemgniochjgmaaDoorRany
import Derived.Test.YtjemgniochjgmaaDoorWords
namespace Go.Proofs.YtjemgniochjgmaaDoor
open Go.RowKit Sha

theorem hmac_length (K l : List UInt8) : (hmac K l).length = 32 := rfl
set_option maxRecDepth 100000 in
set_option maxHeartbeats 1000000 in
/-- Keyed: HMAC. -/
theorem kf_any (a a2 : Option Addr) (c c2 : Nat) (K : List UInt8) (ls : List (List UInt8)) (w : World) (hKm : K.length ≤ 900000) (hKc : K.length ≤ c) (hcm : c ≤ 9223372036854775807) (hin : bytesIn w a K)
    (hl : ls.length ≤ 1000000) (hc : ls.length ≤ c2) (hm : ls.flatten.length ≤ 900000) (ht : tables w) (hp : partsIn w a2 ls) :
    Calls Tryd.prog 12 #[.slice a K.length c, .slice a2 ls.length c2] w fun e w' => e = .returned (.agg (byteCells (hmac K ls.flatten)).toArray) ∧ Below w.heap.size w w' := by
  have hz28 := zero28
  have D0 : Hid (blockIs (w.alloc (.cells (zeros 32).toArray 23 (0, 0))) w.heap.size (zeros 32) 23) := Lib.hid (blockIs.new w _ _)
  have B0 : Hid (Below w.heap.size w (w.alloc (.cells (zeros 32).toArray 23 (0, 0)))) := Lib.hid ((Below.refl _ _).alloc (Nat.le_refl _) _)
  have B1 : Hid (Below (w.alloc (.cells (zeros 32).toArray 23 (0, 0))).heap.size (w.alloc (.cells (zeros 32).toArray 23 (0, 0))) (w.alloc (.cells (zeros 32).toArray 23 (0, 0)))) := Lib.hid (Below.refl _ _)
  have S0 : Hid (w.heap.size + 1 = (w.alloc (.cells (zeros 32).toArray 23 (0, 0))).heap.size) := Lib.hid (by simp)
  have hbb : Below w.heap.size w (w.alloc (.cells (zeros 32).toArray 23 (0, 0))) := (Below.refl _ _).alloc (Nat.le_refl _) _
  have H1 := Lib.hid (hin.below hbb)
  have H2 := Lib.hid (hp.below hbb)
  have HT := Lib.hid ht
  have HT1 := Lib.hid (ht.below hbb ht.2.2.1 ht.2.2.2)
  clear hin hp ht hbb
  go_enter Tryd.func12, Tryd.ntmps12
  go_wp2_with fail
  generalize w.alloc (.cells (zeros 32).toArray 23 (0, 0)) = w1 at *
  with_reducible refine (ready_any a c K w1 hKm hKc hcm H1.out HT1.out).mono ?_
  rintro e w2 ⟨si, so, h1, h2, rfl, h3⟩
  have Z1 := Lib.hid h1
  have Z2 := Lib.hid h2
  have Z3 := Lib.hid h3
  clear h1 h2 h3
  have hks : ∀ x, (padKey (shortKey K) x).length = 64 := fun x => by simp [padKey]
  have HK := Lib.hid (keyed_any c2 a2 ls (padKey (shortKey K) 0x36) (padKey (shortKey K) 0x5c) si so w2 (hks _) (hks _) Z1.out Z2.out hl hc hm (HT1.out.below Z3.out HT1.out.2.2.1 HT1.out.2.2.2) (H2.out.below Z3.out))
  generalize runCells (regAfter (padKey (shortKey K) 0x36)) si 64 ++ runCells (regAfter (padKey (shortKey K) 0x5c)) so 64 = C at *
  clear hks hz28
  go_wp2_with fail
  with_reducible refine HK.out.mono ?_
  rintro e w3 ⟨rfl, h4⟩
  rw [show sha (padKey (shortKey K) 0x5c ++ sha (padKey (shortKey K) 0x36 ++ ls.flatten)) = hmac K ls.flatten from rfl]
  have D3 := Lib.hid ((D0.out.below Z3.out (by have := S0.out; omega)).below h4 (by have := S0.out; have := Z3.out.size; omega))
  have B3 := Lib.hid ((B0.out.trans (Z3.out.mono (by have := S0.out; omega))).trans (h4.mono (by have := S0.out; have := Z3.out.size; omega)))
  clear h4 HK
  have hlen := hmac_length K ls.flatten
  have HL := Lib.hid hlen
  clear hlen
  generalize hM : hmac K ls.flatten = M at *
  have HM := Lib.hid hM
  clear hM
  go_wp2_with (refine wpList_store_block rfl 23 _ _ rfl w.heap.size 0 (byteCells M) rfl rfl (zeros 32) 23 D3.out (by rw [info28, byteCells_length, HL.out]) (by simp [zeros, byteCells_length, HL.out]) (byteCells_one _) ?_)
  intro w6 h1 h2 h3
  have h1 := h1.out
  rw [splice_all _ _ (by simp [zeros, byteCells_length, HL.out])] at h1
  have H1 := Lib.hid h1
  have H2 := Lib.hid (B3.out.trans (h2.out.below (Nat.le_refl _) B3.out.size))
  clear h1 h2 h3
  go_wp2_with fail
  refine bodyPost_ret (v := .agg (byteCells M).toArray) (results_cell_row rfl _ _ w.heap.size 23 _ (0, 0) _ rfl H1.out Tryd.underlying23 rfl (by rw [info28]; simp [byteCells_length, HL.out])) rfl ?_
  exact ⟨by rw [HM.out], H2.out⟩
end Go.Proofs.YtjemgniochjgmaaDoor
