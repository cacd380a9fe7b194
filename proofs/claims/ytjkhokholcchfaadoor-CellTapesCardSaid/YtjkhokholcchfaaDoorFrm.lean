/- The laws' salt; a ring, taken apart and put together. -/
import Derived.Test.YtjkhokholcchfaaDoorRng
import Derived.Test.YtjkhokholcchfaaDoorDmk
namespace Go.Proofs.YtjkhokholcchfaaDoor
open Go.RowKit Sha

set_option maxRecDepth 100000 in
set_option maxHeartbeats 1000000 in
theorem salt_any (w : World) : Calls Tryd.prog 30 #[] w fun e w' => e = .returned (.slice (some ⟨w.heap.size, 0, none⟩) 16 16) ∧ w' = w.alloc (.cells (byteCells saltL).toArray 5 (16, 17)) := by
  have hcv : (convert 22 22 (.slice (some ⟨w.heap.size, 0, none⟩) 16 16)).run Tryd.prog (w.alloc (.cells #[.int .u8 48, .int .u8 49, .int .u8 50, .int .u8 51, .int .u8 52, .int .u8 53, .int .u8 54, .int .u8 55, .int .u8 56, .int .u8 57, .int .u8 97, .int .u8 98, .int .u8 99, .int .u8 100, .int .u8 101, .int .u8 102] 5)) = .ok (.slice (some ⟨w.heap.size, 0, none⟩) 16 16) (w.alloc (.cells #[.int .u8 48, .int .u8 49, .int .u8 50, .int .u8 51, .int .u8 52, .int .u8 53, .int .u8 54, .int .u8 55, .int .u8 56, .int .u8 57, .int .u8 97, .int .u8 98, .int .u8 99, .int .u8 100, .int .u8 101, .int .u8 102] 5 (16, 17))) := Joins.run_convert_bytes_const_at w 22 5 _ 16 16 _ rfl Tryd.underlying22 Tryd.underlying5
  have hb : (byteCells saltL).toArray = #[.int .u8 48, .int .u8 49, .int .u8 50, .int .u8 51, .int .u8 52, .int .u8 53, .int .u8 54, .int .u8 55, .int .u8 56, .int .u8 57, .int .u8 97, .int .u8 98, .int .u8 99, .int .u8 100, .int .u8 101, .int .u8 102] := rfl
  rw [hb]
  clear hb
  go_enter Tryd.func30, Tryd.ntmps30
  go_wp2_with fail
  go_ret
  exact ⟨rfl, rfl⟩
set_option maxRecDepth 100000 in
theorem salt_in (w : World) (g : Nat) (l : List UInt8) (fz : Nat × Nat) (h : w.heap[g]? = some (.cells (byteCells l).toArray 5 fz)) : bytesIn w (some ⟨g, 0, none⟩) l :=
  Or.inr ⟨_, _, rfl, fun i hi => by
    rw [Nat.zero_add, cell_of_row _ _ _ _ _ _ h, List.getElem?_toArray]
    exact byteCells_get l i hi⟩

set_option maxRecDepth 100000 in
set_option maxHeartbeats 2000000 in
theorem from_any (L : List UInt8) (w : World) (hL : L.length = 96) :
    Calls Tryd.prog 31 #[.agg (byteCells L).toArray] w fun e w' => e = .returned (.agg (byteCells L).toArray) ∧ Below w.heap.size w w' := by
  obtain ⟨x, y, z, hx, hy, hz, hxyz⟩ : ∃ x y z : List Value, x.length = 32 ∧ y.length = 32 ∧ z.length = 32 ∧ byteCells L = x ++ (y ++ z) := by
    refine ⟨(byteCells L).take 32, ((byteCells L).drop 32).take 32, ((byteCells L).drop 32).drop 32, ?_, ?_, ?_, ?_⟩
    · rw [List.length_take, byteCells_length]; omega
    · rw [List.length_take, List.length_drop, byteCells_length]; omega
    · rw [List.length_drop, List.length_drop, byteCells_length]; omega
    · rw [List.take_append_drop, List.take_append_drop]
  have H1 : Hid (∀ v ∈ x ++ (y ++ z), v.oneCell' = true) := Lib.hid (by rw [← hxyz]; exact byteCells_one L)
  rw [hxyz]
  clear hxyz hL L
  have HX := Lib.hid hx
  have HY := Lib.hid hy
  have HZ := Lib.hid hz
  have HXYZ : Hid ((x ++ (y ++ z)).length = 96) := Lib.hid (by rw [List.length_append, List.length_append]; omega)
  have HB1 := Lib.hid (fun X => buildKeys x y hx hy X)
  have HB2 := Lib.hid (fun X => buildRing2 (x ++ y) z (by rw [List.length_append]; omega) hz X)
  rw [List.append_assoc] at HB2
  have G0 := Lib.hid (blockIs.new w (x ++ (y ++ z)) 58)
  have A0 := Lib.hid (alloc_below w (.cells (x ++ (y ++ z)).toArray 58 (0, 0)))
  have S0 : Hid ((w.alloc (.cells (x ++ (y ++ z)).toArray 58 (0, 0))).heap.size = w.heap.size + 1) := Lib.hid (by simp)
  have hzr := zeroRing2
  have N1 := Lib.hid (blockIs.new (w.alloc (.cells (x ++ (y ++ z)).toArray 58 (0, 0))) (zeros 96) 62)
  have B1 := Lib.hid (alloc_below (w.alloc (.cells (x ++ (y ++ z)).toArray 58 (0, 0))) (.cells (zeros 96).toArray 62 (0, 0)))
  rw [S0.out] at N1 B1
  have G1 := Lib.hid (G0.out.below B1.out (Nat.lt_succ_self _))
  have A1 := Lib.hid (A0.out.trans (B1.out.mono (Nat.le_succ _)))
  clear hx hy hz G0 A0 B1 S0
  obtain ⟨L, hLL⟩ : ∃ L, L = x ++ (y ++ z) := ⟨_, rfl⟩
  have R1 : Hid (((w.alloc (.cells L.toArray 58 (0, 0))).alloc (.cells (zeros 96).toArray 62 (0, 0))).rangeAt w.heap.size 0 x) := Lib.hid (by rw [hLL]; exact rangeAt_block (p := []) G1.out)
  have R2 : Hid (((w.alloc (.cells L.toArray 58 (0, 0))).alloc (.cells (zeros 96).toArray 62 (0, 0))).rangeAt w.heap.size 32 y) := Lib.hid (by
    have := rangeAt_block (p := x) (cs := y) G1.out
    rw [HX.out] at this
    rw [hLL]; exact this)
  have R3 : Hid (((w.alloc (.cells L.toArray 58 (0, 0))).alloc (.cells (zeros 96).toArray 62 (0, 0))).rangeAt w.heap.size 64 z) := Lib.hid (by
    have h := G1.out
    rw [show x ++ (y ++ z) = (x ++ y) ++ (z ++ []) by simp] at h
    have := rangeAt_block (p := x ++ y) (cs := z) h
    rw [List.length_append, HX.out, HY.out] at this
    rw [hLL, show x ++ (y ++ z) = (x ++ y) ++ (z ++ []) by simp]; exact this)
  rw [← hLL] at H1 HXYZ HB2 N1 A1 ⊢
  clear hLL G1
  go_enter Tryd.func31, Tryd.ntmps31
  go_wp2_with (first
    | (refine wpList_load_mid rfl 34 _ rfl w.heap.size 0 rfl x _ R1.out Tryd.underlying34 rfl (by rw [info28, HX.out]) ?_)
    | (refine wpList_load_mid rfl 34 _ rfl w.heap.size 32 rfl y _ R2.out Tryd.underlying34 rfl (by rw [info28, HY.out]) ?_)
    | (refine wpList_load_mid rfl 34 _ rfl w.heap.size 64 rfl z _ R3.out Tryd.underlying34 rfl (by rw [info28, HZ.out]) ?_)
    | (refine wpList_build rfl 36 _ rfl _ _ (HB1.out _) rfl ?_)
    | (refine wpList_build rfl 62 _ rfl _ _ (HB2.out _) rfl ?_)
    | (refine wpList_store_block rfl 62 _ _ rfl (w.heap.size + 1) 0 L rfl rfl (zeros 96) 62 N1.out (by rw [infoRing2, HXYZ.out]) (by simp [zeros, HXYZ.out]) H1.out ?_))
  intro w8 h1 h2 h3
  have h1 := h1.out
  rw [splice_all _ _ (by simp [zeros, HXYZ.out])] at h1
  have E1 := Lib.hid h1
  have E2 := Lib.hid (A1.out.trans (h2.out.below (Nat.le_succ _) A1.out.size))
  clear h1 h2 h3
  go_wp2_with fail
  refine bodyPost_ret (v := .agg L.toArray) (results_cell_row rfl _ _ (w.heap.size + 1) 62 _ (0, 0) _ rfl E1.out Tryd.underlying62 rfl (by rw [infoRing2]; simp [HXYZ.out])) rfl ?_
  exact ⟨rfl, E2.out⟩
end Go.Proofs.YtjkhokholcchfaaDoor
