/- sum.Read: a sum of digits. -/
import Derived.Test.YthgmebdbccjmlaaDoorHex
import Derived.Test.YthgmebdbccjmlaaDoorShelf
import Derived.Lib.IndexLaws
import Derived.BigQuiet
namespace Go.Proofs.YthgmebdbccjmlaaDoor
open Go.RowKit Sha

/-- Which digit a byte is; -1: none. -/
def ixd (c : UInt8) : Int := Lib.indexByte digs c
theorem ixd_lt (c : UInt8) : -1 ≤ ixd c ∧ ixd c < 16 := by
  refine ⟨Lib.indexByte_ge _ _, ?_⟩
  rcases (Int.lt_or_le (ixd c) 0) with h | h
  · omega
  · obtain ⟨n, hn⟩ : ∃ n : Nat, ixd c = (n : Int) := ⟨(ixd c).toNat, by omega⟩
    have := (Lib.indexByte_some hn).1
    have h16 := (List.getElem?_eq_some_iff.1 this).1
    have : digs.length = 16 := rfl
    omega
theorem ix_any (x : UInt8) (w : World) : Calls Tryd.prog 28 #[.string { data := #[48, 49, 50, 51, 52, 53, 54, 55, 56, 57, 97, 98, 99, 100, 101, 102] }, .int .u8 (V x)] w fun e w' => e = .returned (.int .i64 (ixd x)) ∧ w' = w := by
  have := Tryd.strings_IndexByte { data := #[48, 49, 50, 51, 52, 53, 54, 55, 56, 57, 97, 98, 99, 100, 101, 102] } (V x) w
  have e : (V x).toNat.toUInt8 = x := by
    unfold V
    rw [Int.toNat_natCast]
    exact UInt8.ofNat_toNat
  rw [e] at this
  exact this
def okAt (l : List UInt8) (i : Nat) : Bool := decide (0 ≤ ixd (l.getD (2 * i) 0)) && decide (0 ≤ ixd (l.getD (2 * i + 1) 0))
def okHex (l : List UInt8) : Bool := decide (l.length = 64) && (List.range 32).all (okAt l)
def unAt (l : List UInt8) (i : Nat) : UInt8 := UInt8.ofNat (16 * (ixd (l.getD (2 * i) 0)).toNat + (ixd (l.getD (2 * i + 1) 0)).toNat)
def unhex (l : List UInt8) : List UInt8 := (List.range 32).map (unAt l)
def readL (l : List UInt8) : List UInt8 := if okHex l = true then unhex l else List.replicate 32 0
theorem readL_length (l : List UInt8) : (readL l).length = 32 := by
  unfold readL unhex
  split <;> simp
def unF (l : List UInt8) (k j : Nat) : UInt8 := if j < k then unAt l j else 0
theorem unF_zero (l : List UInt8) : zeros 32 = cells8 (unF l 0) 32 := by
  apply List.ext_getElem?
  intro i
  by_cases hi : i < 32
  · rw [cells8_get _ _ _ hi]
    unfold unF zeros
    rw [if_neg (by omega), List.getElem?_replicate, if_pos hi]
    rfl
  · rw [List.getElem?_eq_none (by simp [zeros]; omega), List.getElem?_eq_none (by rw [cells8_length]; omega)]
theorem unF_succ (l : List UInt8) (k : Nat) (h : k < 32) : (cells8 (unF l k) 32).set k (.int .u8 (V (unAt l k))) = cells8 (unF l (k + 1)) 32 := by
  rw [cells8_set _ _ _ h]
  congr 1
  funext j
  unfold unF
  by_cases e : j = k
  · rw [if_pos e, if_pos (by omega), e]
  · rw [if_neg e]
    by_cases h2 : j < k
    · rw [if_pos h2, if_pos (by omega)]
    · rw [if_neg h2, if_neg (by omega)]
theorem unF_all (l : List UInt8) : cells8 (unF l 32) 32 = byteCells (unhex l) := by
  unfold cells8 byteCells unhex
  rw [List.map_map]
  apply List.map_congr_left
  intro j hj
  have := List.mem_range.1 hj
  simp [unF, this]
theorem zeros_cells : zeros 32 = byteCells (List.replicate 32 0) := rfl
theorem build28 (w : World) : (Instr.build 28 #[]).run Tryd.prog w = .ok (.agg (zeros 32).toArray) w := by kernel_rfl
theorem okHex_bad (l : List UInt8) (k : Nat) (hk : k < 32) (h : okAt l k = false) : okHex l = false := by
  unfold okHex
  rw [Bool.and_eq_false_iff]
  right
  rw [List.all_eq_false]
  exact ⟨k, List.mem_range.2 hk, by simp [h]⟩
theorem okHex_len (l : List UInt8) (h : l.length ≠ 64) : okHex l = false := by
  unfold okHex
  rw [decide_eq_false h]
  rfl
theorem okHex_all (l : List UInt8) (h : l.length = 64) (ha : ∀ i, i < 32 → okAt l i = true) : okHex l = true := by
  unfold okHex
  rw [decide_eq_true h, Bool.true_and, List.all_eq_true]
  exact fun i hi => ha i (List.mem_range.1 hi)

theorem results_row_tmp {fn : Func} {p u : Tmp} {ty : TypeId} (h : fn.results = #[.cell p ty, .tmp u]) (tmps : Array Value) (w : World) (g : Nat) (cs : Array Value)
    (hp : tmps.getD p undef = .pointer (some ⟨g, 0, none⟩)) (hl : (loadVar ty ⟨g, 0, none⟩).run Tryd.prog w = .ok (.agg cs) w) :
    (results fn tmps).run Tryd.prog w = .ok (.tuple #[.agg cs, tmps.getD u undef]) w := by
  have hp' : tmps[p]?.getD undef = .pointer (some ⟨g, 0, none⟩) := by simpa using hp
  simp [results, h, hp', asAddr, hl]
theorem V_un (hi lo : Nat) (h1 : hi < 16) (h2 : lo < 16) : bits .or .i64 ((hi : Int) * 16) (lo : Int) % 256 = V (UInt8.ofNat (16 * hi + lo)) := by
  have e : ∀ i : Nat, i < 16 → ∀ j : Nat, j < 16 → bits .or .i64 ((i : Int) * 16) (j : Int) % 256 = V (UInt8.ofNat (16 * i + j)) := by decide
  exact e hi h1 lo h2

set_option maxRecDepth 100000 in
set_option maxHeartbeats 2000000 in
theorem sread_any (l : List UInt8) (w : World) (hl : l.length ≤ 100000) :
    Calls Tryd.prog 18 #[.string (str l)] w fun e w' => e = .returned (.tuple #[.agg (byteCells (readL l)).toArray, .bool (okHex l)]) ∧ Below w.heap.size w w' := by
  have hsz := str_size l
  have hz28 := zero28
  have G0 := Lib.hid (blockIs.new w (zeros 32) 28)
  have B0 := Lib.hid (alloc_below w (.cells (zeros 32).toArray 28 (0, 0)))
  by_cases h64 : l.length = 64
  · have e1 : ((l.length : Int) != 64) = false := by simp [h64]
    have e2 : (l.length : Int) = 64 := by omega
    have N1 := Lib.hid (G0.out.alloc (.cells (zeros 32).toArray 28 (0, 0)))
    have N2 := Lib.hid (blockIs.last (w.alloc (.cells (zeros 32).toArray 28 (0, 0))) (zeros 32) 28 (w.heap.size + 1) (by simp))
    have N3 : Hid (Below w.heap.size w ((w.alloc (.cells (zeros 32).toArray 28 (0, 0))).alloc (.cells (zeros 32).toArray 28 (0, 0)))) := Lib.hid (B0.out.alloc (by simp) _)
    have N2 := Lib.hid (show blockIs _ _ (cells8 (unF l 0) 32) 28 by rw [← unF_zero]; exact N2.out)
    have A0 : Hid (∀ i, i < 0 → okAt l i = true) := Lib.hid (fun i hi => absurd hi (by omega))
    clear G0 B0
    go_enter Tryd.func18, Tryd.ntmps18
    go_wp2_with fail
    generalize (w.alloc (.cells (zeros 32).toArray 28 (0, 0))).alloc (.cells (zeros 32).toArray 28 (0, 0)) = w1 at *
    clear hz28
    go_loopw [12, 5, 6, 7] (fun i _ _ _ wr => ∃ k : Nat, k ≤ 32 ∧ i = .int .i64 (k : Int) ∧ Hid (∀ i, i < k → okAt l i = true) ∧ Hid (blockIs wr w.heap.size (zeros 32) 28) ∧ Hid (blockIs wr (w.heap.size + 1) (cells8 (unF l k) 32) 28) ∧ Hid (Below w.heap.size w wr)) (fun i _ _ _ _ => 32 - (intOf i).toNat)
    case atStart => exact ⟨0, by omega, rfl, A0, N1, N2, N3⟩
    case round =>
      clear A0 N1 N2 N3
      obtain ⟨k, hk, rfl, A0, N1, N2, N3⟩ := hrel
      by_cases hlt : k < 32
      · have p : 0 ≤ (k : Int) := by omega
        have q : (k : Int) < 32 := by omega
        have i0 : IntKind.i64.wrap (2 * (k : Int)) = 2 * (k : Int) := IntWalk.i64_in _ (by omega)
        have i1 : IntKind.i64.wrap (2 * (k : Int) + 1) = 2 * (k : Int) + 1 := IntWalk.i64_in _ (by omega)
        have ix0 := index_str l (2 * k) (by omega)
        have ix1 := index_str l (2 * k + 1) (by omega)
        rw [show ((2 * k : Nat) : Int) = 2 * (k : Int) by omega] at ix0
        rw [show ((2 * k + 1 : Nat) : Int) = 2 * (k : Int) + 1 by omega] at ix1
        have hx0 := fun wx => ix_any (l.getD (2 * k) 0) wx
        have hx1 := fun wx => ix_any (l.getD (2 * k + 1) 0) wx
        have HO : Hid (okAt l k = (decide (0 ≤ ixd (l.getD (2 * k) 0)) && decide (0 ≤ ixd (l.getD (2 * k + 1) 0)))) := Lib.hid rfl
        have HU : Hid (unAt l k = UInt8.ofNat (16 * (ixd (l.getD (2 * k) 0)).toNat + (ixd (l.getD (2 * k + 1) 0)).toNat)) := Lib.hid rfl
        have l0 := ixd_lt (l.getD (2 * k) 0)
        have l1 := ixd_lt (l.getD (2 * k + 1) 0)
        generalize ixd (l.getD (2 * k) 0) = hi at *
        generalize ixd (l.getD (2 * k + 1) 0) = lo at *
        generalize l.getD (2 * k) 0 = x at *
        generalize l.getD (2 * k + 1) 0 = y at *
        have HX0 := Lib.hid hx0
        have HX1 := Lib.hid hx1
        clear hx0 hx1
        go_upto_region 7 with fail
        go_quiet (first | (go_at_call 28; exact Calls.quiet_of_same (HX0.out _)) | (go_at_call 28; exact Calls.quiet_of_same (HX1.out _)))
        have N1 := Lib.hid (N1.out.drewN nq)
        have N2 := Lib.hid (N2.out.drewN nq)
        have N3 := Lib.hid (below_drewN' N3.out nq)
        generalize wr.drewN nq = wr at *
        clear ix0 ix1 HX0 HX1
        by_cases hg : 0 ≤ hi ∧ 0 ≤ lo
        · obtain ⟨a0, a1⟩ := hg
          have b0 : ¬ hi < 0 := by omega
          have b1 : ¬ lo < 0 := by omega
          obtain ⟨hn, rfl⟩ : ∃ n : Nat, hi = (n : Int) := ⟨hi.toNat, by omega⟩
          obtain ⟨ln, rfl⟩ : ∃ n : Nat, lo = (n : Int) := ⟨lo.toNat, by omega⟩
          have hu := V_un hn ln (by omega) (by omega)
          have hv := HU.out
          rw [Int.toNat_natCast, Int.toNat_natCast] at hv
          rw [← hv] at hu
          have hne : w.heap.size ≠ w.heap.size + 1 := by omega
          have c1 : wr.cell? ⟨w.heap.size + 1, k, none⟩ = some (.int .u8 (V (unF l k k))) := by rw [N2.out.cell]; exact cells8_get _ _ _ hlt
          have f1 : wr.frozen? ⟨w.heap.size + 1, k, none⟩ = false := N2.out.free _
          have M1 : Hid (blockIs (wr.setCell ⟨w.heap.size + 1, k, none⟩ (.int .u8 (V (unAt l k)))) w.heap.size (zeros 32) 28) := Lib.hid (N1.out.other _ _ hne)
          have M2 : Hid (blockIs (wr.setCell ⟨w.heap.size + 1, k, none⟩ (.int .u8 (V (unAt l k)))) (w.heap.size + 1) (cells8 (unF l (k + 1)) 32) 28) := Lib.hid (by rw [← unF_succ _ _ hlt]; exact N2.out.set k _)
          have M3 : Hid (Below w.heap.size w (wr.setCell ⟨w.heap.size + 1, k, none⟩ (.int .u8 (V (unAt l k))))) := Lib.hid (N3.out.setCell (by simp) _)
          have A1 : Hid (∀ i, i < k + 1 → okAt l i = true) := Lib.hid (fun i hi => by
            by_cases e : i = k
            · rw [e, HO.out]; simp
            · exact A0.out i (by omega))
          clear HO HU hv A0 N1 N2 N3
          generalize unAt l k = z at *
          go_wp2_with fail
          go_roundw
          case rel => exact ⟨k + 1, by omega, by go_num, A1, M1, M2, M3⟩
          case measure => simp [intOf]; omega
        · have HR : Hid (okHex l = false) := Lib.hid (okHex_bad l k hlt (by rw [HO.out]; simp; omega))
          have HL : Hid (readL l = List.replicate 32 0) := Lib.hid (by unfold readL; rw [HR.out]; rfl)
          have e3 : (decide (hi < 0) || decide (lo < 0)) = true := by simp; omega
          have e4 : hi < 0 ∨ lo < 0 := by omega
          clear HO HU A0 N2
          go_wp2_with (first | (refine wpList_build rfl 28 _ rfl _ _ (build28 _) rfl ?_) | (refine wpList_store_block rfl 28 _ _ rfl w.heap.size 0 (zeros 32) rfl rfl (zeros 32) 28 N1.out (by rw [info28]; rfl) (by simp [zeros]) (byteCells_one (List.replicate 32 0)) ?_))
          all_goals
            intro w3 h1 h2 h3
            have h1 := h1.out
            rw [splice_all _ _ (by simp [zeros])] at h1
            have H1 := Lib.hid h1
            have H2 := Lib.hid (N3.out.trans (h2.out.below (Nat.le_refl _) N3.out.size))
            clear h1 h2 h3
            go_wp2_with fail
            refine bodyPost_ret (v := .tuple #[.agg (zeros 32).toArray, .bool false]) (results_row_tmp (p := 2) (u := 3) (ty := 28) rfl _ _ w.heap.size _ rfl (run_loadVar_row _ w.heap.size 28 28 _ (0, 0) _ H1.out Tryd.underlying28 rfl (by rw [info28]; rfl))) rfl ?_
            exact ⟨by rw [HL.out, HR.out]; rfl, H2.out⟩
      · obtain rfl : k = 32 := by omega
        rw [show ((32 : Nat) : Int) = 32 from rfl]
        rw [unF_all] at N2
        have R0 := Lib.hid (range_of N2.out)
        have HO : Hid (okHex l = true) := Lib.hid (okHex_all l h64 A0.out)
        have HR : Hid (readL l = unhex l) := Lib.hid (by unfold readL; rw [HO.out]; rfl)
        have hul : Hid ((unhex l).length = 32) := Lib.hid (by simp [unhex])
        clear N2 A0
        generalize unhex l = u at *
        go_wp2_with (first | (refine wpList_load_mid rfl 28 _ rfl (w.heap.size + 1) 0 rfl (byteCells u) _ R0.out Tryd.underlying28 rfl (by rw [info28, byteCells_length, hul.out]) ?_) | (refine wpList_store_block rfl 28 _ _ rfl w.heap.size 0 (byteCells u) rfl rfl (zeros 32) 28 N1.out (by rw [info28, byteCells_length, hul.out]) (by simp [zeros, byteCells_length, hul.out]) (byteCells_one _) ?_))
        intro w3 h1 h2 h3
        have h1 := h1.out
        rw [splice_all _ _ (by simp [zeros, byteCells_length, hul.out])] at h1
        have H1 := Lib.hid h1
        have H2 := Lib.hid (N3.out.trans (h2.out.below (Nat.le_refl _) N3.out.size))
        clear h1 h2 h3
        go_wp2_with fail
        refine bodyPost_ret (v := .tuple #[.agg (byteCells u).toArray, .bool true]) (results_row_tmp (p := 2) (u := 3) (ty := 28) rfl _ _ w.heap.size _ rfl (run_loadVar_row _ w.heap.size 28 28 _ (0, 0) _ H1.out Tryd.underlying28 rfl (by rw [info28]; simp [byteCells_length, hul.out]))) rfl ?_
        exact ⟨by rw [HR.out, HO.out], H2.out⟩
  · have e1 : ((l.length : Int) != 64) = true := by simp; omega
    have e2 : ¬ (l.length : Int) = 64 := by omega
    have HR : Hid (readL l = List.replicate 32 0) := Lib.hid (by unfold readL; rw [okHex_len l h64]; rfl)
    have HO : Hid (okHex l = false) := Lib.hid (okHex_len l h64)
    go_enter Tryd.func18, Tryd.ntmps18
    go_wp2_with (first | (refine wpList_build rfl 28 _ rfl _ _ (build28 _) rfl ?_) | (refine wpList_store_block rfl 28 _ _ rfl w.heap.size 0 (zeros 32) rfl rfl (zeros 32) 28 G0.out (by rw [info28]; rfl) (by simp [zeros]) (byteCells_one (List.replicate 32 0)) ?_))
    intro w3 h1 h2 h3
    have h1 := h1.out
    rw [splice_all _ _ (by simp [zeros])] at h1
    have H1 := Lib.hid h1
    have H2 := Lib.hid (B0.out.trans (h2.out.below (Nat.le_refl _) B0.out.size))
    clear h1 h2 h3
    go_wp2_with fail
    refine bodyPost_ret (v := .tuple #[.agg (zeros 32).toArray, .bool false]) (results_row_tmp (p := 2) (u := 3) (ty := 28) rfl _ _ w.heap.size _ rfl (run_loadVar_row _ w.heap.size 28 28 _ (0, 0) _ H1.out Tryd.underlying28 rfl (by rw [info28]; rfl))) rfl ?_
    exact ⟨by rw [HR.out, HO.out]; rfl, H2.out⟩
end Go.Proofs.YthgmebdbccjmlaaDoor
