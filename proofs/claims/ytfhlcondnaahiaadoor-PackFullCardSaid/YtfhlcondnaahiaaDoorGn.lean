/- wax.fit. -/
import Derived.Test.YtfhlcondnaahiaaDoorTk
import Derived.Test.YtfhlcondnaahiaaDoorGd
import Derived.Test.YtfhlcondnaahiaaDoorGk
import Derived.Test.YtfhlcondnaahiaaDoorGg
import Derived.BigQuiet
import Derived.Deep.DeepCutAuto
section
namespace Go.Proofs.YtfhlcondnaahiaaDoor
open Go.RowKit Sha

set_option maxRecDepth 100000 in
set_option maxHeartbeats 1000000 in
theorem fit_any (a : Option Addr) (c : Nat) (ls : List (List UInt8)) (w : World) (hl : ls.length ≤ 1000000) (hp : partsIn w a ls) :
    Calls Tryd.prog 73 #[.slice a ls.length c] w fun e w' => e = .returned (.bool (decide (ls.flatten.length ≤ 1048576))) ∧ w = w' := by
  have HP := Lib.hid hp
  obtain ⟨B, hB⟩ : ∃ B, B = decide (ls.flatten.length ≤ 1048576) := ⟨_, rfl⟩
  rw [← hB]
  have HB := Lib.hid hB
  clear hp hB
  go_enter Tryd.func73, Tryd.ntmps73
  go_wp2_with fail
  go_loopw [8, 3] (fun i v wr => ∃ k s : Nat, k ≤ ls.length ∧ i = .int .i64 k ∧ (ls.take k).flatten.length + s = 1048576 ∧ v = .int .i64 (s : Int) ∧ w = wr) (fun i _ _ => ls.length - (intOf i).toNat)
  case atStart => exact ⟨0, 1048576, by omega, rfl, rfl, rfl, rfl⟩
  case round =>
    obtain ⟨k, s, hk, rfl, hs, rfl, rfl⟩ := hrel
    by_cases hlt : k < ls.length
    · rcases HP.out with h0 | ⟨pb, po, rfl, hpp⟩
      · simp [h0] at hlt
      obtain ⟨aj, cj, hcell, hlc, hcc, hin⟩ := hpp k hlt
      have hle := flatten_le2 ls k hlt
      have HFT : Hid ((ls.take (k + 1)).flatten.length = (ls.take k).flatten.length + (ls.getD k []).length) := Lib.hid (by rw [flatten_take ls k hlt, List.length_append])
      clear hpp hin
      have p : 0 ≤ (k : Int) := by omega
      have q : (k : Int) < (ls.length : Int) := by omega
      generalize (ls.getD k []).length = L at *
      have HS := Lib.hid hs
      have HLE := Lib.hid hle
      clear hs hle
      by_cases hgt : s < L
      · have g1 : (s : Int) < (L : Int) := by omega
        have hd : decide (ls.flatten.length ≤ 1048576) = false := by
          rw [decide_eq_false_iff_not]
          have := HS.out
          have := HLE.out
          omega
        have HD : Hid (B = _) := Lib.hid (HB.out.trans hd)
        clear hd hgt
        go_wp2_with fail
        go_ret
        exact ⟨congrArg (fun b => Ending.returned (.bool b)) HD.out.symm, rfl⟩
      · have g1 : ¬ (s : Int) < (L : Int) := by omega
        have g2 : IntKind.i64.wrap ((s : Int) - (L : Int)) = ((s - L : Nat) : Int) := by
          have := HS.out
          rw [IntWalk.i64_in _ (by omega)]; omega
        go_wp2_with fail
        go_roundw
        case rel =>
          refine ⟨k + 1, s - L, by omega, by go_num, by have := HS.out; have := HFT.out; omega, ?_⟩
          exact ⟨rfl, trivial⟩
        case measure => simp [intOf]; omega
    · have hd : decide (ls.flatten.length ≤ 1048576) = true := by
        rw [List.take_of_length_le (by omega)] at hs
        rw [decide_eq_true_iff]
        omega
      have HD : Hid (B = _) := Lib.hid (HB.out.trans hd)
      clear hd
      have q : ¬ (k : Int) < (ls.length : Int) := by omega
      clear hs
      go_wp2_with fail
      go_ret
      exact ⟨congrArg (fun b => Ending.returned (.bool b)) HD.out.symm, rfl⟩
end Go.Proofs.YtfhlcondnaahiaaDoor
end
section
/- wax, in plain words; slices of parts; wax.fit. -/
namespace Go.Proofs.YtfhlcondnaahiaaDoor
open Go.RowKit Sha

/-- A slice of parts; a nil one has no room. -/
def partsW (w : World) (a : Option Addr) (ls : List (List UInt8)) : Prop :=
  ls = [] ∨ ∃ pb po, a = some ⟨pb, po, none⟩ ∧ ∀ j, j < ls.length → ∃ aj cj, w.cell? ⟨pb, po + j, none⟩ = some (.slice aj (ls.getD j []).length cj) ∧ (ls.getD j []).length ≤ cj ∧ cj ≤ 9223372036854775807 ∧ (aj = none → cj = 0) ∧ bytesIn w aj (ls.getD j [])
theorem partsW.plain {w : World} {a : Option Addr} {ls : List (List UInt8)} (h : partsW w a ls) : partsIn w a ls := by
  rcases h with h | ⟨pb, po, h1, h2⟩
  · exact Or.inl h
  · refine Or.inr ⟨pb, po, h1, fun j hj => ?_⟩
    obtain ⟨aj, cj, e1, e2, e3, e4, e5⟩ := h2 j hj
    exact ⟨aj, cj, e1, e2, e3, e5⟩
theorem partsW.ci {w : World} {a : Option Addr} {ls : List (List UInt8)} (h : partsW w a ls) : Ci.partsB w a ls := by
  rcases h with h | ⟨pb, po, h1, h2⟩
  · exact Or.inl h
  · refine Or.inr ⟨pb, po, h1, fun j hj => ?_⟩
    obtain ⟨aj, cj, e1, e2, e3, e4, e5⟩ := h2 j hj
    exact ⟨aj, cj, e1, e4, e5⟩
theorem partsW.below {w w' : World} {a : Option Addr} {ls : List (List UInt8)} (h : partsW w a ls) (hb : Below w.heap.size w w') : partsW w' a ls := by
  rcases h with h | ⟨pb, po, h1, h2⟩
  · exact Or.inl h
  · refine Or.inr ⟨pb, po, h1, fun j hj => ?_⟩
    obtain ⟨aj, cj, e1, e2, e3, e4, e5⟩ := h2 j hj
    exact ⟨aj, cj, (hb.cell (p := ⟨pb, po + j, none⟩) (block_lt_of_cell e1)).trans e1, e2, e3, e4, e5.below hb⟩
/-- A slice of bytes whose nil has no room. -/
def Pt.ok0 (w : World) (p : Pt) : Prop := p.ok w ∧ (p.a = none → p.c = 0)
theorem Pt.ok0.below {w w' : World} {p : Pt} (h : p.ok0 w) (hb : Below w.heap.size w w') : p.ok0 w' := ⟨⟨h.1.1, h.1.2.1, h.1.2.2.below hb⟩, h.2⟩
/-- The world behind a conversion of a text to bytes; the room. -/
def cW (X : World) (y : List UInt8) : World := Lib.bytesWorld X 5 (str y)
def cC (X : World) (y : List UInt8) : Nat := grownCap X (str y).size 0 5
theorem run_cW (X : World) (y : List UInt8) : (convert 9 30 (.string (str y))).run Tryd.prog X = .ok (.slice (some ⟨X.heap.size, 0, none⟩) y.length (cC X y)) (cW X y) := by
  have r := Lib.run_convert_string_bytes (P := Tryd.prog) X 9 30 5 (str y) Tryd.underlying9 Tryd.underlying30 Tryd.underlying5
  rw [r]
  unfold cC cW
  rw [str_size]
theorem cW_below (X : World) (y : List UInt8) : Below X.heap.size X (cW X y) :=
  ⟨by simp [cW, Lib.bytesWorld, World.freeze, World.alloc, World.drew, -World.alloc_eq, -World.drew_eq], by simp [cW, Lib.bytesWorld, World.freeze, World.alloc, World.drew, -World.alloc_eq, -World.drew_eq], by simp [cW, Lib.bytesWorld, World.freeze, World.alloc, World.drew, -World.alloc_eq, -World.drew_eq],
    by unfold cW; rw [Lib.bytesWorld_size]; omega, fun k hk => Lib.bytesWorld_at_old X _ _ k hk⟩
theorem cW_in (X : World) (y : List UInt8) : bytesIn (cW X y) (some ⟨X.heap.size, 0, none⟩) y := by
  refine Or.inr ⟨_, _, rfl, fun j hj => ?_⟩
  unfold cW
  rw [Nat.zero_add, Lib.bytesWorld_cell _ _ _ _ (by rw [str_size]; exact hj)]
  simp [str, V]
theorem cC_ge (X : World) (y : List UInt8) : y.length ≤ cC X y := by
  have := grownCap_ge X (str y).size 0 5
  rwa [str_size] at this
theorem cC_le (X : World) (y : List UInt8) (h : y.length ≤ 1000000) : cC X y ≤ 9223372036854775807 := by
  have := grownCap_le_maxLen X (str y).size 0 5 (by rw [str_size]; unfold maxLen; omega)
  unfold maxLen at this
  unfold cC
  omega
theorem join3 {α β γ : Type} {Q H : α → β → γ → World → Prop} {G : Prop} (main : (∀ x y z w, H x y z w → Q x y z w) → G) (rest : ∀ x y z w, H x y z w → Q x y z w) : G := main rest
theorem wpAnyH_listed {P : Program} {md : Region.Mode} {ops : Array Oper} {Q : Exit → Act → World → Prop} {S : World → Prop} {fuel : Nat} {L L2 : Array Bool} {a : Act} {w : World} (h : L = L2) (g : wpAnyH P md ops Q S fuel L2 a w) : wpAnyH P md ops Q S fuel L a w := h ▸ g
/-- The mark, what hides, what is sealed. -/
def wmark (M : List UInt8) (kd : UInt8) (nm N H : List UInt8) : List UInt8 := hmac M ([kd, UInt8.ofNat nm.length] ++ (nm ++ (N ++ H)))
def whide (H N b : List UInt8) : List UInt8 := Ci.hideL (Ci.Aes.words H 60) N 0 b
def wseal (H M : List UInt8) (kd : UInt8) (nm N b : List UInt8) : List UInt8 := N ++ (whide H N b ++ wmark M kd nm N (whide H N b))
theorem wmark_length (M : List UInt8) (kd : UInt8) (nm N H : List UInt8) : (wmark M kd nm N H).length = 32 := hmac_length _ _
theorem whide_length (H N b : List UInt8) : (whide H N b).length = b.length := Ci.hideL_length _ _ _ _
theorem wseal_length (H M : List UInt8) (kd : UInt8) (nm N b : List UInt8) (hN : N.length = 16) : (wseal H M kd nm N b).length = b.length + 48 := by
  unfold wseal
  rw [List.length_append, List.length_append, whide_length, wmark_length]
  omega
/-- Keys, in memory. -/
def keyCells (H M : List UInt8) : List Value := byteCells H ++ byteCells M
theorem keyCells_length {H M : List UInt8} (h : H.length = 32) (k : M.length = 32) : (keyCells H M).length = 64 := by simp [keyCells, byteCells_length, h, k]
theorem infoKeys : (Tryd.prog.info? 56).map (·.size) = some 64 := by kernel_rfl
theorem infoN : (Tryd.prog.info? 106).map (·.size) = some 16 := by kernel_rfl

end Go.Proofs.YtfhlcondnaahiaaDoor
end
section
/- wax.Keys.turn: what hides. -/
namespace Go.Proofs.YtfhlcondnaahiaaDoor
open Go.RowKit Sha

theorem ownB_mono {w : World} {b c : Nat} {v : Value} {l : List UInt8} (h : Ci.ownB w b v l) (hc : c ≤ b) : Ci.ownB w c v l := by
  refine ⟨h.1, ?_⟩
  rcases h.2 with h0 | ⟨q, cap, cur, hv, hq, r⟩
  · exact .inl h0
  · exact .inr ⟨q, cap, cur, hv, Nat.le_trans hc hq, r⟩
theorem keys_in {w : World} {g : Nat} {H M : List UInt8} {t : TypeId} (h : blockIs w g (keyCells H M) t) : bytesIn w (some ⟨g, 0, none⟩) H :=
  Or.inr ⟨_, _, rfl, fun j hj => by
    rw [Nat.zero_add, h.cell]
    unfold keyCells
    rw [List.getElem?_append_left (by rw [byteCells_length]; exact hj)]
    exact byteCells_get H j hj⟩
theorem keys_in2 {w : World} {g : Nat} {H M : List UInt8} {t : TypeId} (hH : H.length = 32) (h : blockIs w g (keyCells H M) t) : bytesIn w (some ⟨g, 32, none⟩) M :=
  Or.inr ⟨_, _, rfl, fun j hj => by
    rw [h.cell]
    unfold keyCells
    rw [List.getElem?_append_right (by rw [byteCells_length]; omega), byteCells_length, hH, Nat.add_sub_cancel_left]
    exact byteCells_get M j hj⟩

set_option maxRecDepth 100000 in
set_option maxHeartbeats 2000000 in
theorem wturn_any (H M N : List UInt8) (a : Option Addr) (c : Nat) (ls : List (List UInt8)) (w : World) (hH : H.length = 32) (hN : N.length = 16) (hl : ls.length ≤ 100000) (hm : ls.flatten.length ≤ 900000) (hp : Ci.partsB w a ls) :
    Calls Tryd.prog 62 #[.agg (keyCells H M).toArray, .agg (byteCells N).toArray, .slice a ls.length c] w fun e w' => ∃ v, e = .returned v ∧ Ci.ownB w' w.heap.size v (whide H N ls.flatten) ∧ Below w.heap.size w w' := by
  have G0 := blockIs.new w (keyCells H M) 56
  have A0 := alloc_below w (.cells (keyCells H M).toArray 56 (0, 0))
  have HNL := Lib.hid hN
  have HNB : Hid ((byteCells N).length = 16) := Lib.hid (by rw [byteCells_length]; exact hN)
  obtain ⟨NB, hNB⟩ : ∃ NB, NB = byteCells N := ⟨_, rfl⟩
  rw [← hNB] at HNB ⊢
  have HNN := Lib.hid hNB
  clear hNB
  have G1 := G0.alloc (.cells NB.toArray 106 (0, 0))
  have S1 := blockIs.new (w.alloc (.cells (keyCells H M).toArray 56 (0, 0))) NB 106
  have B1 : Hid (Below w.heap.size w ((w.alloc (.cells (keyCells H M).toArray 56 (0, 0))).alloc (.cells NB.toArray 106 (0, 0)))) := Lib.hid (A0.alloc A0.size _)
  rw [show (w.alloc (.cells (keyCells H M).toArray 56 (0, 0))).heap.size = w.heap.size + 1 by simp] at S1
  have P1 := Lib.hid (hp.below B1.out)
  have K1 := Lib.hid (keys_in G1)
  have S1 := Lib.hid S1
  clear G0 A0 G1 hp hN
  generalize keyCells H M = C at *
  go_enter Tryd.func62, Tryd.ntmps62
  have HM := Lib.hid (Ci.make_any (some ⟨w.heap.size, 0, none⟩) 32 H _ hH K1.out)
  rw [hH] at HM
  go_wp2_with fail
  generalize (w.alloc (.cells C.toArray 56 (0, 0))).alloc (.cells NB.toArray 106 (0, 0)) = w1 at *
  with_reducible refine HM.out.mono ?_
  rintro e w2 ⟨g, rfl, hg, hk, kk⟩
  have KY := Lib.hid hk
  have S2 := Lib.hid (S1.out.below kk S1.out.lt)
  have B2 := Lib.hid (B1.out.trans (kk.mono B1.out.size))
  have P2 := Lib.hid (P1.out.below kk)
  clear hk kk HM S1 B1 K1 P1
  have RN := Lib.hid (Ci.range_of S2.out)
  have HB := Lib.hid (Ci.begin_ok g N w2 HNL.out)
  rw [← HNN.out] at HB
  go_wp2_with (refine Ci.wpList_load_mid_if (by rfl) 106 _ rfl (w.heap.size + 1) 0 rfl NB _ RN.out Tryd.underlying106 rfl (by rw [infoN, HNB.out]) ?_)
  with_reducible refine HB.out.mono ?_
  rintro e w3 ⟨fb, rfl, hfb, hfl, kk⟩
  have K3 := Lib.hid (KY.out.below kk KY.out.lt)
  have B3 := Lib.hid (B2.out.trans (kk.mono B2.out.size))
  have P3 := Lib.hid (P2.out.below kk)
  have HI := Lib.hid (Ci.hide_any fb g (Ci.Aes.words H 60) N 0 a c ls w3 HNL.out (by omega) hl hm hfl K3.out (by have := KY.out.lt; omega) P3.out)
  have HW : Hid (w.heap.size ≤ fb) := Lib.hid (Nat.le_trans B2.out.size hfb)
  clear hfl kk HB RN S2 B2 P2 KY hfb hg
  go_wp2_with fail
  with_reducible refine HI.out.mono ?_
  rintro e w4 ⟨v, rfl, ho, -, hb⟩
  have HO := Lib.hid (ownB_mono ho B3.out.size)
  have B4 := Lib.hid (B3.out.trans (hb.below HW.out B3.out.size))
  clear ho hb HI
  go_wp2_with fail
  go_ret
  exact ⟨v, rfl, HO.out, B4.out⟩
end Go.Proofs.YtfhlcondnaahiaaDoor
end
section
/- wax.Keys.mark. -/
namespace Go.Proofs.YtfhlcondnaahiaaDoor
open Go.RowKit Sha

theorem bytes2_in {w : World} {g : Nat} {x y : UInt8} (h : cellsAt w g [.int .u8 (V x), .int .u8 (V y)]) : bytesIn w (some ⟨g, 0, none⟩) [x, y] :=
  Or.inr ⟨_, _, rfl, fun j hj => by
    rw [Nat.zero_add]
    match j, hj with
    | 0, _ => exact h 0 _ rfl
    | 1, _ => exact h 1 _ rfl⟩
theorem V_ofNat (n : Nat) : V (UInt8.ofNat n) = ((n % 256 : Nat) : Int) := by
  unfold V; rw [UInt8.toNat_ofNat']

set_option maxRecDepth 100000 in
set_option maxHeartbeats 4000000 in
theorem wmark_any (H M N : List UInt8) (kd : UInt8) (nm X : List UInt8) (ha : Option Addr) (hc : Nat) (w : World) (hH : H.length = 32) (hM : M.length = 32) (hN : N.length = 16) (hnm : nm.length ≤ 1000) (hX : X.length ≤ 800000) (hXc : X.length ≤ hc) (hXm : hc ≤ 9223372036854775807) (hi : bytesIn w ha X) (ht : tables w) :
    Calls Tryd.prog 60 #[.agg (keyCells H M).toArray, .int .u8 (V kd), .string (str nm), .agg (byteCells N).toArray, .slice ha X.length hc] w fun e w' => e = .returned (.agg (byteCells (wmark M kd nm N X)).toArray) ∧ Below w.heap.size w w' := by
  obtain ⟨z, hz⟩ : ∃ z, z = UInt8.ofNat nm.length := ⟨_, rfl⟩
  have q5 : IntKind.u8.wrap (nm.length : Int) = V z := by rw [hz, V_ofNat, IntKind.wrap_u8']; omega
  have HZ := Lib.hid hz
  clear hz
  have G0 := blockIs.new w (keyCells H M) 56
  have A0 := alloc_below w (.cells (keyCells H M).toArray 56 (0, 0))
  have N0 := blockIs.last (w.alloc (.cells (keyCells H M).toArray 56 (0, 0))) (byteCells N) 106 (w.heap.size + 1) (by simp)
  have R0 := blockIs.last ((w.alloc (.cells (keyCells H M).toArray 56 (0, 0))).alloc (.cells (byteCells N).toArray 106 (0, 0))) (zeros 32) 23 (w.heap.size + 2) (by simp)
  have B1 : Hid (Below w.heap.size w (((w.alloc (.cells (keyCells H M).toArray 56 (0, 0))).alloc (.cells (byteCells N).toArray 106 (0, 0))).alloc (.cells (zeros 32).toArray 23 (0, 0)))) := Lib.hid ((A0.alloc A0.size _).alloc (by simp; omega) _)
  have S1 := Lib.hid R0
  have I0 := Lib.hid (keys_in2 hH ((G0.alloc (.cells (byteCells N).toArray 106 (0, 0))).alloc (.cells (zeros 32).toArray 23 (0, 0))))
  have I1 : Hid (bytesIn _ (some ⟨w.heap.size + 1, 0, none⟩) N) := Lib.hid (Or.inr ⟨_, _, rfl, fun j hj => by
    rw [Nat.zero_add, (N0.alloc (.cells (zeros 32).toArray 23 (0, 0))).cell]
    exact byteCells_get N j hj⟩)
  have I2 := Lib.hid (hi.below B1.out)
  have HT := Lib.hid (ht.below B1.out ht.2.2.1 ht.2.2.2)
  have HX : Hid (X.length ≤ hc ∧ hc ≤ 9223372036854775807) := Lib.hid ⟨hXc, hXm⟩
  have HXL := Lib.hid hX
  have HNL := Lib.hid hN
  have HML := Lib.hid hM
  have HNM : Hid (nm.length ≤ 1000000) := Lib.hid (by omega)
  have hsz := str_size nm
  have hcv := fun X' => run_cW X' nm
  have hz28 := zero28
  clear G0 A0 N0 R0 hi ht hX hN hM hXc hXm hH
  generalize keyCells H M = C at *
  generalize hNB : byteCells N = NB at *
  clear hNB
  go_enter Tryd.func60, Tryd.ntmps60
  go_upto_region 1 with fail
  generalize ((w.alloc (.cells C.toArray 56 (0, 0))).alloc (.cells NB.toArray 106 (0, 0))).alloc (.cells (zeros 32).toArray 23 (0, 0)) = w1 at *
  have k1 : Below w1.heap.size w1 w1.drew := below_drew' (Below.refl _ _)
  refine wp_region_noPanic ?_
  refine wp_region_held_drew (S := fun w' => Below w.heap.size w w') (by kernel_rfl) (below_drew' B1.out) (fun hH => ?_)
  generalize w1.drew = x0 at *
  refine tk (i := 0) (oi := { dst := some 11, op := Op.fieldAddr 56 (Operand.tmp 5) 1, type := 0, pos := "wax.go:77", after := #[], guard := none }) (v := .pointer (some ⟨w.heap.size, 32, none⟩)) rfl (fun wx hS => ?_) hH ?_
  · go_simp
  refine tk (i := 1) (oi := { dst := some 12, op := Op.slice 23 (Operand.tmp 11) none none none, type := 30, pos := "wax.go:77", after := #[⟨0, .data⟩], guard := none }) (v := .slice (some ⟨w.heap.size, 32, none⟩) 32 32) rfl (fun wx hS => ?_) hH ?_
  · go_simp
  refine tk (i := 2) (oi := { dst := some 13, op := Op.move (Operand.tmp 1), type := 5, pos := "wax.go:77", after := #[], guard := none }) (v := .int .u8 (V kd)) rfl (fun wx hS => ?_) hH ?_
  · go_simp
  refine tk (i := 3) (oi := { dst := some 14, op := Op.move (Operand.tmp 2), type := 9, pos := "wax.go:77", after := #[], guard := none }) (v := .string (str nm)) rfl (fun wx hS => ?_) hH ?_
  · go_simp
  refine tk (i := 4) (oi := { dst := some 15, op := Op.call { callee := Callee.builtin Builtin.len, args := #[Operand.tmp 14], argTypes := #[9] }, type := 3, pos := "wax.go:77", after := #[⟨3, .data⟩], guard := none }) (v := .int .i64 (nm.length : Int)) rfl (fun wx hS => ?_) hH ?_
  · go_simp
  refine tk (i := 5) (oi := { dst := some 16, op := Op.convert 3 5 (Operand.tmp 15), type := 5, pos := "wax.go:77", after := #[⟨4, .data⟩], guard := none }) (v := .int .u8 (V z)) rfl (fun wx hS => ?_) hH ?_
  · have e1 := q5; go_simp
  refine tk (i := 7) (oi := { dst := some 18, op := Op.move (Operand.tmp 2), type := 9, pos := "wax.go:77", after := #[], guard := none }) (v := .string (str nm)) rfl (fun wx hS => ?_) hH ?_
  · go_simp
  refine tk (i := 9) (oi := { dst := some 20, op := Op.slice 106 (Operand.tmp 8) none none none, type := 30, pos := "wax.go:77", after := #[], guard := none }) (v := .slice (some ⟨w.heap.size + 1, 0, none⟩) 16 16) rfl (fun wx hS => ?_) hH ?_
  · go_simp
  refine tk (i := 10) (oi := { dst := some 21, op := Op.move (Operand.tmp 4), type := 30, pos := "wax.go:77", after := #[], guard := none }) (v := .slice ha X.length hc) rfl (fun wx hS => ?_) hH ?_
  · go_simp
  clear q5
  revert k1
  revert hH
  refine join3 (Q := ?Q1_) (H := fun ga gb cb wx => Below w.heap.size w wx ∧ True ∧ Below w1.heap.size w1 wx ∧ cellsAt wx ga [.int .u8 (V kd), .int .u8 (V z)] ∧ (bytesIn wx (some ⟨gb, 0, none⟩) nm ∧ nm.length ≤ cb ∧ cb ≤ 9223372036854775807)) (fun REST => ?main1_) ?rest1_
  case main1_ =>
    intro hH k1
    refine wpAnyH_ready (rs := [6, 8]) (by kernel_rfl) (by simp) ?_
    refine AllReadyH.cons (o := { dst := some 17, op := Op.buildSlice 30 2 #[(0, Operand.tmp 13), (1, Operand.tmp 16)], type := 30, pos := "wax.go:77", after := #[⟨2, .data⟩, ⟨5, .data⟩], guard := none }) rfl (fun KK hKK => ?_) (AllReadyH.cons (o := { dst := some 19, op := Op.convert 9 30 (Operand.tmp 18), type := 30, pos := "wax.go:77", after := #[⟨7, .data⟩], guard := none }) rfl (fun KK hKK => ?_) AllReadyH.nil)
    · have kb := alloc_below x0 (.cells #[.int .u8 (V kd), .int .u8 (V z)] 5 (0, 0))
      replace k1 := k1.trans (kb.mono k1.size)
      have q_ga := cellsAt.new x0 #[.int .u8 (V kd), .int .u8 (V z)] x0.heap.size 5 [.int .u8 (V kd), .int .u8 (V z)] rfl rfl
      have hN := hH.trans (kb.mono hH.size)
      clear hH kb
      go_simp
      refine hKK.out _ _ hN (fun hH => ?_)
      clear hKK KK hN
      try simp only [Act.put, List.setIfInBounds_toArray, List.set_cons_zero, List.set_cons_succ]
      generalize x0.alloc (.cells #[.int .u8 (V kd), .int .u8 (V z)] 5 (0, 0)) = x1_0 at *
      generalize x0.heap.size = ga at *
      refine wpAnyH_ready (rs := [8]) (by kernel_rfl) (by simp) ?_
      refine AllReadyH.cons (o := { dst := some 19, op := Op.convert 9 30 (Operand.tmp 18), type := 30, pos := "wax.go:77", after := #[⟨7, .data⟩], guard := none }) rfl (fun KK hKK => ?_) AllReadyH.nil
      have kb := cW_below x1_0 nm
      replace k1 := k1.trans (kb.mono k1.size)
      replace q_ga := q_ga.keep kb
      have q_gb : (bytesIn (cW x1_0 nm) (some ⟨x1_0.heap.size, 0, none⟩) nm ∧ nm.length ≤ cC x1_0 nm ∧ cC x1_0 nm ≤ 9223372036854775807) := ⟨cW_in x1_0 nm, cC_ge x1_0 nm, cC_le x1_0 nm (HNM.out)⟩
      have hN := hH.trans (kb.mono hH.size)
      clear hH kb
      go_simp
      refine hKK.out _ _ hN (fun hH => ?_)
      clear hKK KK hN
      try simp only [Act.put, List.setIfInBounds_toArray, List.set_cons_zero, List.set_cons_succ]
      generalize cC x1_0 nm = cb at *
      generalize cW x1_0 nm = x1_1 at *
      generalize x1_0.heap.size = gb at *
      refine wpAnyH_listed (L2 := #[true, true, true, true, true, true, true, true, true, true, true, false, false, false]) (by kernel_rfl) ?_
      exact REST ga gb cb x1_1 ⟨hH, True.intro, k1, q_ga, q_gb⟩
    · have kb := cW_below x0 nm
      replace k1 := k1.trans (kb.mono k1.size)
      have q_gb : (bytesIn (cW x0 nm) (some ⟨x0.heap.size, 0, none⟩) nm ∧ nm.length ≤ cC x0 nm ∧ cC x0 nm ≤ 9223372036854775807) := ⟨cW_in x0 nm, cC_ge x0 nm, cC_le x0 nm (HNM.out)⟩
      have hN := hH.trans (kb.mono hH.size)
      clear hH kb
      go_simp
      refine hKK.out _ _ hN (fun hH => ?_)
      clear hKK KK hN
      try simp only [Act.put, List.setIfInBounds_toArray, List.set_cons_zero, List.set_cons_succ]
      generalize cC x0 nm = cb at *
      generalize cW x0 nm = x1_0 at *
      generalize x0.heap.size = gb at *
      refine wpAnyH_ready (rs := [6]) (by kernel_rfl) (by simp) ?_
      refine AllReadyH.cons (o := { dst := some 17, op := Op.buildSlice 30 2 #[(0, Operand.tmp 13), (1, Operand.tmp 16)], type := 30, pos := "wax.go:77", after := #[⟨2, .data⟩, ⟨5, .data⟩], guard := none }) rfl (fun KK hKK => ?_) AllReadyH.nil
      have kb := alloc_below x1_0 (.cells #[.int .u8 (V kd), .int .u8 (V z)] 5 (0, 0))
      replace k1 := k1.trans (kb.mono k1.size)
      replace q_gb := And.intro (bytesIn.below q_gb.1 kb) q_gb.2
      have q_ga := cellsAt.new x1_0 #[.int .u8 (V kd), .int .u8 (V z)] x1_0.heap.size 5 [.int .u8 (V kd), .int .u8 (V z)] rfl rfl
      have hN := hH.trans (kb.mono hH.size)
      clear hH kb
      go_simp
      refine hKK.out _ _ hN (fun hH => ?_)
      clear hKK KK hN
      try simp only [Act.put, List.setIfInBounds_toArray, List.set_cons_zero, List.set_cons_succ]
      generalize x1_0.alloc (.cells #[.int .u8 (V kd), .int .u8 (V z)] 5 (0, 0)) = x1_1 at *
      generalize x1_0.heap.size = ga at *
      refine wpAnyH_listed (L2 := #[true, true, true, true, true, true, true, true, true, true, true, false, false, false]) (by kernel_rfl) ?_
      exact REST ga gb cb x1_1 ⟨hH, True.intro, k1, q_ga, q_gb⟩
  case rest1_ =>
    rintro ga gb cb x2 ⟨hH, -, k1, q_ga, q_gb⟩
    have hps : ∀ p ∈ ([⟨some ⟨ga, 0, none⟩, 2, [kd, z]⟩, ⟨some ⟨gb, 0, none⟩, cb, nm⟩, ⟨some ⟨w.heap.size + 1, 0, none⟩, 16, N⟩, ⟨ha, hc, X⟩] : List Pt), p.ok x2 := by
      simp only [List.mem_cons, List.not_mem_nil, or_false]
      rintro p (rfl | rfl | rfl | rfl)
      · exact ⟨by show 2 ≤ 2; omega, by show 2 ≤ _; omega, bytes2_in q_ga⟩
      · exact ⟨q_gb.2.1, q_gb.2.2, q_gb.1⟩
      · exact ⟨by show N.length ≤ 16; rw [HNL.out]; omega, by show 16 ≤ _; omega, I1.out.below k1⟩
      · exact ⟨HX.out.1, HX.out.2, I2.out.below k1⟩
    have T2 := Lib.hid (HT.out.below k1 HT.out.2.2.1 HT.out.2.2.2)
    have hpt := fun (X' : World) (g : Nat) hX' => kf_at x2 [⟨some ⟨ga, 0, none⟩, 2, [kd, z]⟩, ⟨some ⟨gb, 0, none⟩, cb, nm⟩, ⟨some ⟨w.heap.size + 1, 0, none⟩, 16, N⟩, ⟨ha, hc, X⟩] [.slice (some ⟨ga, 0, none⟩) 2 2, .slice (some ⟨gb, 0, none⟩) nm.length cb, .slice (some ⟨w.heap.size + 1, 0, none⟩) 16 16, .slice ha X.length hc] (by simp [Pt.val, HNL.out]) T2.out hps ([kd, z] ++ (nm ++ (N ++ X))) (by simp) (by have := HNM.out; have := HXL.out; have := HNL.out; simp only [List.length_append, List.length_cons, List.length_nil]; omega) 4 (by simp) (by omega) ⟨some ⟨w.heap.size, 32, none⟩, 32, M⟩ ⟨by show M.length ≤ 32; rw [HML.out]; omega, by show 32 ≤ _; omega, I0.out.below k1⟩ (by show M.length ≤ _; rw [HML.out]; omega) X' g hX'
    dsimp only at hpt
    rw [HML.out] at hpt
    have HK := Lib.hid hpt
    have S2 := Lib.hid (S1.out.below k1 S1.out.lt)
    clear hpt hps q_ga q_gb k1
    have k2 := Below.refl x2.heap.size x2
    have s2 := S2.out.drewN 0
    refine wpAnyH_ready (rs := [11]) (by kernel_rfl) (by simp) ?_
    refine AllReadyH.cons (o := { dst := some 22, op := Op.buildSlice 71 4 #[(0, Operand.tmp 17), (1, Operand.tmp 19), (2, Operand.tmp 20), (3, Operand.tmp 21)], type := 71, pos := "wax.go:77", after := #[⟨6, .data⟩, ⟨8, .data⟩, ⟨9, .data⟩, ⟨10, .data⟩], guard := none }) rfl (fun KK hKK => ?_) AllReadyH.nil
    have kb := alloc_below x2 (.cells #[.slice (some ⟨ga, 0, none⟩) 2 2, .slice (some ⟨gb, 0, none⟩) nm.length cb, .slice (some ⟨w.heap.size + 1, 0, none⟩) 16 16, .slice ha X.length hc] 30 (0, 0))
    replace k2 := k2.trans (kb.mono k2.size)
    replace s2 := s2.below kb s2.lt
    have q_gp := cellsAt.new x2 #[.slice (some ⟨ga, 0, none⟩) 2 2, .slice (some ⟨gb, 0, none⟩) nm.length cb, .slice (some ⟨w.heap.size + 1, 0, none⟩) 16 16, .slice ha X.length hc] x2.heap.size 30 [.slice (some ⟨ga, 0, none⟩) 2 2, .slice (some ⟨gb, 0, none⟩) nm.length cb, .slice (some ⟨w.heap.size + 1, 0, none⟩) 16 16, .slice ha X.length hc] rfl rfl
    have hN := hH.trans (kb.mono hH.size)
    clear hH kb
    go_simp
    refine hKK.out _ _ hN (fun hH => ?_)
    clear hKK KK hN
    try simp only [List.setIfInBounds_toArray, List.set_cons_zero, List.set_cons_succ]
    generalize x2.alloc (.cells #[.slice (some ⟨ga, 0, none⟩) 2 2, .slice (some ⟨gb, 0, none⟩) nm.length cb, .slice (some ⟨w.heap.size + 1, 0, none⟩) 16 16, .slice ha X.length hc] 30 (0, 0)) = x3 at *
    generalize x2.heap.size = gp at *
    refine wpAnyH_ready (rs := [12]) (by kernel_rfl) (by simp) ?_
    refine AllReadyH.cons (o := { dst := some 23, op := Op.call { callee := Callee.value (Operand.func 44), args := #[Operand.tmp 12, Operand.tmp 22], argTypes := #[30, 71] }, type := 23, pos := "wax.go:77", after := #[⟨1, .data⟩, ⟨11, .data⟩], guard := none }) rfl (fun KK hKK => ?_) AllReadyH.nil
    go_simp
    refine (HK.out x3 gp k2 q_gp).mono ?_
    rintro e x4 ⟨rfl, -, kb⟩
    replace s2 := s2.below kb s2.lt
    have hN := hH.trans (kb.mono hH.size)
    clear hH kb
    refine hKK.out _ _ hN (fun hH => ?_)
    clear hKK KK hN
    try simp only [List.setIfInBounds_toArray, List.set_cons_zero, List.set_cons_succ]
    clear q_gp k2 HK
    have HL : Hid ((hmac M ([kd, z] ++ (nm ++ (N ++ X)))).length = 32) := Lib.hid (hmac_length _ _)
    generalize hD : hmac M ([kd, z] ++ (nm ++ (N ++ X))) = D at *
    have HD := Lib.hid hD
    clear hD
    refine wpAnyH_ready (rs := [13]) (by kernel_rfl) (by simp) ?_
    refine AllReadyH.cons (o := { dst := none, op := Op.store 23 (Operand.tmp 10) (Operand.tmp 23), type := 0, pos := "wax.go:77", after := #[⟨12, .data⟩, ⟨12, .chain⟩, ⟨0, .phase⟩, ⟨1, .phase⟩, ⟨2, .phase⟩, ⟨3, .phase⟩, ⟨4, .phase⟩, ⟨5, .phase⟩, ⟨6, .phase⟩, ⟨7, .phase⟩, ⟨8, .phase⟩, ⟨9, .phase⟩, ⟨10, .phase⟩, ⟨11, .phase⟩, ⟨12, .phase⟩], guard := none }) rfl (fun KK hKK => ?_) AllReadyH.nil
    refine Ci.step_store_block rfl 23 _ _ rfl (w.heap.size + 2) 0 (byteCells D) rfl rfl (zeros 32) 23 s2 (by rw [info28, byteCells_length, HL.out]) (by simp [zeros, byteCells_length, HL.out]) (byteCells_one _) ?_
    intro x6 h1 h2 h3
    have h1 := h1.out
    rw [splice_all _ _ (by simp [zeros, byteCells_length, HL.out])] at h1
    have E6 := Lib.hid h1
    have hN := hH.trans (h2.out.below (Nat.le_add_right _ _) hH.size)
    clear h1 h2 h3 hH s2
    refine hKK.out _ _ hN (fun hH => ?_)
    clear hKK KK hN
    try simp only [Act.put, List.setIfInBounds_toArray, List.set_cons_zero, List.set_cons_succ]
    refine wpAnyH_done (by kernel_rfl) ?_ _
    refine NoPanic.normal ?_
    go_wp2_with fail
    refine bodyPost_ret (v := .agg (byteCells D).toArray) (results_cell_row rfl _ _ (w.heap.size + 2) 23 _ (0, 0) _ rfl E6.out Tryd.underlying23 rfl (by rw [info28]; simp [byteCells_length, HL.out])) rfl ?_
    refine ⟨?_, hH⟩
    rw [← HD.out, HZ.out]; rfl
end Go.Proofs.YtfhlcondnaahiaaDoor
end
section
/- wax.Keys.Seal. -/
namespace Go.Proofs.YtfhlcondnaahiaaDoor
open Go.RowKit Sha

set_option maxRecDepth 100000 in
set_option maxHeartbeats 4000000 in
theorem seal_ok (H M N : List UInt8) (kd : UInt8) (nm : List UInt8) (a : Option Addr) (c : Nat) (ls : List (List UInt8)) (w : World) (hH : H.length = 32) (hM : M.length = 32) (hN : N.length = 16) (hnm : nm.length ≤ 255) (hl : ls.length ≤ 100000) (hm : ls.flatten.length ≤ 800000) (hp : partsW w a ls) (ht : tables w) :
    Calls Tryd.prog 47 #[.agg (keyCells H M).toArray, .int .u8 (V kd), .string (str nm), .agg (byteCells N).toArray, .slice a ls.length c] w fun e w' => ∃ v, e = .returned (.tuple #[v, .int .i64 0]) ∧ Ci.ownB w' w.heap.size v (wseal H M kd nm N ls.flatten) ∧ Below w.heap.size w w' := by
  have KL : Hid ((keyCells H M).length = 64) := Lib.hid (keyCells_length hH hM)
  have NL : Hid ((byteCells N).length = 16) := Lib.hid (by rw [byteCells_length]; exact hN)
  have G0 := blockIs.new w (keyCells H M) 56
  have A0 := alloc_below w (.cells (keyCells H M).toArray 56 (0, 0))
  have N0 := blockIs.last (w.alloc (.cells (keyCells H M).toArray 56 (0, 0))) (byteCells N) 106 (w.heap.size + 1) (by simp)
  have B1 : Hid (Below w.heap.size w ((w.alloc (.cells (keyCells H M).toArray 56 (0, 0))).alloc (.cells (byteCells N).toArray 106 (0, 0)))) := Lib.hid (A0.alloc A0.size _)
  have G1 := Lib.hid (G0.alloc (.cells (byteCells N).toArray 106 (0, 0)))
  have N1 := Lib.hid N0
  have P1 := Lib.hid (hp.below B1.out)
  have T1 := Lib.hid (ht.below B1.out ht.2.2.1 ht.2.2.2)
  have HNL := Lib.hid hN
  have HHK := Lib.hid hH
  have HMK := Lib.hid hM
  have HNM := Lib.hid hnm
  have HFL := Lib.hid hm
  have hsz := str_size nm
  have g0 : ¬ (255 : Int) < (nm.length : Int) := by omega
  have F1 := fun X hX => fit_any a c ls X (by omega) (hX : partsIn X a ls)
  have hdc : decide (ls.flatten.length ≤ 1048576) = true := by rw [decide_eq_true_iff]; omega
  rw [hdc] at F1
  have HF := Lib.hid (F1 _ P1.out.plain)
  have HW : Hid (wseal H M kd nm N ls.flatten = N ++ (whide H N ls.flatten ++ wmark M kd nm N (whide H N ls.flatten))) := Lib.hid rfl
  have CT := Lib.hid (fun X hX => wturn_any H M N a c ls X hH hN hl (by omega) (hX : Ci.partsB X a ls))
  have CM := Lib.hid (fun X h ha hc h1 h2 h3 h4 h5 => wmark_any H M N kd nm h ha hc X hH hM hN (by omega) h1 h2 h3 h4 h5)
  have HWL : Hid ((whide H N ls.flatten).length ≤ 800000) := Lib.hid (by rw [whide_length]; exact hm)
  clear G0 A0 N0 hp ht hN hH hM hnm F1 hdc
  generalize wseal H M kd nm N ls.flatten = OUT at *
  generalize ls.flatten = T at *
  generalize whide H N T = h at *
  generalize keyCells H M = C at *
  obtain ⟨NB, hNB⟩ : ∃ NB, NB = byteCells N := ⟨_, rfl⟩
  rw [← hNB] at NL B1 G1 N1 P1 T1 HF CT CM ⊢
  have HNN := Lib.hid hNB
  clear hNB
  go_enter Tryd.func47, Tryd.ntmps47
  go_wp2_with fail
  generalize (w.alloc (.cells C.toArray 56 (0, 0))).alloc (.cells NB.toArray 106 (0, 0)) = w1 at *
  with_reducible refine HF.out.mono ?_
  rintro e wq ⟨rfl, rfl⟩
  have RK := Lib.hid (Ci.range_of G1.out)
  have RN := Lib.hid (Ci.range_of N1.out)
  have CT1 := Lib.hid (CT.out w1 P1.out.ci)
  clear HF CT P1
  go_wp2_with (first
    | (refine Ci.wpList_load_mid_if (by rfl) 56 _ rfl w.heap.size 0 rfl C _ RK.out Tryd.underlying56 rfl (by rw [infoKeys, KL.out]) ?_)
    | (refine Ci.wpList_load_mid_if (by rfl) 106 _ rfl (w.heap.size + 1) 0 rfl NB _ RN.out Tryd.underlying106 rfl (by rw [infoN, NL.out]) ?_))
  with_reducible refine CT1.out.mono ?_
  rintro e w2 ⟨v, rfl, ho, kk⟩
  have B2 := Lib.hid (B1.out.trans (kk.mono B1.out.size))
  have G2 := G1.out.below kk G1.out.lt
  have N2 := Lib.hid (N1.out.below kk N1.out.lt)
  have T2 := Lib.hid (T1.out.below kk T1.out.2.2.1 T1.out.2.2.2)
  obtain ⟨ha, hc, rfl, hh1, hh2, hh3, hh4⟩ := ho.form
  have RK := Lib.hid (Ci.range_of G2)
  have RN := Lib.hid (Ci.range_of N2.out)
  have HHA : Hid (ha = none → hc = 0) := Lib.hid hh4
  have I2 := Lib.hid hh3
  have HHL := Lib.hid HWL.out
  have CM1 := Lib.hid (CM.out w2 h ha hc HWL.out hh1 hh2 hh3 T2.out)
  have hdl := wmark_length M kd nm N h
  have HDL := Lib.hid hdl
  generalize wmark M kd nm N h = D at *
  clear kk G2 ho hh1 hh2 hh3 hh4 CM CT1 B1 T1 N1 G1 hdl
  have hz28 := zero28
  go_wp2_with (first
    | (refine Ci.wpList_load_mid_if (by rfl) 56 _ rfl w.heap.size 0 rfl C _ RK.out Tryd.underlying56 rfl (by rw [infoKeys, KL.out]) ?_)
    | (refine Ci.wpList_load_mid_if (by rfl) 106 _ rfl (w.heap.size + 1) 0 rfl NB _ RN.out Tryd.underlying106 rfl (by rw [infoN, NL.out]) ?_))
  with_reducible refine CM1.out.mono ?_
  rintro e w3 ⟨rfl, kk⟩
  have B3 := Lib.hid (B2.out.trans (kk.mono B2.out.size))
  have N3 := Lib.hid (N2.out.below kk N2.out.lt)
  have I2 := Lib.hid (I2.out.below kk)
  clear kk CM1 RK RN B2 N2 T2
  go_wp2_with (refine wpList_store_block rfl 23 _ _ rfl w3.heap.size 0 (byteCells D) rfl rfl (zeros 32) 23 (blockIs.new w3 _ _) (by rw [info28, byteCells_length, HDL.out]) (by simp [zeros, byteCells_length, HDL.out]) (byteCells_one _) ?_)
  intro w6 h1 h2 h3
  have h1 := h1.out
  rw [splice_all _ _ (by simp [zeros, byteCells_length, HDL.out])] at h1
  have kb := (h2.out.below (Nat.le_refl _) (by simp) : Below w3.heap.size (w3.alloc (.cells (zeros 32).toArray 23 (0, 0))) w6)
  have k36 : Below w3.heap.size w3 w6 := (alloc_below w3 _).trans kb
  have B6 := Lib.hid (B3.out.trans (k36.mono B3.out.size))
  have N6 := N3.out.below k36 N3.out.lt
  rw [HNN.out] at N6
  have I1 : Hid (bytesIn w6 (some ⟨w.heap.size + 1, 0, none⟩) N) := Lib.hid (Or.inr ⟨_, _, rfl, fun j hj => by
    rw [Nat.zero_add, N6.cell]
    exact byteCells_get N j hj⟩)
  have I2 := Lib.hid (I2.out.below k36)
  obtain ⟨mb, hmb⟩ : ∃ mb, mb = w3.heap.size := ⟨_, rfl⟩
  rw [← hmb] at h1 ⊢
  have I3 : Hid (bytesIn w6 (some ⟨mb, 0, none⟩) D) := Lib.hid (Or.inr ⟨_, _, rfl, fun j hj => by
    rw [Nat.zero_add, h1.cell]
    exact byteCells_get D j hj⟩)
  clear h1 h2 h3 kb k36 N6 N3 B3 hmb
  go_upto_region 7 with fail
  have k1 : Below w6.heap.size w6 w6.drew := below_drew' (Below.refl _ _)
  refine wp_region_noPanic ?_
  refine wp_region_held_drew (S := fun w' => Below w.heap.size w w') (by kernel_rfl) (below_drew' B6.out) (fun hH => ?_)
  generalize w6.drew = x0 at *
  refine tk (i := 0) (oi := { dst := some 30, op := Op.slice 106 (Operand.tmp 8) none none none, type := 30, pos := "wax.go:35", after := #[], guard := none }) (v := .slice (some ⟨w.heap.size + 1, 0, none⟩) 16 16) rfl (fun wx hS => ?_) hH ?_
  · go_simp
  refine tk (i := 1) (oi := { dst := some 31, op := Op.move (Operand.tmp 12), type := 30, pos := "wax.go:35", after := #[], guard := none }) (v := .slice ha h.length hc) rfl (fun wx hS => ?_) hH ?_
  · go_simp
  refine tk (i := 2) (oi := { dst := some 32, op := Op.slice 23 (Operand.tmp 13) none none none, type := 30, pos := "wax.go:35", after := #[], guard := none }) (v := .slice (some ⟨mb, 0, none⟩) 32 32) rfl (fun wx hS => ?_) hH ?_
  · go_simp
  refine wpAnyH_ready (rs := [3]) (by kernel_rfl) (by simp) ?_
  refine AllReadyH.cons (o := { dst := some 33, op := Op.buildSlice 71 3 #[(0, Operand.tmp 30), (1, Operand.tmp 31), (2, Operand.tmp 32)], type := 71, pos := "wax.go:35", after := #[⟨0, .data⟩, ⟨1, .data⟩, ⟨2, .data⟩], guard := none }) rfl (fun KK hKK => ?_) AllReadyH.nil
  have kb := alloc_below x0 (.cells #[.slice (some ⟨w.heap.size + 1, 0, none⟩) 16 16, .slice ha h.length hc, .slice (some ⟨mb, 0, none⟩) 32 32] 30 (0, 0))
  replace k1 := k1.trans (kb.mono k1.size)
  have q_gp := cellsAt.new x0 #[.slice (some ⟨w.heap.size + 1, 0, none⟩) 16 16, .slice ha h.length hc, .slice (some ⟨mb, 0, none⟩) 32 32] x0.heap.size 30 [.slice (some ⟨w.heap.size + 1, 0, none⟩) 16 16, .slice ha h.length hc, .slice (some ⟨mb, 0, none⟩) 32 32] rfl rfl
  have hN := hH.trans (kb.mono hH.size)
  clear hH kb
  go_simp
  refine hKK.out _ _ hN (fun hH => ?_)
  clear hKK KK hN
  try simp only [Act.put, List.setIfInBounds_toArray, List.set_cons_zero, List.set_cons_succ]
  generalize x0.alloc (.cells #[.slice (some ⟨w.heap.size + 1, 0, none⟩) 16 16, .slice ha h.length hc, .slice (some ⟨mb, 0, none⟩) 32 32] 30 (0, 0)) = x2 at *
  generalize x0.heap.size = gp at *
  have HC := Lib.hid (Ci.concat_any (some ⟨gp, 0, none⟩) 3 [N, h, D] x2 (by simp) (by have := HNL.out; have := HHL.out; have := HDL.out; simp only [List.flatten_cons, List.flatten_nil, List.length_append, List.length_nil]; omega) (Or.inr ⟨_, _, rfl, fun j hj => by
    rw [Nat.zero_add]
    match j, hj with
    | 0, _ => exact ⟨_, _, (q_gp 0 _ rfl).trans (by rw [show ([N, h, D].getD 0 []).length = 16 from HNL.out]), (fun e => by cases e), I1.out.below k1⟩
    | 1, _ => exact ⟨_, _, q_gp 1 _ rfl, HHA.out, I2.out.below k1⟩
    | 2, _ => exact ⟨_, _, (q_gp 2 _ rfl).trans (by rw [show ([N, h, D].getD 2 []).length = 32 from HDL.out]), (fun e => by cases e), I3.out.below k1⟩⟩))
  rw [show ([N, h, D] : List (List UInt8)).flatten = N ++ (h ++ D) by simp] at HC
  change Hid (Calls _ _ #[.slice (some ⟨gp, 0, none⟩) 3 3] _ _) at HC
  clear k1 q_gp
  refine wpAnyH_ready (rs := [4]) (by kernel_rfl) (by simp) ?_
  refine AllReadyH.cons (o := { dst := some 34, op := Op.call { callee := Callee.value (Operand.func 30), args := #[Operand.tmp 33], argTypes := #[71] }, type := 30, pos := "wax.go:35", after := #[⟨3, .data⟩], guard := none }) rfl (fun KK hKK => ?_) AllReadyH.nil
  go_simp
  refine HC.out.mono ?_
  rintro e x3 ⟨v, rfl, ho, kb⟩
  have HO := Lib.hid (ownB_mono ho hH.size)
  have hN := hH.trans (kb.mono hH.size)
  clear hH kb ho HC
  refine hKK.out _ _ hN (fun hH => ?_)
  clear hKK KK hN
  try simp only [Act.put, List.setIfInBounds_toArray, List.set_cons_zero, List.set_cons_succ]
  refine wpAnyH_ready (rs := [5]) (by kernel_rfl) (by simp) ?_
  refine AllReadyH.cons (o := { dst := some 10, op := Op.assign (Operand.tmp 34), type := 30, pos := "wax.go:35", after := #[⟨4, .data⟩, ⟨4, .chain⟩, ⟨0, .phase⟩, ⟨1, .phase⟩, ⟨2, .phase⟩, ⟨3, .phase⟩, ⟨4, .phase⟩], guard := none }) rfl (fun KK hKK => ?_) AllReadyH.nil
  go_simp
  refine hKK.out _ _ hH (fun hH => ?_)
  clear hKK KK
  try simp only [Act.put, List.setIfInBounds_toArray, List.set_cons_zero, List.set_cons_succ]
  refine wpAnyH_ready (rs := [6]) (by kernel_rfl) (by simp) ?_
  refine AllReadyH.cons (o := { dst := some 11, op := Op.assign (Operand.const (Value.int IntKind.i64 0)), type := 25, pos := "wax.go:35", after := #[⟨5, .chain⟩, ⟨0, .phase⟩, ⟨1, .phase⟩, ⟨2, .phase⟩, ⟨3, .phase⟩, ⟨4, .phase⟩, ⟨5, .phase⟩], guard := none }) rfl (fun KK hKK => ?_) AllReadyH.nil
  go_simp
  refine hKK.out _ _ hH (fun hH => ?_)
  clear hKK KK
  try simp only [Act.put, List.setIfInBounds_toArray, List.set_cons_zero, List.set_cons_succ]
  refine wpAnyH_done (by kernel_rfl) ?_ _
  refine NoPanic.normal ?_
  go_wp2_with fail
  refine bodyPost_ret (v := .tuple #[v, .int .i64 0]) (results_tmp2 (t := 10) (u := 11) rfl _ _ _) rfl ?_
  exact ⟨v, rfl, by rw [HW.out]; exact HO.out, hH⟩
end Go.Proofs.YtfhlcondnaahiaaDoor
end
section
/- wax.Keys.Open. -/
namespace Go.Proofs.YtfhlcondnaahiaaDoor
open Go.RowKit Sha

set_option maxRecDepth 100000 in
theorem seal_name (C NB : List Value) (kd : UInt8) (nm : List UInt8) (a : Option Addr) (L c : Nat) (w : World) (hnm : 255 < nm.length) :
    Calls Tryd.prog 47 #[.agg C.toArray, .int .u8 (V kd), .string (str nm), .agg NB.toArray, .slice a L c] w fun e w' => e = .returned (.tuple #[.slice none 0 0, .int .i64 5]) ∧ Below w.heap.size w w' := by
  have hsz := str_size nm
  have g0 : (255 : Int) < (nm.length : Int) := by omega
  have A0 := alloc_below w (.cells C.toArray 56 (0, 0))
  have B1 := Lib.hid (A0.alloc A0.size (.cells NB.toArray 106 (0, 0)))
  clear A0
  go_enter Tryd.func47, Tryd.ntmps47
  go_wp2_with fail
  refine bodyPost_ret (v := .tuple #[.slice none 0 0, .int .i64 5]) (results_tmp2 (t := 10) (u := 11) rfl _ _ _) rfl ?_
  exact ⟨rfl, B1.out⟩
end Go.Proofs.YtfhlcondnaahiaaDoor
end
