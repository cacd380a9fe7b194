/- cipher.Flow.Hide: bytes are put together with the flow's. -/
import Derived.Test.YtfhlcondnaahiaaDoorTk
import Derived.Test.YtfhlcondnaahiaaDoorGj
import Derived.Laws.MakeOwn
import Derived.Lib.ConvBytes
section
namespace Go.Proofs.YtfhlcondnaahiaaDoor.Ci
open Go.RowKit Sha Aes
attribute [local go_sem] V_xor

/-- A flow's byte. -/
def sb (ws : List W) (N : List UInt8) (p : Nat) : UInt8 := (Aes.turn ws (plus N (p / 16))).getD (p % 16) 0
def mixH (ws : List W) (N : List UInt8) (n : Nat) (l : List UInt8) (k : Nat) : List UInt8 := (List.range l.length).map fun i => if i < k then l.getD i 0 ^^^ sb ws N (n + i) else l.getD i 0
/-- Bytes, hidden from a place on. -/
def hideL (ws : List W) (N : List UInt8) (n : Nat) (l : List UInt8) : List UInt8 := (List.range l.length).map fun i => l.getD i 0 ^^^ sb ws N (n + i)
theorem mixH_len (ws : List W) (N : List UInt8) (n : Nat) (l : List UInt8) (k : Nat) : (mixH ws N n l k).length = l.length := by simp [mixH]
theorem mixH_zero (ws : List W) (N : List UInt8) (n : Nat) (l : List UInt8) : mixH ws N n l 0 = l := by
  unfold mixH
  apply List.ext_getElem (by simp)
  intro i h1 h2
  simp [h2]
theorem mixH_all (ws : List W) (N : List UInt8) (n : Nat) (l : List UInt8) : mixH ws N n l l.length = hideL ws N n l := by
  unfold mixH hideL
  apply List.map_congr_left
  intro i hi
  rw [if_pos (List.mem_range.1 hi)]
theorem mixH_get (ws : List W) (N : List UInt8) (n : Nat) (l : List UInt8) (k : Nat) (hk : k < l.length) : (mixH ws N n l k).getD k 0 = l.getD k 0 := by
  simp [mixH, hk]
theorem mixH_set (ws : List W) (N : List UInt8) (n : Nat) (l : List UInt8) (k : Nat) (_ : k < l.length) : (mixH ws N n l k).set k (l.getD k 0 ^^^ sb ws N (n + k)) = mixH ws N n l (k + 1) := by
  apply List.ext_getElem?
  intro i
  rw [List.getElem?_set]
  by_cases e : k = i
  · subst e
    by_cases h : k < l.length
    · simp [mixH, h]
    · simp [mixH, h]
  · rw [if_neg e]
    by_cases h : i < l.length
    · have : (i < k) = (i < k + 1) := by apply propext; omega
      simp [mixH, h, this]
    · simp [mixH, h]
theorem _root_.Go.Proofs.YtfhlcondnaahiaaDoor.But.past {b c : Nat} {w X Y : World} (h : But b w X) (k : But c X Y) (hc : w.heap.size ≤ c) : But b w Y :=
  ⟨k.os.trans h.os, k.tape.trans h.tape, k.output.trans h.output, Nat.le_trans h.size k.size, fun i hi hn => (k.block i (Nat.lt_of_lt_of_le hi h.size) (by omega)).trans (h.block i hi hn)⟩
/-- What stands apart: the flow, its key, the row, the block. -/
def hap (w : World) (fb g q B6 : Nat) : Prop := fb < w.heap.size ∧ g < w.heap.size ∧ fb ≠ g ∧ w.heap.size ≤ q ∧ q < B6
def hinv (w : World) (fb g q B6 : Nat) (ws : List W) (N : List UInt8) (p : Nat) (row : List UInt8) (rest : List Value) (blk : List UInt8) (X : World) : Prop :=
  blockIs X fb (flowCells g N p) 186 ∧ blockIs X g (keyRow ws) 182 ∧ blockIs X q (byteCells row ++ rest) 5 ∧ blockIs X B6 (byteCells blk) 106 ∧ But fb w X
section
variable {w X Y : World} {fb g q B6 p : Nat} {ws : List W} {N row blk : List UInt8} {rest : List Value}
theorem hinv.below (h : hinv w fb g q B6 ws N p row rest blk X) (k : Below X.heap.size X Y) : hinv w fb g q B6 ws N p row rest blk Y :=
  ⟨h.1.below k h.1.lt, h.2.1.below k h.2.1.lt, h.2.2.1.below k h.2.2.1.lt, h.2.2.2.1.below k h.2.2.2.1.lt, h.2.2.2.2.trans (But.of_below k)⟩
theorem hinv.setBlk {nb : List UInt8} (h : hinv w fb g q B6 ws N p row rest blk X) (ha : hap w fb g q B6) (k : But B6 X Y) (hb : blockIs Y B6 (byteCells nb) 106) : hinv w fb g q B6 ws N p row rest nb Y := by
  obtain ⟨a1, a2, a3, a4, a5⟩ := ha
  exact ⟨k.is h.1 (by omega), k.is h.2.1 (by omega), k.is h.2.2.1 (by omega), hb, h.2.2.2.2.past k (by omega)⟩
theorem hinv.setFlow {n2 : Nat} (h : hinv w fb g q B6 ws N p row rest blk X) (ha : hap w fb g q B6) (k : But fb X Y) (hb : blockIs Y fb (flowCells g N n2) 186) : hinv w fb g q B6 ws N n2 row rest blk Y := by
  obtain ⟨a1, a2, a3, a4, a5⟩ := ha
  exact ⟨hb, k.is h.2.1 (by omega), k.is h.2.2.1 (by omega), k.is h.2.2.2.1 (by omega), h.2.2.2.2.trans k⟩
theorem hinv.setRow (h : hinv w fb g q B6 ws N p row rest blk X) (ha : hap w fb g q B6) (k : Nat) (x : UInt8) (hk : k < row.length) : hinv w fb g q B6 ws N p (row.set k x) rest blk (X.drew.setCell ⟨q, k, none⟩ (.int .u8 (V x))) := by
  obtain ⟨a1, a2, a3, a4, a5⟩ := ha
  refine ⟨(show blockIs X.drew _ _ _ from h.1).other _ _ (by show fb ≠ q; omega), (show blockIs X.drew _ _ _ from h.2.1).other _ _ (by show g ≠ q; omega), ?_, (show blockIs X.drew _ _ _ from h.2.2.2.1).other _ _ (by show B6 ≠ q; omega), (h.2.2.2.2.drewN 1).setCell _ _ (Or.inr (by show w.heap.size ≤ q; omega))⟩
  have := (show blockIs X.drew _ _ _ from h.2.2.1).set k (.int .u8 (V x))
  rwa [List.set_append_left _ _ (by rw [byteCells_length]; exact hk), byteCells_set] at this
end
/-- A row of one's own that isn't empty, as a block. -/
theorem ownB.block {w : World} {base : Nat} {v : Value} {l : List UInt8} (h : ownB w base v l) (hl : l ≠ []) :
    ∃ q cap rest, v = .slice (some ⟨q, 0, none⟩) l.length cap ∧ base ≤ q ∧ blockIs w q (byteCells l ++ rest) 5 ∧ l.length ≤ cap ∧ cap ≤ maxLen ∧ l.length + rest.length = cap := by
  rcases h.2 with ⟨_, hn⟩ | ⟨g, cap, cur, hv, hb, hg, hnc, hcm, hcs, ht⟩
  · exact absurd (List.eq_nil_of_length_eq_zero hn) hl
  · have hts : cur.toList.take l.length = byteCells l := by simpa using ht
    refine ⟨g, cap, cur.toList.drop l.length, hv, hb, ?_, hnc, hcm, ?_⟩
    · show w.heap[g]? = _
      rw [hg, ← hts, List.take_append_drop, Array.toArray_toList]
    · have e : cur.size = cap := by simpa using hcs
      have e2 : cur.toList.length = cur.size := Array.length_toList
      rw [List.length_drop, e2]
      omega
theorem ownB.of_block {w : World} {base q cap : Nat} {l : List UInt8} {rest : List Value} (hb : base ≤ q) (h : blockIs w q (byteCells l ++ rest) 5) (hnc : l.length ≤ cap) (hcm : cap ≤ maxLen) (hs : l.length + rest.length = cap) : ownB w base (.slice (some ⟨q, 0, none⟩) l.length cap) l := by
  refine ⟨by rw [byteCells_length, Nat.mul_one], .inr ⟨q, cap, _, rfl, hb, h, hnc, hcm, by simp [byteCells_length]; omega, ?_⟩⟩
  rw [Nat.mul_one]
  have := byteCells_length l
  simp [← this]

set_option maxRecDepth 100000 in
set_option maxHeartbeats 8000000 in
theorem hide_some (fb g : Nat) (ws : List W) (N : List UInt8) (n : Nat) (a : Option Addr) (c : Nat) (ls : List (List UInt8)) (w : World) (hN : N.length = 16) (hn : n ≤ 1099511627776) (hl : ls.length ≤ 100000) (hm : ls.flatten.length ≤ 900000) (h0 : ls.flatten ≠ [])
    (hf : blockIs w fb (flowCells g N n) 186) (hk : blockIs w g (keyRow ws) 182) (hfg : fb ≠ g) (hp : partsB w a ls) :
    Calls Tryd.prog 83 #[.pointer (some ⟨fb, 0, none⟩), .slice a ls.length c] w fun e w' => ∃ v, e = .returned v ∧ ownB w' w.heap.size v (hideL ws N n ls.flatten) ∧ blockIs w' fb (flowCells g N (n + ls.flatten.length)) 186 ∧ But fb w w' := by
  have HC := Lib.hid (concat_any a c ls w hl hm hp)
  have hz := zeroBlk
  have HNL := Lib.hid hN
  have HF := Lib.hid hf
  have HK := Lib.hid hk
  clear hp hf hk
  generalize ls.flatten = l at *
  generalize ls.length = nl at *
  go_enter Tryd.func83, Tryd.ntmps83
  go_wp2_with fail
  with_reducible refine HC.out.mono ?_
  rintro e w1 ⟨v, rfl, own, kk⟩
  obtain ⟨q, cap, rest, rfl, hq, hqb, hc1, hc2, hc3⟩ := ownB.block own h0
  have HA : Hid (hap w fb g q w1.heap.size) := Lib.hid ⟨HF.out.lt, HK.out.lt, hfg, hq, hqb.lt⟩
  have I1 : Hid (hinv w fb g q w1.heap.size ws N (n + 0) (mixH ws N n l 0) rest (List.replicate 16 0) (w1.alloc (.cells (zeros 16).toArray 106 (0, 0)))) := Lib.hid (by
    have ka := alloc_below w1 (.cells (zeros 16).toArray 106 (0, 0))
    rw [mixH_zero]
    refine ⟨(HF.out.below kk HF.out.lt).alloc _, (HK.out.below kk HK.out.lt).alloc _, hqb.alloc _, ?_, (But.of_below kk).trans (But.of_below ka)⟩
    rw [← zeros_bytes]
    exact blockIs.new w1 (zeros 16) _)
  have HC1 := Lib.hid hc1
  have HC2 := Lib.hid hc2
  have HC3 := Lib.hid hc3
  clear own kk hqb HC hc1 hc2 hc3
  go_upto_region 5 with fail
  generalize w1.alloc (.cells (zeros 16).toArray 106 (0, 0)) = w2 at *
  generalize w1.heap.size = B6 at *
  clear hz HF HK
  go_wp2_with fail
  go_loopw [15] (fun i wr => ∃ k : Nat, k ≤ l.length ∧ i = .int .i64 k ∧ ∃ blk : List UInt8, blk.length = 16 ∧ (k = 0 ∨ blk = Aes.turn ws (plus N ((n + k - 1) / 16))) ∧ hinv w fb g q B6 ws N (n + k) (mixH ws N n l k) rest blk wr) (fun i _ => l.length - (intOf i).toNat)
  case atStart => exact ⟨0, by omega, rfl, List.replicate 16 0, by simp, Or.inl rfl, I1.out⟩
  case round =>
    obtain ⟨k, hk, rfl, blk, hbl, hbk, h1⟩ := hrel
    have H1 := Lib.hid h1
    have HBL := Lib.hid hbl
    clear h1 hbl
    by_cases hlt : k < l.length
    · have pk : 0 ≤ (k : Int) := by omega
      have qk : (k : Int) < (l.length : Int) := by omega
      have HRL : Hid ((mixH ws N n l k).length = l.length) := Lib.hid (mixH_len ws N n l k)
      obtain ⟨x, hx⟩ : ∃ x, x = l.getD k 0 := ⟨_, rfl⟩
      have HX : Hid ((mixH ws N n l k).getD k 0 = x) := Lib.hid (by rw [hx]; exact mixH_get ws N n l k hlt)
      obtain ⟨p, hp⟩ : ∃ p, p = n + k := ⟨_, rfl⟩
      have HMX : Hid (∀ y, y = (Aes.turn ws (plus N (p / 16))).getD (p % 16) 0 → (mixH ws N n l k).set k (x ^^^ y) = mixH ws N n l (k + 1)) := Lib.hid (fun y hy => by rw [hy, hp, hx]; exact mixH_set ws N n l k hlt)
      have HPN : Hid (p + 1 = n + (k + 1)) := Lib.hid (by omega)
      have hpb : p ≤ 1100000000000 := by omega
      have HPK : Hid (k ≠ 0 → p % 16 ≠ 0 → blk = Aes.turn ws (plus N (p / 16))) := Lib.hid (fun h1 h2 => by
        rcases hbk with h | h
        · exact absurd h h1
        · rw [h, show (n + k - 1) / 16 = p / 16 by omega])
      have HPP : Hid (∀ nb, nb = Aes.turn ws (plus N (p / 16)) → (k + 1 = 0 ∨ nb = Aes.turn ws (plus N ((n + (k + 1) - 1) / 16)))) := Lib.hid (fun nb h => Or.inr (by rw [h, hp, show n + (k + 1) - 1 = n + k by omega]))
      rw [← hp] at H1
      clear hx hp hbk
      generalize mixH ws N n l k = row at *
      have c17 : wr.cell? ⟨fb, 17, none⟩ = some (.int .i64 (p : Int)) := by rw [H1.out.1.cell]; exact flowCells_place g N p HNL.out
      have p0 : (0 : Int) ≤ (p : Int) := Int.natCast_nonneg _
      have m0 : 0 ≤ (p : Int) % 16 := by omega
      have m1 : (p : Int) % 16 < 16 := by omega
      have m2 : ((p : Int) % 16).toNat = p % 16 := by omega
      by_cases k0 : k = 0
      · have e0 : ((k : Int) == 0) = true := by simp [k0]
        have e1 : decide ((k : Int) = 0) = true := by simp [k0]
        have e2 : ((k : Int) = 0) = True := by simp [k0]
        clear k0
        go_upto_region 10 with fail
        refine wp_region_noPanic ?_
        refine wp_region_held_drew (S := fun w' => blockIs w' fb (flowCells g N p) 186) (by kernel_rfl) H1.out.1 (fun hH => ?_)
        refine tk (i := 0) (oi := { dst := some 29, op := Op.move (Operand.tmp 0), type := 156, pos := "cipher.go:47", after := #[], guard := none }) (v := .pointer (some ⟨fb, 0, none⟩)) rfl (fun wx hS => ?_) hH ?_
        · go_simp
        refine tk (i := 1) (oi := { dst := some 30, op := Op.nilCheck (Operand.tmp 29), type := 0, pos := "cipher.go:47", after := #[⟨0, .data⟩], guard := none }) (v := .pointer (some ⟨fb, 0, none⟩)) rfl (fun wx hS => ?_) hH ?_
        · go_simp
        refine tk (i := 2) (oi := { dst := some 31, op := Op.fieldAddr 186 (Operand.tmp 30) 0, type := 0, pos := "cipher.go:47", after := #[⟨1, .data⟩], guard := none }) (v := .pointer (some ⟨fb, 0, none⟩)) rfl (fun wx hS => ?_) hH ?_
        · go_simp
        refine tk (i := 3) (oi := { dst := some 32, op := Op.load 153 (Operand.tmp 31), type := 153, pos := "cipher.go:47", after := #[⟨2, .data⟩], guard := none }) (v := .pointer (some ⟨g, 0, none⟩)) rfl (fun wx hS => ?_) hH ?_
        · have e1 : wx.cell? ⟨fb, 0, none⟩ = some (.pointer (some ⟨g, 0, none⟩)) := (by rw [blockIs.cell hS]; rfl); go_simp
        refine tk (i := 4) (oi := { dst := some 33, op := Op.move (Operand.tmp 0), type := 156, pos := "cipher.go:47", after := #[], guard := none }) (v := .pointer (some ⟨fb, 0, none⟩)) rfl (fun wx hS => ?_) hH ?_
        · go_simp
        refine tk (i := 5) (oi := { dst := some 34, op := Op.nilCheck (Operand.tmp 33), type := 0, pos := "cipher.go:47", after := #[⟨4, .data⟩], guard := none }) (v := .pointer (some ⟨fb, 0, none⟩)) rfl (fun wx hS => ?_) hH ?_
        · go_simp
        refine tk (i := 6) (oi := { dst := some 35, op := Op.fieldAddr 186 (Operand.tmp 34) 1, type := 0, pos := "cipher.go:47", after := #[⟨5, .data⟩], guard := none }) (v := .pointer (some ⟨fb, 1, none⟩)) rfl (fun wx hS => ?_) hH ?_
        · go_simp
        refine tky (i := 7) (oi := { dst := some 36, op := Op.load 106 (Operand.tmp 35), type := 106, pos := "cipher.go:47", after := #[⟨6, .data⟩], guard := none }) (v := .agg (byteCells N).toArray) rfl (yieldsIf_load_mid (by rfl) 106 _ rfl fb 1 rfl (byteCells N) _ (fun wx hS => flow_number hS) Tryd.underlying106 rfl (by rw [infoBlk, byteCells_length, HNL.out])) hH ?_
        refine tk (i := 8) (oi := { dst := some 37, op := Op.move (Operand.tmp 0), type := 156, pos := "cipher.go:47", after := #[], guard := none }) (v := .pointer (some ⟨fb, 0, none⟩)) rfl (fun wx hS => ?_) hH ?_
        · go_simp
        refine tk (i := 9) (oi := { dst := some 38, op := Op.nilCheck (Operand.tmp 37), type := 0, pos := "cipher.go:47", after := #[⟨8, .data⟩], guard := none }) (v := .pointer (some ⟨fb, 0, none⟩)) rfl (fun wx hS => ?_) hH ?_
        · go_simp
        refine tk (i := 10) (oi := { dst := some 39, op := Op.fieldAddr 186 (Operand.tmp 38) 2, type := 0, pos := "cipher.go:47", after := #[⟨9, .data⟩], guard := none }) (v := .pointer (some ⟨fb, 17, none⟩)) rfl (fun wx hS => ?_) hH ?_
        · go_simp
        refine tk (i := 11) (oi := { dst := some 40, op := Op.load 3 (Operand.tmp 39), type := 3, pos := "cipher.go:47", after := #[⟨10, .data⟩], guard := none }) (v := .int .i64 (p : Int)) rfl (fun wx hS => ?_) hH ?_
        · have e1 : wx.cell? ⟨fb, 17, none⟩ = some (.int .i64 (p : Int)) := (by rw [blockIs.cell hS]; exact flowCells_place g N p HNL.out); go_simp
        refine tk (i := 12) (oi := { dst := some 41, op := Op.binOp BinOp.quo 3 (Operand.tmp 40) (Operand.const (Value.int IntKind.i64 16)) 3, type := 3, pos := "cipher.go:47", after := #[⟨11, .data⟩], guard := none }) (v := .int .i64 ((p : Int) / 16)) rfl (fun wx hS => ?_) hH ?_
        · have e1 : (0 : Int) ≤ (p : Int) := Int.natCast_nonneg _; have e2 : IntKind.i64.wrap ((p : Int) / 16) = (p : Int) / 16 := IntWalk.i64_in _ (by omega); go_simp
        have HBK := Lib.hid (block_any g ws N (p / 16) wr.drew HNL.out (by omega) H1.out.2.1)
        rw [show ((p / 16 : Nat) : Int) = (p : Int) / 16 by omega] at HBK
        refine wpAnyH_ready (rs := [13]) (by kernel_rfl) (by simp) ?_
        refine AllReadyH.cons (o := { dst := some 42, op := Op.call { callee := Callee.value (Operand.func 101), args := #[Operand.tmp 32, Operand.tmp 36, Operand.tmp 41], argTypes := #[153, 106, 3] }, type := 106, pos := "cipher.go:47", after := #[⟨3, .data⟩, ⟨7, .data⟩, ⟨12, .data⟩], guard := none }) rfl (fun KK hKK => ?_) AllReadyH.nil
        go_simp
        refine HBK.out.mono ?_
        rintro e x1 ⟨rfl, kk⟩
        have H2 := Lib.hid (hinv.below (hinv.below H1.out (below_drew' (Below.refl _ _))) kk)
        clear kk HBK hH
        refine hKK.out _ _ H2.out.1 (fun hH => ?_)
        clear hKK KK
        try simp only [Act.put, List.setIfInBounds_toArray, List.set_cons_zero, List.set_cons_succ]
        have HTL : Hid ((Aes.turn ws (plus N (p / 16))).length = 16) := Lib.hid rfl
        generalize hnb : Aes.turn ws (plus N (p / 16)) = nb at *
        have HNB := Lib.hid hnb.symm
        clear hnb
        refine wpAnyH_ready (rs := [14]) (by kernel_rfl) (by simp) ?_
        refine AllReadyH.cons (o := { dst := none, op := Op.store 106 (Operand.tmp 6) (Operand.tmp 42), type := 0, pos := "cipher.go:47", after := #[⟨13, .data⟩, ⟨13, .chain⟩, ⟨0, .phase⟩, ⟨1, .phase⟩, ⟨2, .phase⟩, ⟨3, .phase⟩, ⟨4, .phase⟩, ⟨5, .phase⟩, ⟨6, .phase⟩, ⟨7, .phase⟩, ⟨8, .phase⟩, ⟨9, .phase⟩, ⟨10, .phase⟩, ⟨11, .phase⟩, ⟨12, .phase⟩, ⟨13, .phase⟩], guard := none }) rfl (fun KK hKK => ?_) AllReadyH.nil
        refine step_store_block rfl 106 _ _ rfl B6 0 (byteCells nb) rfl rfl (byteCells blk) 106 H2.out.2.2.2.1 (by rw [infoBlk, byteCells_length, HTL.out]) (by rw [byteCells_length, byteCells_length, HTL.out, HBL.out]; decide) (byteCells_one _) ?_
        intro x2 h1 h2 h3
        have h1 := h1.out
        rw [splice_all _ _ (by rw [byteCells_length, byteCells_length, HTL.out, HBL.out])] at h1
        have H3 := Lib.hid (hinv.setBlk H2.out HA.out h2.out h1)
        clear h1 h2 h3 hH H1 H2
        refine hKK.out _ _ H3.out.1 (fun hH => ?_)
        clear hKK KK hH
        try simp only [Act.put]
        refine wpAnyH_done (by kernel_rfl) ?_ _
        refine NoPanic.normal ?_
        go_upto_region 11 with fail
        obtain ⟨y, hy⟩ : ∃ y, y = nb.getD (p % 16) 0 := ⟨_, rfl⟩
        have cy : x2.drew.cell? ⟨B6, p % 16, none⟩ = some (.int .u8 (V y)) := by
          rw [show x2.drew.cell? ⟨B6, p % 16, none⟩ = x2.cell? ⟨B6, p % 16, none⟩ from rfl, H3.out.2.2.2.1.cell, hy]
          exact byteCells_get nb _ (by rw [HTL.out]; omega)
        have HY := Lib.hid hy
        clear hy
        have cx : x2.drew.cell? ⟨q, k, none⟩ = some (.int .u8 (V x)) := by
          rw [show x2.drew.cell? ⟨q, k, none⟩ = x2.cell? ⟨q, k, none⟩ from rfl, H3.out.2.2.1.cell, List.getElem?_append_left (by rw [byteCells_length, HRL.out]; omega), byteCells_get _ _ (by rw [HRL.out]; omega), HX.out]
        refine wp_region_noPanic ?_
        refine wp_region_held_drew (S := fun w' => w'.cell? ⟨B6, p % 16, none⟩ = some (.int .u8 (V y))) (by kernel_rfl) cy (fun hH => ?_)
        refine tk (i := 0) (oi := { dst := some 43, op := Op.move (Operand.tmp 5), type := 30, pos := "cipher.go:49", after := #[], guard := none }) (v := .slice (some ⟨q, 0, none⟩) l.length cap) rfl (fun wx hS => ?_) hH ?_
        · go_simp
        refine tk (i := 1) (oi := { dst := some 44, op := Op.move (Operand.tmp 7), type := 3, pos := "cipher.go:49", after := #[], guard := none }) (v := .int .i64 (k : Int)) rfl (fun wx hS => ?_) hH ?_
        · go_simp
        refine tk (i := 2) (oi := { dst := some 45, op := Op.indexAddr 30 (Operand.tmp 43) (Operand.tmp 44), type := 0, pos := "cipher.go:49", after := #[⟨0, .data⟩, ⟨1, .data⟩], guard := none }) (v := .pointer (some ⟨q, k, none⟩)) rfl (fun wx hS => ?_) hH ?_
        · have e1 := pk; have e2 := qk; go_simp
        refine tk (i := 4) (oi := { dst := some 47, op := Op.move (Operand.tmp 8), type := 3, pos := "cipher.go:49", after := #[], guard := none }) (v := .int .i64 ((p : Int) % 16)) rfl (fun wx hS => ?_) hH ?_
        · go_simp
        refine tk (i := 5) (oi := { dst := some 48, op := Op.indexAddr 106 (Operand.tmp 6) (Operand.tmp 47), type := 0, pos := "cipher.go:49", after := #[⟨4, .data⟩], guard := none }) (v := .pointer (some ⟨B6, p % 16, none⟩)) rfl (fun wx hS => ?_) hH ?_
        · have e1 := m0; have e2 := m1; have e3 := m2; go_simp
        refine tk (i := 6) (oi := { dst := some 49, op := Op.load 5 (Operand.tmp 48), type := 5, pos := "cipher.go:49", after := #[⟨5, .data⟩], guard := none }) (v := .int .u8 (V y)) rfl (fun wx hS => ?_) hH ?_
        · have e1 : wx.cell? ⟨B6, p % 16, none⟩ = some (.int .u8 (V y)) := hS; go_simp
        refine wpAnyH_ready (rs := [3]) (by kernel_rfl) (by simp) ?_
        refine AllReadyH.cons (o := { dst := some 46, op := Op.load 5 (Operand.tmp 45), type := 5, pos := "cipher.go:49", after := #[⟨2, .data⟩], guard := none }) rfl (fun KK hKK => ?_) AllReadyH.nil
        go_simp
        refine hKK.out _ _ hH (fun hH => ?_)
        clear hKK KK
        try simp only [Act.put, List.setIfInBounds_toArray, List.set_cons_zero, List.set_cons_succ]
        refine tk (i := 7) (oi := { dst := some 50, op := Op.binOp BinOp.xor 5 (Operand.tmp 46) (Operand.tmp 49) 5, type := 5, pos := "cipher.go:49", after := #[⟨3, .data⟩, ⟨6, .data⟩], guard := none }) (v := .int .u8 (V (x ^^^ y))) rfl (fun wx hS => ?_) hH ?_
        · go_simp
        refine tk (i := 8) (oi := { dst := some 51, op := Op.indexAddr 30 (Operand.tmp 43) (Operand.tmp 44), type := 0, pos := "cipher.go:49", after := #[⟨0, .data⟩, ⟨1, .data⟩, ⟨0, .phase⟩, ⟨1, .phase⟩, ⟨2, .phase⟩, ⟨3, .phase⟩, ⟨4, .phase⟩, ⟨5, .phase⟩, ⟨6, .phase⟩, ⟨7, .phase⟩], guard := none }) (v := .pointer (some ⟨q, k, none⟩)) rfl (fun wx hS => ?_) hH ?_
        · have e1 := pk; have e2 := qk; go_simp
        have f1 : x2.drew.frozen? ⟨q, k, none⟩ = false := H3.out.2.2.1.free k
        have hN : (x2.drew.setCell ⟨q, k, none⟩ (.int .u8 (V (x ^^^ y)))).cell? ⟨B6, p % 16, none⟩ = some (.int .u8 (V y)) := by
          rw [World.cell?_setCell_far _ _ _ _ (show q ≠ B6 from Nat.ne_of_lt HA.out.2.2.2.2)]; exact cy
        have H4 := Lib.hid (hinv.setRow H3.out HA.out k (x ^^^ y) (by rw [HRL.out]; omega))
        clear hH
        refine wpAnyH_ready (rs := [9]) (by kernel_rfl) (by simp) ?_
        refine AllReadyH.cons (o := { dst := none, op := Op.store 5 (Operand.tmp 51) (Operand.tmp 50), type := 0, pos := "cipher.go:49", after := #[⟨8, .data⟩, ⟨7, .data⟩, ⟨0, .phase⟩, ⟨1, .phase⟩, ⟨2, .phase⟩, ⟨3, .phase⟩, ⟨4, .phase⟩, ⟨5, .phase⟩, ⟨6, .phase⟩, ⟨7, .phase⟩], guard := none }) rfl (fun KK hKK => ?_) AllReadyH.nil
        go_simp
        refine hKK.out _ _ hN (fun hH => ?_)
        clear hKK KK hH hN f1 cx cy H3
        try simp only [Act.put, List.setIfInBounds_toArray, List.set_cons_zero, List.set_cons_succ]
        refine wpAnyH_done (by kernel_rfl) ?_ _
        refine NoPanic.normal ?_
        rw [show row.set k (x ^^^ y) = mixH ws N n l (k + 1) from HMX.out y (by rw [HY.out, HNB.out])] at H4
        have H4 : Hid (hinv w fb g q B6 ws N p (mixH ws N n l (k + 1)) rest nb (x2.setCell ⟨q, k, none⟩ (.int .u8 (V (x ^^^ y)))).drew) := H4
        generalize (x2.setCell ⟨q, k, none⟩ (.int .u8 (V (x ^^^ y)))).drew = w4 at *
        have hp1 : IntKind.i64.wrap ((p : Int) + 1) = (p : Int) + 1 := IntWalk.i64_in _ (by omega)
        have c17 : w4.cell? ⟨fb, 17, none⟩ = some (.int .i64 (p : Int)) := by rw [blockIs.cell H4.out.1]; exact flowCells_place g N p HNL.out
        go_wp2_with (refine wpList_store_cell rfl 3 _ _ rfl fb 17 (.int .i64 ((p : Int) + 1)) rfl rfl (flowCells g N p) 186 H4.out.1 (by rw [flowCells_len g N p HNL.out]; decide) (by kernel_rfl) rfl rfl ?_)
        intro x3 h1 h2 h3
        have h1 := h1.out
        rw [show (p : Int) + 1 = ((p + 1 : Nat) : Int) by omega, flowCells_set g N p (p + 1) HNL.out] at h1
        have H5 := Lib.hid (hinv.setFlow H4.out HA.out h2.out h1)
        clear h1 h2 h3 H4 c17
        go_wp2_with fail
        go_roundw
        case rel => exact ⟨k + 1, by omega, by go_num, nb, HTL.out, HPP.out nb rfl, by rw [← HPN.out]; exact H5.out⟩
        case measure => simp [intOf]; omega
      · have k1 : ¬ (k : Int) = 0 := by omega
        by_cases z : p % 16 = 0
        · have z1 : (((p : Int) % 16) == 0) = true := by simpa using (show (p : Int) % 16 = 0 by omega)
          have z2 : ((p : Int) % 16 = 0) = True := by simpa using (show (p : Int) % 16 = 0 by omega)
          clear z HPK
          go_upto_region 10 with fail
          refine wp_region_noPanic ?_
          refine wp_region_held_drew (S := fun w' => blockIs w' fb (flowCells g N p) 186) (by kernel_rfl) H1.out.1 (fun hH => ?_)
          refine tk (i := 0) (oi := { dst := some 29, op := Op.move (Operand.tmp 0), type := 156, pos := "cipher.go:47", after := #[], guard := none }) (v := .pointer (some ⟨fb, 0, none⟩)) rfl (fun wx hS => ?_) hH ?_
          · go_simp
          refine tk (i := 1) (oi := { dst := some 30, op := Op.nilCheck (Operand.tmp 29), type := 0, pos := "cipher.go:47", after := #[⟨0, .data⟩], guard := none }) (v := .pointer (some ⟨fb, 0, none⟩)) rfl (fun wx hS => ?_) hH ?_
          · go_simp
          refine tk (i := 2) (oi := { dst := some 31, op := Op.fieldAddr 186 (Operand.tmp 30) 0, type := 0, pos := "cipher.go:47", after := #[⟨1, .data⟩], guard := none }) (v := .pointer (some ⟨fb, 0, none⟩)) rfl (fun wx hS => ?_) hH ?_
          · go_simp
          refine tk (i := 3) (oi := { dst := some 32, op := Op.load 153 (Operand.tmp 31), type := 153, pos := "cipher.go:47", after := #[⟨2, .data⟩], guard := none }) (v := .pointer (some ⟨g, 0, none⟩)) rfl (fun wx hS => ?_) hH ?_
          · have e1 : wx.cell? ⟨fb, 0, none⟩ = some (.pointer (some ⟨g, 0, none⟩)) := (by rw [blockIs.cell hS]; rfl); go_simp
          refine tk (i := 4) (oi := { dst := some 33, op := Op.move (Operand.tmp 0), type := 156, pos := "cipher.go:47", after := #[], guard := none }) (v := .pointer (some ⟨fb, 0, none⟩)) rfl (fun wx hS => ?_) hH ?_
          · go_simp
          refine tk (i := 5) (oi := { dst := some 34, op := Op.nilCheck (Operand.tmp 33), type := 0, pos := "cipher.go:47", after := #[⟨4, .data⟩], guard := none }) (v := .pointer (some ⟨fb, 0, none⟩)) rfl (fun wx hS => ?_) hH ?_
          · go_simp
          refine tk (i := 6) (oi := { dst := some 35, op := Op.fieldAddr 186 (Operand.tmp 34) 1, type := 0, pos := "cipher.go:47", after := #[⟨5, .data⟩], guard := none }) (v := .pointer (some ⟨fb, 1, none⟩)) rfl (fun wx hS => ?_) hH ?_
          · go_simp
          refine tky (i := 7) (oi := { dst := some 36, op := Op.load 106 (Operand.tmp 35), type := 106, pos := "cipher.go:47", after := #[⟨6, .data⟩], guard := none }) (v := .agg (byteCells N).toArray) rfl (yieldsIf_load_mid (by rfl) 106 _ rfl fb 1 rfl (byteCells N) _ (fun wx hS => flow_number hS) Tryd.underlying106 rfl (by rw [infoBlk, byteCells_length, HNL.out])) hH ?_
          refine tk (i := 8) (oi := { dst := some 37, op := Op.move (Operand.tmp 0), type := 156, pos := "cipher.go:47", after := #[], guard := none }) (v := .pointer (some ⟨fb, 0, none⟩)) rfl (fun wx hS => ?_) hH ?_
          · go_simp
          refine tk (i := 9) (oi := { dst := some 38, op := Op.nilCheck (Operand.tmp 37), type := 0, pos := "cipher.go:47", after := #[⟨8, .data⟩], guard := none }) (v := .pointer (some ⟨fb, 0, none⟩)) rfl (fun wx hS => ?_) hH ?_
          · go_simp
          refine tk (i := 10) (oi := { dst := some 39, op := Op.fieldAddr 186 (Operand.tmp 38) 2, type := 0, pos := "cipher.go:47", after := #[⟨9, .data⟩], guard := none }) (v := .pointer (some ⟨fb, 17, none⟩)) rfl (fun wx hS => ?_) hH ?_
          · go_simp
          refine tk (i := 11) (oi := { dst := some 40, op := Op.load 3 (Operand.tmp 39), type := 3, pos := "cipher.go:47", after := #[⟨10, .data⟩], guard := none }) (v := .int .i64 (p : Int)) rfl (fun wx hS => ?_) hH ?_
          · have e1 : wx.cell? ⟨fb, 17, none⟩ = some (.int .i64 (p : Int)) := (by rw [blockIs.cell hS]; exact flowCells_place g N p HNL.out); go_simp
          refine tk (i := 12) (oi := { dst := some 41, op := Op.binOp BinOp.quo 3 (Operand.tmp 40) (Operand.const (Value.int IntKind.i64 16)) 3, type := 3, pos := "cipher.go:47", after := #[⟨11, .data⟩], guard := none }) (v := .int .i64 ((p : Int) / 16)) rfl (fun wx hS => ?_) hH ?_
          · have e1 : (0 : Int) ≤ (p : Int) := Int.natCast_nonneg _; have e2 : IntKind.i64.wrap ((p : Int) / 16) = (p : Int) / 16 := IntWalk.i64_in _ (by omega); go_simp
          have HBK := Lib.hid (block_any g ws N (p / 16) wr.drew HNL.out (by omega) H1.out.2.1)
          rw [show ((p / 16 : Nat) : Int) = (p : Int) / 16 by omega] at HBK
          refine wpAnyH_ready (rs := [13]) (by kernel_rfl) (by simp) ?_
          refine AllReadyH.cons (o := { dst := some 42, op := Op.call { callee := Callee.value (Operand.func 101), args := #[Operand.tmp 32, Operand.tmp 36, Operand.tmp 41], argTypes := #[153, 106, 3] }, type := 106, pos := "cipher.go:47", after := #[⟨3, .data⟩, ⟨7, .data⟩, ⟨12, .data⟩], guard := none }) rfl (fun KK hKK => ?_) AllReadyH.nil
          go_simp
          refine HBK.out.mono ?_
          rintro e x1 ⟨rfl, kk⟩
          have H2 := Lib.hid (hinv.below (hinv.below H1.out (below_drew' (Below.refl _ _))) kk)
          clear kk HBK hH
          refine hKK.out _ _ H2.out.1 (fun hH => ?_)
          clear hKK KK
          try simp only [Act.put, List.setIfInBounds_toArray, List.set_cons_zero, List.set_cons_succ]
          have HTL : Hid ((Aes.turn ws (plus N (p / 16))).length = 16) := Lib.hid rfl
          generalize hnb : Aes.turn ws (plus N (p / 16)) = nb at *
          have HNB := Lib.hid hnb.symm
          clear hnb
          refine wpAnyH_ready (rs := [14]) (by kernel_rfl) (by simp) ?_
          refine AllReadyH.cons (o := { dst := none, op := Op.store 106 (Operand.tmp 6) (Operand.tmp 42), type := 0, pos := "cipher.go:47", after := #[⟨13, .data⟩, ⟨13, .chain⟩, ⟨0, .phase⟩, ⟨1, .phase⟩, ⟨2, .phase⟩, ⟨3, .phase⟩, ⟨4, .phase⟩, ⟨5, .phase⟩, ⟨6, .phase⟩, ⟨7, .phase⟩, ⟨8, .phase⟩, ⟨9, .phase⟩, ⟨10, .phase⟩, ⟨11, .phase⟩, ⟨12, .phase⟩, ⟨13, .phase⟩], guard := none }) rfl (fun KK hKK => ?_) AllReadyH.nil
          refine step_store_block rfl 106 _ _ rfl B6 0 (byteCells nb) rfl rfl (byteCells blk) 106 H2.out.2.2.2.1 (by rw [infoBlk, byteCells_length, HTL.out]) (by rw [byteCells_length, byteCells_length, HTL.out, HBL.out]; decide) (byteCells_one _) ?_
          intro x2 h1 h2 h3
          have h1 := h1.out
          rw [splice_all _ _ (by rw [byteCells_length, byteCells_length, HTL.out, HBL.out])] at h1
          have H3 := Lib.hid (hinv.setBlk H2.out HA.out h2.out h1)
          clear h1 h2 h3 hH H1 H2
          refine hKK.out _ _ H3.out.1 (fun hH => ?_)
          clear hKK KK hH
          try simp only [Act.put]
          refine wpAnyH_done (by kernel_rfl) ?_ _
          refine NoPanic.normal ?_
          go_upto_region 11 with fail
          obtain ⟨y, hy⟩ : ∃ y, y = nb.getD (p % 16) 0 := ⟨_, rfl⟩
          have cy : x2.drew.cell? ⟨B6, p % 16, none⟩ = some (.int .u8 (V y)) := by
            rw [show x2.drew.cell? ⟨B6, p % 16, none⟩ = x2.cell? ⟨B6, p % 16, none⟩ from rfl, H3.out.2.2.2.1.cell, hy]
            exact byteCells_get nb _ (by rw [HTL.out]; omega)
          have HY := Lib.hid hy
          clear hy
          have cx : x2.drew.cell? ⟨q, k, none⟩ = some (.int .u8 (V x)) := by
            rw [show x2.drew.cell? ⟨q, k, none⟩ = x2.cell? ⟨q, k, none⟩ from rfl, H3.out.2.2.1.cell, List.getElem?_append_left (by rw [byteCells_length, HRL.out]; omega), byteCells_get _ _ (by rw [HRL.out]; omega), HX.out]
          refine wp_region_noPanic ?_
          refine wp_region_held_drew (S := fun w' => w'.cell? ⟨B6, p % 16, none⟩ = some (.int .u8 (V y))) (by kernel_rfl) cy (fun hH => ?_)
          refine tk (i := 0) (oi := { dst := some 43, op := Op.move (Operand.tmp 5), type := 30, pos := "cipher.go:49", after := #[], guard := none }) (v := .slice (some ⟨q, 0, none⟩) l.length cap) rfl (fun wx hS => ?_) hH ?_
          · go_simp
          refine tk (i := 1) (oi := { dst := some 44, op := Op.move (Operand.tmp 7), type := 3, pos := "cipher.go:49", after := #[], guard := none }) (v := .int .i64 (k : Int)) rfl (fun wx hS => ?_) hH ?_
          · go_simp
          refine tk (i := 2) (oi := { dst := some 45, op := Op.indexAddr 30 (Operand.tmp 43) (Operand.tmp 44), type := 0, pos := "cipher.go:49", after := #[⟨0, .data⟩, ⟨1, .data⟩], guard := none }) (v := .pointer (some ⟨q, k, none⟩)) rfl (fun wx hS => ?_) hH ?_
          · have e1 := pk; have e2 := qk; go_simp
          refine tk (i := 4) (oi := { dst := some 47, op := Op.move (Operand.tmp 8), type := 3, pos := "cipher.go:49", after := #[], guard := none }) (v := .int .i64 ((p : Int) % 16)) rfl (fun wx hS => ?_) hH ?_
          · go_simp
          refine tk (i := 5) (oi := { dst := some 48, op := Op.indexAddr 106 (Operand.tmp 6) (Operand.tmp 47), type := 0, pos := "cipher.go:49", after := #[⟨4, .data⟩], guard := none }) (v := .pointer (some ⟨B6, p % 16, none⟩)) rfl (fun wx hS => ?_) hH ?_
          · have e1 := m0; have e2 := m1; have e3 := m2; go_simp
          refine tk (i := 6) (oi := { dst := some 49, op := Op.load 5 (Operand.tmp 48), type := 5, pos := "cipher.go:49", after := #[⟨5, .data⟩], guard := none }) (v := .int .u8 (V y)) rfl (fun wx hS => ?_) hH ?_
          · have e1 : wx.cell? ⟨B6, p % 16, none⟩ = some (.int .u8 (V y)) := hS; go_simp
          refine wpAnyH_ready (rs := [3]) (by kernel_rfl) (by simp) ?_
          refine AllReadyH.cons (o := { dst := some 46, op := Op.load 5 (Operand.tmp 45), type := 5, pos := "cipher.go:49", after := #[⟨2, .data⟩], guard := none }) rfl (fun KK hKK => ?_) AllReadyH.nil
          go_simp
          refine hKK.out _ _ hH (fun hH => ?_)
          clear hKK KK
          try simp only [Act.put, List.setIfInBounds_toArray, List.set_cons_zero, List.set_cons_succ]
          refine tk (i := 7) (oi := { dst := some 50, op := Op.binOp BinOp.xor 5 (Operand.tmp 46) (Operand.tmp 49) 5, type := 5, pos := "cipher.go:49", after := #[⟨3, .data⟩, ⟨6, .data⟩], guard := none }) (v := .int .u8 (V (x ^^^ y))) rfl (fun wx hS => ?_) hH ?_
          · go_simp
          refine tk (i := 8) (oi := { dst := some 51, op := Op.indexAddr 30 (Operand.tmp 43) (Operand.tmp 44), type := 0, pos := "cipher.go:49", after := #[⟨0, .data⟩, ⟨1, .data⟩, ⟨0, .phase⟩, ⟨1, .phase⟩, ⟨2, .phase⟩, ⟨3, .phase⟩, ⟨4, .phase⟩, ⟨5, .phase⟩, ⟨6, .phase⟩, ⟨7, .phase⟩], guard := none }) (v := .pointer (some ⟨q, k, none⟩)) rfl (fun wx hS => ?_) hH ?_
          · have e1 := pk; have e2 := qk; go_simp
          have f1 : x2.drew.frozen? ⟨q, k, none⟩ = false := H3.out.2.2.1.free k
          have hN : (x2.drew.setCell ⟨q, k, none⟩ (.int .u8 (V (x ^^^ y)))).cell? ⟨B6, p % 16, none⟩ = some (.int .u8 (V y)) := by
            rw [World.cell?_setCell_far _ _ _ _ (show q ≠ B6 from Nat.ne_of_lt HA.out.2.2.2.2)]; exact cy
          have H4 := Lib.hid (hinv.setRow H3.out HA.out k (x ^^^ y) (by rw [HRL.out]; omega))
          clear hH
          refine wpAnyH_ready (rs := [9]) (by kernel_rfl) (by simp) ?_
          refine AllReadyH.cons (o := { dst := none, op := Op.store 5 (Operand.tmp 51) (Operand.tmp 50), type := 0, pos := "cipher.go:49", after := #[⟨8, .data⟩, ⟨7, .data⟩, ⟨0, .phase⟩, ⟨1, .phase⟩, ⟨2, .phase⟩, ⟨3, .phase⟩, ⟨4, .phase⟩, ⟨5, .phase⟩, ⟨6, .phase⟩, ⟨7, .phase⟩], guard := none }) rfl (fun KK hKK => ?_) AllReadyH.nil
          go_simp
          refine hKK.out _ _ hN (fun hH => ?_)
          clear hKK KK hH hN f1 cx cy H3
          try simp only [Act.put, List.setIfInBounds_toArray, List.set_cons_zero, List.set_cons_succ]
          refine wpAnyH_done (by kernel_rfl) ?_ _
          refine NoPanic.normal ?_
          rw [show row.set k (x ^^^ y) = mixH ws N n l (k + 1) from HMX.out y (by rw [HY.out, HNB.out])] at H4
          have H4 : Hid (hinv w fb g q B6 ws N p (mixH ws N n l (k + 1)) rest nb (x2.setCell ⟨q, k, none⟩ (.int .u8 (V (x ^^^ y)))).drew) := H4
          generalize (x2.setCell ⟨q, k, none⟩ (.int .u8 (V (x ^^^ y)))).drew = w4 at *
          have hp1 : IntKind.i64.wrap ((p : Int) + 1) = (p : Int) + 1 := IntWalk.i64_in _ (by omega)
          have c17 : w4.cell? ⟨fb, 17, none⟩ = some (.int .i64 (p : Int)) := by rw [blockIs.cell H4.out.1]; exact flowCells_place g N p HNL.out
          go_wp2_with (refine wpList_store_cell rfl 3 _ _ rfl fb 17 (.int .i64 ((p : Int) + 1)) rfl rfl (flowCells g N p) 186 H4.out.1 (by rw [flowCells_len g N p HNL.out]; decide) (by kernel_rfl) rfl rfl ?_)
          intro x3 h1 h2 h3
          have h1 := h1.out
          rw [show (p : Int) + 1 = ((p + 1 : Nat) : Int) by omega, flowCells_set g N p (p + 1) HNL.out] at h1
          have H5 := Lib.hid (hinv.setFlow H4.out HA.out h2.out h1)
          clear h1 h2 h3 H4 c17
          go_wp2_with fail
          go_roundw
          case rel => exact ⟨k + 1, by omega, by go_num, nb, HTL.out, HPP.out nb rfl, by rw [← HPN.out]; exact H5.out⟩
          case measure => simp [intOf]; omega
        · have z0 : ¬ (p : Int) % 16 = 0 := by omega
          have z1 : (((p : Int) % 16) == 0) = false := by simpa using z0
          have z2 : ((p : Int) % 16 = 0) = False := by simpa using z0
          have HB2 := Lib.hid (HPK.out k0 z)
          clear z z0 k0 HPK
          have HTL := HBL
          have H3 := H1
          go_upto_region 11 with fail
          obtain ⟨y, hy⟩ : ∃ y, y = blk.getD (p % 16) 0 := ⟨_, rfl⟩
          have cy : wr.drew.cell? ⟨B6, p % 16, none⟩ = some (.int .u8 (V y)) := by
            rw [show wr.drew.cell? ⟨B6, p % 16, none⟩ = wr.cell? ⟨B6, p % 16, none⟩ from rfl, H3.out.2.2.2.1.cell, hy]
            exact byteCells_get blk _ (by rw [HTL.out]; omega)
          have HY := Lib.hid hy
          clear hy
          have cx : wr.drew.cell? ⟨q, k, none⟩ = some (.int .u8 (V x)) := by
            rw [show wr.drew.cell? ⟨q, k, none⟩ = wr.cell? ⟨q, k, none⟩ from rfl, H3.out.2.2.1.cell, List.getElem?_append_left (by rw [byteCells_length, HRL.out]; omega), byteCells_get _ _ (by rw [HRL.out]; omega), HX.out]
          refine wp_region_noPanic ?_
          refine wp_region_held_drew (S := fun w' => w'.cell? ⟨B6, p % 16, none⟩ = some (.int .u8 (V y))) (by kernel_rfl) cy (fun hH => ?_)
          refine tk (i := 0) (oi := { dst := some 43, op := Op.move (Operand.tmp 5), type := 30, pos := "cipher.go:49", after := #[], guard := none }) (v := .slice (some ⟨q, 0, none⟩) l.length cap) rfl (fun wx hS => ?_) hH ?_
          · go_simp
          refine tk (i := 1) (oi := { dst := some 44, op := Op.move (Operand.tmp 7), type := 3, pos := "cipher.go:49", after := #[], guard := none }) (v := .int .i64 (k : Int)) rfl (fun wx hS => ?_) hH ?_
          · go_simp
          refine tk (i := 2) (oi := { dst := some 45, op := Op.indexAddr 30 (Operand.tmp 43) (Operand.tmp 44), type := 0, pos := "cipher.go:49", after := #[⟨0, .data⟩, ⟨1, .data⟩], guard := none }) (v := .pointer (some ⟨q, k, none⟩)) rfl (fun wx hS => ?_) hH ?_
          · have e1 := pk; have e2 := qk; go_simp
          refine tk (i := 4) (oi := { dst := some 47, op := Op.move (Operand.tmp 8), type := 3, pos := "cipher.go:49", after := #[], guard := none }) (v := .int .i64 ((p : Int) % 16)) rfl (fun wx hS => ?_) hH ?_
          · go_simp
          refine tk (i := 5) (oi := { dst := some 48, op := Op.indexAddr 106 (Operand.tmp 6) (Operand.tmp 47), type := 0, pos := "cipher.go:49", after := #[⟨4, .data⟩], guard := none }) (v := .pointer (some ⟨B6, p % 16, none⟩)) rfl (fun wx hS => ?_) hH ?_
          · have e1 := m0; have e2 := m1; have e3 := m2; go_simp
          refine tk (i := 6) (oi := { dst := some 49, op := Op.load 5 (Operand.tmp 48), type := 5, pos := "cipher.go:49", after := #[⟨5, .data⟩], guard := none }) (v := .int .u8 (V y)) rfl (fun wx hS => ?_) hH ?_
          · have e1 : wx.cell? ⟨B6, p % 16, none⟩ = some (.int .u8 (V y)) := hS; go_simp
          refine wpAnyH_ready (rs := [3]) (by kernel_rfl) (by simp) ?_
          refine AllReadyH.cons (o := { dst := some 46, op := Op.load 5 (Operand.tmp 45), type := 5, pos := "cipher.go:49", after := #[⟨2, .data⟩], guard := none }) rfl (fun KK hKK => ?_) AllReadyH.nil
          go_simp
          refine hKK.out _ _ hH (fun hH => ?_)
          clear hKK KK
          try simp only [Act.put, List.setIfInBounds_toArray, List.set_cons_zero, List.set_cons_succ]
          refine tk (i := 7) (oi := { dst := some 50, op := Op.binOp BinOp.xor 5 (Operand.tmp 46) (Operand.tmp 49) 5, type := 5, pos := "cipher.go:49", after := #[⟨3, .data⟩, ⟨6, .data⟩], guard := none }) (v := .int .u8 (V (x ^^^ y))) rfl (fun wx hS => ?_) hH ?_
          · go_simp
          refine tk (i := 8) (oi := { dst := some 51, op := Op.indexAddr 30 (Operand.tmp 43) (Operand.tmp 44), type := 0, pos := "cipher.go:49", after := #[⟨0, .data⟩, ⟨1, .data⟩, ⟨0, .phase⟩, ⟨1, .phase⟩, ⟨2, .phase⟩, ⟨3, .phase⟩, ⟨4, .phase⟩, ⟨5, .phase⟩, ⟨6, .phase⟩, ⟨7, .phase⟩], guard := none }) (v := .pointer (some ⟨q, k, none⟩)) rfl (fun wx hS => ?_) hH ?_
          · have e1 := pk; have e2 := qk; go_simp
          have f1 : wr.drew.frozen? ⟨q, k, none⟩ = false := H3.out.2.2.1.free k
          have hN : (wr.drew.setCell ⟨q, k, none⟩ (.int .u8 (V (x ^^^ y)))).cell? ⟨B6, p % 16, none⟩ = some (.int .u8 (V y)) := by
            rw [World.cell?_setCell_far _ _ _ _ (show q ≠ B6 from Nat.ne_of_lt HA.out.2.2.2.2)]; exact cy
          have H4 := Lib.hid (hinv.setRow H3.out HA.out k (x ^^^ y) (by rw [HRL.out]; omega))
          clear hH
          refine wpAnyH_ready (rs := [9]) (by kernel_rfl) (by simp) ?_
          refine AllReadyH.cons (o := { dst := none, op := Op.store 5 (Operand.tmp 51) (Operand.tmp 50), type := 0, pos := "cipher.go:49", after := #[⟨8, .data⟩, ⟨7, .data⟩, ⟨0, .phase⟩, ⟨1, .phase⟩, ⟨2, .phase⟩, ⟨3, .phase⟩, ⟨4, .phase⟩, ⟨5, .phase⟩, ⟨6, .phase⟩, ⟨7, .phase⟩], guard := none }) rfl (fun KK hKK => ?_) AllReadyH.nil
          go_simp
          refine hKK.out _ _ hN (fun hH => ?_)
          clear hKK KK hH hN f1 cx cy H3
          try simp only [Act.put, List.setIfInBounds_toArray, List.set_cons_zero, List.set_cons_succ]
          refine wpAnyH_done (by kernel_rfl) ?_ _
          refine NoPanic.normal ?_
          rw [show row.set k (x ^^^ y) = mixH ws N n l (k + 1) from HMX.out y (by rw [HY.out, HB2.out])] at H4
          have H4 : Hid (hinv w fb g q B6 ws N p (mixH ws N n l (k + 1)) rest blk (wr.setCell ⟨q, k, none⟩ (.int .u8 (V (x ^^^ y)))).drew) := H4
          generalize (wr.setCell ⟨q, k, none⟩ (.int .u8 (V (x ^^^ y)))).drew = w4 at *
          have hp1 : IntKind.i64.wrap ((p : Int) + 1) = (p : Int) + 1 := IntWalk.i64_in _ (by omega)
          have c17 : w4.cell? ⟨fb, 17, none⟩ = some (.int .i64 (p : Int)) := by rw [blockIs.cell H4.out.1]; exact flowCells_place g N p HNL.out
          go_wp2_with (refine wpList_store_cell rfl 3 _ _ rfl fb 17 (.int .i64 ((p : Int) + 1)) rfl rfl (flowCells g N p) 186 H4.out.1 (by rw [flowCells_len g N p HNL.out]; decide) (by kernel_rfl) rfl rfl ?_)
          intro x3 h1 h2 h3
          have h1 := h1.out
          rw [show (p : Int) + 1 = ((p + 1 : Nat) : Int) by omega, flowCells_set g N p (p + 1) HNL.out] at h1
          have H5 := Lib.hid (hinv.setFlow H4.out HA.out h2.out h1)
          clear h1 h2 h3 H4 c17
          go_wp2_with fail
          go_roundw
          case rel => exact ⟨k + 1, by omega, by go_num, blk, HTL.out, HPP.out blk HB2.out, by rw [← HPN.out]; exact H5.out⟩
          case measure => simp [intOf]; omega
    · obtain rfl : k = l.length := by omega
      have hm := H1.out
      rw [mixH_all] at hm
      have HL : Hid ((hideL ws N n l).length = l.length) := Lib.hid (by simp [hideL])
      go_wp2_with fail
      go_ret
      refine ⟨_, rfl, ?_, hm.1, hm.2.2.2.2⟩
      have := ownB.of_block (base := w.heap.size) (cap := cap) HA.out.2.2.2.1 hm.2.2.1 (by rw [HL.out]; exact HC1.out) HC2.out (by rw [HL.out]; exact HC3.out)
      rwa [HL.out] at this
end Go.Proofs.YtfhlcondnaahiaaDoor.Ci
end
section
/- Numbers of 16 bytes: what is added, and added again. -/
namespace Go.Proofs.YtfhlcondnaahiaaDoor.Ci
open Go.RowKit Sha Aes

/-- The number of the last k bytes. -/
def low (N : List UInt8) : Nat → Nat
  | 0 => 0
  | k + 1 => low N k + 256 ^ k * (N.getD (15 - k) 0).toNat
end Go.Proofs.YtfhlcondnaahiaaDoor.Ci
end
section
/- Parts of slices. -/
namespace Go.Proofs.YtfhlcondnaahiaaDoor.Ci
end Go.Proofs.YtfhlcondnaahiaaDoor.Ci
end
section
/- The law CipherBlocks: its walk. -/
namespace Go.Proofs.YtfhlcondnaahiaaDoor.Ci
open Go.RowKit Sha Aes

theorem made_zeros (n : Nat) : madeCells (Value.int .u8 0).cells (n * 1) = (byteCells (List.replicate n 0)).toArray := by
  apply Array.ext
  · simp [madeCells, byteCells]
  · intro j h1 h2
    simp [madeCells, byteCells, Value.cells, Nat.mod_one]
    rfl
end Go.Proofs.YtfhlcondnaahiaaDoor.Ci
end
section
/- What CipherRounds asks besides: the document's Plus, pour, and Hide of nothing. -/
namespace Go.Proofs.YtfhlcondnaahiaaDoor.Ci
open Go.RowKit Sha Aes

/-- A row of bytes that may be written, its mark behind it. -/
def rowF (w : World) (g : Nat) (l : List UInt8) : Prop := (∀ j, j < l.length → w.cell? ⟨g, j, none⟩ = some (.int .u8 (V (l.getD j 0)))) ∧ (∀ j, j < l.length → w.frozen? ⟨g, j, none⟩ = false)
theorem rowF.set {w : World} {g : Nat} {l : List UInt8} (h : rowF w g l) (i : Nat) (hi : i < l.length) (x : UInt8) : rowF (w.setCell ⟨g, i, none⟩ (.int .u8 (V x))) g (l.set i x) := by
  refine ⟨fun j hj => ?_, fun j hj => ?_⟩
  · rw [List.length_set] at hj
    by_cases e : i = j
    · subst e
      rw [World.cell?_setCell_same (h := h.1 i hi)]
      simp [hi]
    · rw [cell_past (h.1 j hj) i _ (fun he => e he.symm)]
      rw [List.getD_eq_getElem?_getD, List.getD_eq_getElem?_getD, List.getElem?_set, if_neg e]
  · rw [List.length_set] at hj
    rw [World.frozen?_setCell]
    exact h.2 j hj
theorem rowF.bytes {w : World} {g : Nat} {l : List UInt8} (h : rowF w g l) : bytesIn w (some ⟨g, 0, none⟩) l := Or.inr ⟨_, _, rfl, fun j hj => by rw [Nat.zero_add]; exact h.1 j hj⟩
theorem rowF.conv (w : World) (l : List UInt8) : rowF (Lib.bytesWorld w 5 (str l)) w.heap.size l := by
  have hs := str_size l
  refine ⟨fun j hj => ?_, fun j hj => ?_⟩
  · rw [Lib.bytesWorld_cell w 5 (str l) j (by omega)]
    rfl
  · have hn := Lib.bytesWorld_at_new w 5 (str l)
    have hsz : l.length ≤ (Lib.bytesCells w 5 (str l)).size := by
      simp only [Lib.bytesCells, Array.size_append, Array.size_map, Array.size_replicate]
      have : (str l).data.size = l.length := by simp [str]
      omega
    simp only [World.frozen?, hn, Bool.and_eq_false_iff, decide_eq_false_iff_not]
    left
    omega
end Go.Proofs.YtfhlcondnaahiaaDoor.Ci
end
section
/- Hide of whatever comes; pour; a text copied into a block, in a region that draws. -/
namespace Go.Proofs.YtfhlcondnaahiaaDoor.Ci
open Go.RowKit Sha Aes

set_option maxRecDepth 100000 in
set_option maxHeartbeats 2000000 in
theorem hide_empty (fb g : Nat) (ws : List W) (N : List UInt8) (n : Nat) (a : Option Addr) (c : Nat) (ls : List (List UInt8)) (w : World) (hl : ls.length ≤ 100000) (h0 : ls.flatten = [])
    (hf : blockIs w fb (flowCells g N n) 186) (hp : partsB w a ls) :
    Calls Tryd.prog 83 #[.pointer (some ⟨fb, 0, none⟩), .slice a ls.length c] w fun e w' => ∃ v, e = .returned v ∧ ownB w' w.heap.size v (hideL ws N n ls.flatten) ∧ blockIs w' fb (flowCells g N (n + ls.flatten.length)) 186 ∧ But fb w w' := by
  have HC := Lib.hid (concat_any a c ls w hl (by rw [h0]; decide) hp)
  have hz := zeroBlk
  have HF := Lib.hid hf
  rw [h0] at HC ⊢
  have e1 : hideL ws N n [] = [] := rfl
  rw [e1, List.length_nil, Nat.add_zero]
  clear hp hf h0 e1
  generalize ls.length = nl at *
  go_enter Tryd.func83, Tryd.ntmps83
  go_wp2_with fail
  with_reducible refine HC.out.mono ?_
  rintro e w1 ⟨v, rfl, own, kk⟩
  obtain ⟨a', c', rfl, _⟩ := own.form
  have O2 : Hid (ownB (w1.alloc (.cells (zeros 16).toArray 106 (0, 0))) w.heap.size (.slice a' ([] : List UInt8).length c') []) := Lib.hid (World.ownsRow.alloc own _)
  have F2 : Hid (blockIs (w1.alloc (.cells (zeros 16).toArray 106 (0, 0))) fb (flowCells g N n) 186) := Lib.hid ((HF.out.below kk HF.out.lt).alloc _)
  have B2 : Hid (But fb w (w1.alloc (.cells (zeros 16).toArray 106 (0, 0)))) := Lib.hid ((But.of_below kk).trans (But.of_below (alloc_below w1 _)))
  clear own kk HC
  go_wp2_with fail
  generalize w1.alloc (.cells (zeros 16).toArray 106 (0, 0)) = w2 at *
  go_loopw [15] (fun i wr => i = .int .i64 0 ∧ w2 = wr) (fun _ _ => 0)
  case atStart => exact ⟨rfl, rfl⟩
  case round =>
    obtain ⟨rfl, rfl⟩ := hrel
    go_wp2_with fail
    go_ret
    exact ⟨_, rfl, O2.out, F2.out, B2.out⟩
/-- Hide, whatever is handed in. -/
theorem hide_any (fb g : Nat) (ws : List W) (N : List UInt8) (n : Nat) (a : Option Addr) (c : Nat) (ls : List (List UInt8)) (w : World) (hN : N.length = 16) (hn : n ≤ 1099511627776) (hl : ls.length ≤ 100000) (hm : ls.flatten.length ≤ 900000)
    (hf : blockIs w fb (flowCells g N n) 186) (hk : blockIs w g (keyRow ws) 182) (hfg : fb ≠ g) (hp : partsB w a ls) :
    Calls Tryd.prog 83 #[.pointer (some ⟨fb, 0, none⟩), .slice a ls.length c] w fun e w' => ∃ v, e = .returned v ∧ ownB w' w.heap.size v (hideL ws N n ls.flatten) ∧ blockIs w' fb (flowCells g N (n + ls.flatten.length)) 186 ∧ But fb w w' := by
  by_cases h0 : ls.flatten = []
  · exact hide_empty fb g ws N n a c ls w hl h0 hf hp
  · exact hide_some fb g ws N n a c ls w hN hn hl hm h0 hf hk hfg hp
theorem hideL_length (ws : List W) (N : List UInt8) (n : Nat) (l : List UInt8) : (hideL ws N n l).length = l.length := by simp [hideL]
end Go.Proofs.YtfhlcondnaahiaaDoor.Ci
end
