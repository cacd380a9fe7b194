/- (*run).take: bytes more. -/
import Derived.Test.YtaohbpmefcdipaaDoorRun
namespace Go.Proofs.YtaohbpmefcdipaaDoor
open Go.RowKit Sha


theorem size5 : (Tryd.prog.info? 5).map (·.size) = some 1 := by kernel_rfl
def lenOf : Value → Nat | .slice _ n _ => n | _ => 0
theorem runCells_set72 (r : Reg) (s : List UInt8) (n : Nat) (h : s.length = 64) (v : Value) : (runCells r s n).set 72 v = regCells r ++ (byteCells s ++ [v]) := by
  unfold runCells
  rw [List.set_append_right _ _ (by rw [regCells_length]; omega), List.set_append_right _ _ (by rw [byteCells_length, regCells_length]; omega), byteCells_length, regCells_length, h]
  rfl

set_option maxHeartbeats 2000000 in
theorem take_zero (b c : Nat) (a : Option Addr) (pre post : List Value) (T : TypeId) (m l : List UInt8) (w : World) (h0 : m.length % 64 = 0) (hl : l.length ≤ c) (hc : c ≤ 9223372036854775807) (hm : m.length + l.length ≤ 140737488355328)
    (hr : runIs w b pre post T m) (hb : bytesAt w b a l)
    (hk : ∀ j, j < 64 → w.cell? ⟨1, j, none⟩ = some (.int .u32 (U (consts.getD j 0)))) (hbg : b ≠ 1) :
    Calls Tryd.prog 29 #[.pointer (some ⟨b, pre.length, none⟩), .slice a l.length c] w fun e w' => e = .returned (.tuple #[]) ∧ runIs w' b pre post T (m ++ l) ∧ But b w w' := by
  obtain ⟨s, hs, hsm, hr⟩ := hr
  have c1 : w.cell? ⟨b, pre.length + 72, none⟩ = some (.int .i64 (m.length : Int)) := by
    rw [hr.cell, get_mid _ _ _ _ (by rw [runCells_length _ _ _ hs]; omega)]
    unfold runCells
    rw [List.getElem?_append_right (by rw [regCells_length]; omega), List.getElem?_append_right (by rw [byteCells_length, regCells_length]; omega), byteCells_length, regCells_length, hs]
    rfl
  have c2 : w.frozen? ⟨b, pre.length + 72, none⟩ = false := hr.free _
  have e0 : (m.length : Int) % 64 = 0 := by omega
  have p1 : 0 ≤ (m.length : Int) := by omega
  have e1 : IntKind.i64.wrap ((m.length : Int) + l.length) = (m.length : Int) + l.length := IntWalk.i64_in _ (by omega)
  have HR := Lib.hid hr
  have HS := Lib.hid hsm
  have HB := Lib.hid hb
  have HK := Lib.hid hk
  have HS2 := Lib.hid hs
  clear hr hsm hb hk hs
  go_enter Tryd.func29, Tryd.ntmps29
  go_wp2_with fail
  have F1 : Hid (blockIs (w.setCell ⟨b, pre.length + 72, none⟩ (.int .i64 ((m.length : Int) + l.length))) b (runRow pre post (regAfter (m ++ [])) s (.int .i64 ((m.length : Int) + l.length))) T) := Lib.hid (by
    have := HR.out.set (pre.length + 72) (.int .i64 ((m.length : Int) + l.length))
    rw [set_mid _ _ _ _ (by rw [runCells_length _ _ _ HS2.out]; omega), runCells_set72 _ _ _ HS2.out, List.append_assoc] at this
    rwa [List.append_nil])
  have F2 : Hid (But b w (w.setCell ⟨b, pre.length + 72, none⟩ (.int .i64 ((m.length : Int) + l.length)))) := Lib.hid ((But.refl b w).setCell _ _ (Or.inl rfl))
  generalize w.setCell ⟨b, pre.length + 72, none⟩ (.int .i64 ((m.length : Int) + l.length)) = w1 at *
  clear HR HS c1 c2 e1 e0
  go_loopw [1] (fun v wr => ∃ (y d s : List UInt8) (a : Option Addr) (c : Nat), l = y ++ d ∧ (m ++ y).length % 64 = 0 ∧ v = .slice a d.length c ∧ d.length ≤ c ∧ c ≤ 9223372036854775807 ∧ bytesAt wr b a d ∧ s.length = 64 ∧ blockIs wr b (runRow pre post (regAfter (m ++ y)) s (.int .i64 ((m.length : Int) + l.length))) T ∧ But b w wr) (fun v _ => lenOf v)
  case atStart => exact ⟨[], l, s, a, c, rfl, by rw [List.append_nil]; exact h0, rfl, hl, hc, HB.out.but F2.out, HS2.out, F1.out, F2.out⟩
  case round =>
    clear HB F1 F2 HS2 hl hc
    obtain ⟨y, d, s, a, c, hyd, hy, rfl, hdc, hc, hb, hs, hr, hbut⟩ := hrel
    by_cases hlt : 64 ≤ d.length
    · rcases hb with rfl | ⟨bb, bo, rfl, hbb, hb⟩
      · simp at hlt
      have HYD := Lib.hid hyd
      have HY := Lib.hid hy
      have HB := Lib.hid hb
      have HS := Lib.hid hs
      have HR := Lib.hid hr
      have HBUT := Lib.hid hbut
      clear hyd hy hb hs hr hbut
      go_wp2_with fail
      refine (work_any b bb bo d.length c pre _ T _ d wr hlt (by omega) (fun j hj => HB.out j (by omega)) (block_lt_of_cell (HB.out 0 (by omega))) HR.out (fun j hj => HBUT.out.cell (HK.out j hj) (Ne.symm hbg)) (Nat.lt_of_lt_of_le (block_lt_of_cell (HK.out 0 (by omega))) HBUT.out.size) hbg).mono ?_
      rintro e w2 ⟨rfl, h1, h2⟩
      have H1 := Lib.hid h1
      have H2 := Lib.hid h2
      clear h1 h2
      go_wp2_with fail
      go_roundw
      case rel =>
        have hyl := HY.out
        refine ⟨y ++ d.take 64, d.drop 64, s, _, c - 64, ?_, ?_, ?_, ?_, ?_, (bytesAt_rest hbb HB.out c 64 hlt hdc).but H2.out, HS.out, ?_, HBUT.out.trans H2.out⟩
        · rw [HYD.out, List.append_assoc, List.take_append_drop]
        · have := HY.out; simp only [List.length_append, List.length_take] at this ⊢; omega
        · rw [List.length_drop]
        · rw [List.length_drop]; omega
        · omega
        · rw [← List.append_assoc m, regAfter_whole _ _ hyl hlt]
          exact H1.out
      case measure => simp [lenOf]; omega
    · have HYD := Lib.hid hyd
      have HY := Lib.hid hy
      have HB := Lib.hid hb
      have HS := Lib.hid hs
      have HR := Lib.hid hr
      have HBUT := Lib.hid hbut
      clear hyd hy hb hs hr hbut
      go_wp2_with (refine wpList_copy_but rfl _ _ 22 22 rfl 5 Tryd.underlying22 size5 _ _ _ _ _ _ rfl rfl b (pre.length + 8) _ T HR.out (byteCells d) ?c1 ?c2 ?c3 ?c4 ?_)
      case c1 => rw [byteCells_length]; simp [Nat.min_def]; omega
      case c2 => exact fun h => HB.out.all h
      case c3 => rw [byteCells_length, runRow_length _ _ _ _ _ HS.out]; omega
      case c4 => exact byteCells_one _
      intro w2 h1 h2 _
      go_wp2_with fail
      go_end0
      refine ⟨rfl, ?_, HBUT.out.trans h2.out⟩
      have h1 := h1.out
      rw [show pre.length + 8 = pre.length + 8 + 0 from rfl, splice_run _ _ _ _ _ _ _ HS.out (by omega)] at h1
      exact runIs_of HYD.out HY.out (by omega) HS.out h1

set_option maxHeartbeats 2000000 in
theorem take_short (b c h : Nat) (a : Option Addr) (pre post : List Value) (T : TypeId) (m l : List UInt8) (w : World) (h0 : m.length % 64 = h) (hpos : 0 < h) (hshort : h + l.length < 64) (hl : l.length ≤ c) (hc : c ≤ 9223372036854775807) (hm : m.length + l.length ≤ 140737488355328)
    (hr : runIs w b pre post T m) (hb : bytesAt w b a l) :
    Calls Tryd.prog 29 #[.pointer (some ⟨b, pre.length, none⟩), .slice a l.length c] w fun e w' => e = .returned (.tuple #[]) ∧ runIs w' b pre post T (m ++ l) ∧ But b w w' := by
  obtain ⟨s, hs, hsm, hr⟩ := hr
  have c1 : w.cell? ⟨b, pre.length + 72, none⟩ = some (.int .i64 (m.length : Int)) := by
    rw [hr.cell, get_mid _ _ _ _ (by rw [runCells_length _ _ _ hs]; omega)]
    unfold runCells
    rw [List.getElem?_append_right (by rw [regCells_length]; omega), List.getElem?_append_right (by rw [byteCells_length, regCells_length]; omega), byteCells_length, regCells_length, hs]
    rfl
  have c2 : w.frozen? ⟨b, pre.length + 72, none⟩ = false := hr.free _
  have e0 : (m.length : Int) % 64 = (h : Int) := by omega
  have p1 : 0 ≤ (m.length : Int) := by omega
  have p2 : 0 < (h : Int) := by omega
  have p3 : (h : Int) ≤ 64 := by omega
  have p4 : 0 ≤ (h : Int) := by omega
  have p5 : ¬ 64 = h := by omega
  have e1 : IntKind.i64.wrap ((m.length : Int) + l.length) = (m.length : Int) + l.length := IntWalk.i64_in _ (by omega)
  have hbl : (byteCells l).length = l.length := byteCells_length l
  have q1 : (h : Int) + (l.length : Int) < 64 := by omega
  have q2 : (m.length : Int) % 64 + (l.length : Int) < 64 := by omega
  have HR := Lib.hid hr
  have HS := Lib.hid hsm
  have HB := Lib.hid hb
  have HS2 := Lib.hid hs
  clear hr hsm hb hs
  have F1 : Hid (blockIs (w.setCell ⟨b, pre.length + 72, none⟩ (.int .i64 ((m.length : Int) + l.length))) b (runRow pre post (regAfter m) s (.int .i64 ((m.length : Int) + l.length))) T) := Lib.hid (by
    have := HR.out.set (pre.length + 72) (.int .i64 ((m.length : Int) + l.length))
    rw [set_mid _ _ _ _ (by rw [runCells_length _ _ _ HS2.out]; omega), runCells_set72 _ _ _ HS2.out, List.append_assoc] at this
    exact this)
  have F2 : Hid (But b w (w.setCell ⟨b, pre.length + 72, none⟩ (.int .i64 ((m.length : Int) + l.length)))) := Lib.hid ((But.refl b w).setCell _ _ (Or.inl rfl))
  have H0 := Lib.hid h0
  clear h0
  go_enter Tryd.func29, Tryd.ntmps29
  go_wp2_with (refine wpList_copy_but rfl _ _ 22 22 rfl 5 Tryd.underlying22 size5 _ _ _ _ _ _ rfl rfl b (pre.length + 8 + h) _ T F1.out (byteCells l) ?c1 ?c2 ?c3 ?c4 ?_)
  case c1 => rw [byteCells_length]; simp [Nat.min_def]; omega
  case c2 => exact fun h => (HB.out.but F2.out).all (by rw [hbl]; exact h)
  case c3 => rw [byteCells_length, runRow_length _ _ _ _ _ HS2.out]; omega
  case c4 => exact byteCells_one _
  intro w2 h1 h2 _
  have H1 := Lib.hid h1.out
  have H2 := Lib.hid h2.out
  clear h1 h2 c1 c2 e1 e0
  go_wp2_with fail
  refine bodyPost_ret (v := .tuple #[]) (results_none rfl _ _ _) rfl ?_
  refine ⟨rfl, ?_, F2.out.trans H2.out⟩
  have h1 := H1.out
  rw [splice_run _ _ _ _ _ _ _ HS2.out (by omega)] at h1
  have hlen : (m ++ l).length = m.length + l.length := by simp only [List.length_append]
  have hmod : (m ++ l).length % 64 = h + l.length := by have := H0.out; omega
  refine ⟨splice s h l, splice_len _ _ _ HS2.out (by omega), ?_, ?_⟩
  · have hs0 := HS.out
    rw [H0.out] at hs0
    rw [hmod, hlen, show m.length + l.length - (h + l.length) = m.length - h by omega, List.drop_append_of_le_length (by omega), ← hs0]
    unfold splice
    rw [← List.append_assoc, List.take_append_of_le_length (by simp [HS2.out]; omega)]
    apply List.take_of_length_le
    simp [HS2.out]
    omega
  · rw [regAfter_short _ _ (by have := H0.out; omega)]
    unfold runCells
    rw [List.append_assoc, hlen, Int.natCast_add]
    exact h1

set_option maxHeartbeats 2000000 in
theorem take_long (b c h g : Nat) (hcg : ¬ c = g) (a : Option Addr) (pre post : List Value) (T : TypeId) (m l : List UInt8) (w : World) (h0 : m.length % 64 = h) (hpos : 0 < h) (hg : h + g = 64) (hlong : g ≤ l.length) (hl : l.length ≤ c) (hc : c ≤ 9223372036854775807) (hm : m.length + l.length ≤ 140737488355328)
    (hr : runIs w b pre post T m) (hb : bytesAt w b a l)
    (hk : ∀ j, j < 64 → w.cell? ⟨1, j, none⟩ = some (.int .u32 (U (consts.getD j 0)))) (hbg : b ≠ 1) :
    Calls Tryd.prog 29 #[.pointer (some ⟨b, pre.length, none⟩), .slice a l.length c] w fun e w' => e = .returned (.tuple #[]) ∧ runIs w' b pre post T (m ++ l) ∧ But b w w' := by
  rcases hb with rfl | ⟨bb, bo, rfl, hbb, hb⟩
  · simp at hlong; omega
  obtain ⟨s, hs, hsm, hr⟩ := hr
  have c1 : w.cell? ⟨b, pre.length + 72, none⟩ = some (.int .i64 (m.length : Int)) := by
    rw [hr.cell, get_mid _ _ _ _ (by rw [runCells_length _ _ _ hs]; omega)]
    unfold runCells
    rw [List.getElem?_append_right (by rw [regCells_length]; omega), List.getElem?_append_right (by rw [byteCells_length, regCells_length]; omega), byteCells_length, regCells_length, hs]
    rfl
  have c2 : w.frozen? ⟨b, pre.length + 72, none⟩ = false := hr.free _
  have e0 : (m.length : Int) % 64 = (h : Int) := by omega
  have p1 : 0 ≤ (m.length : Int) := by omega
  have p2 : 0 < (h : Int) := by omega
  have p3 : (h : Int) ≤ 64 := by omega
  have p4 : 0 ≤ (h : Int) := by omega
  have p5 : ¬ 64 = h := by omega
  have p6 : 0 ≤ (g : Int) := by omega
  have p7 : (g : Int) ≤ (l.length : Int) := by omega
  have e1 : IntKind.i64.wrap ((m.length : Int) + l.length) = (m.length : Int) + l.length := IntWalk.i64_in _ (by omega)
  have hbl : (byteCells (l.take g)).length = g := by rw [byteCells_length, List.length_take]; omega
  have q1 : ¬ (h : Int) + (g : Int) < 64 := by omega
  have q2 : ¬ (m.length : Int) % 64 + (g : Int) < 64 := by omega
  have HR := Lib.hid hr
  have HS := Lib.hid hsm
  have HB := Lib.hid hb
  have HK := Lib.hid hk
  have HS2 := Lib.hid hs
  clear hr hsm hb hk hs
  have F1 : Hid (blockIs (w.setCell ⟨b, pre.length + 72, none⟩ (.int .i64 ((m.length : Int) + l.length))) b (runRow pre post (regAfter m) s (.int .i64 ((m.length : Int) + l.length))) T) := Lib.hid (by
    have := HR.out.set (pre.length + 72) (.int .i64 ((m.length : Int) + l.length))
    rw [set_mid _ _ _ _ (by rw [runCells_length _ _ _ HS2.out]; omega), runCells_set72 _ _ _ HS2.out, List.append_assoc] at this
    exact this)
  have F2 : Hid (But b w (w.setCell ⟨b, pre.length + 72, none⟩ (.int .i64 ((m.length : Int) + l.length)))) := Lib.hid ((But.refl b w).setCell _ _ (Or.inl rfl))
  have H0 := Lib.hid h0
  have hbA : bytesAt w b (some ⟨bb, bo, none⟩) l := Or.inr ⟨bb, bo, rfl, hbb, HB.out⟩
  have HBA := Lib.hid hbA
  clear hbA
  have HG := Lib.hid hg
  clear h0 hg
  go_enter Tryd.func29, Tryd.ntmps29
  go_wp2_with (refine wpList_copy_but rfl _ _ 22 22 rfl 5 Tryd.underlying22 size5 _ _ _ _ _ _ rfl rfl b (pre.length + 8 + h) _ T F1.out (byteCells (l.take g)) ?c1 ?c2 ?c3 ?c4 ?_)
  case c1 => show g = min l.length (64 - h); have := HG.out; omega
  case c2 => exact fun h => by simpa [Addr.add_lit] using HBA.out.cells g (by rw [hbl]; exact h)
  case c3 => rw [runRow_length _ _ _ _ _ HS2.out]; have := HG.out; omega
  case c4 => exact byteCells_one _
  intro w2 h1 h2 h3
  have h1 := h1.out
  rw [splice_run _ _ _ _ _ _ _ HS2.out (by rw [List.length_take]; have := HG.out; omega)] at h1
  have HS3 : Hid ((splice s h (l.take g)).length = 64) := Lib.hid (splice_len _ _ _ HS2.out (by rw [List.length_take]; have := HG.out; omega))
  have HS4 : Hid (splice s h (l.take g) = m.drop (m.length - m.length % 64) ++ l.take g) := Lib.hid (by
    have hs0 := HS.out
    have := HG.out
    rw [← hs0, H0.out]
    unfold splice
    rw [List.drop_of_length_le (by rw [List.length_take, HS2.out]; omega), List.append_nil])
  generalize splice s h (l.take g) = s2 at *
  have H1 := Lib.hid h1
  have H2 := Lib.hid (F2.out.trans h2.out)
  clear h1 h2 h3 F1 HR c1 c2 e1 e0
  go_wp2_with fail
  have hc2 : ∀ j, j < 64 → w2.cell? ⟨b, pre.length + 8 + j, none⟩ = some (.int .u8 (V (s2.getD j 0))) := by
    intro j hj
    have := H1.out.cell (pre.length + 8 + j)
    rw [this]
    unfold runRow
    rw [List.getElem?_append_right (by omega), List.getElem?_append_right (by rw [regCells_length]; omega), List.append_assoc, List.getElem?_append_left (by rw [byteCells_length, HS3.out, regCells_length]; omega), regCells_length, show pre.length + 8 + j - pre.length - 8 = j by omega]
    exact byteCells_get _ _ (by rw [HS3.out]; omega)
  refine (work_any b b (pre.length + 8) 64 64 pre _ T _ s2 w2 (by omega) (by omega) hc2 H1.out.lt H1.out (fun j hj => H2.out.cell (HK.out j hj) (Ne.symm hbg)) (Nat.lt_of_lt_of_le (block_lt_of_cell (HK.out 0 (by omega))) H2.out.size) hbg).mono ?_
  clear hc2
  rintro e w3 ⟨rfl, h1, h2⟩
  have G1 : Hid (blockIs w3 b (runRow pre post (regAfter (m ++ l.take g)) s2 (.int .i64 ((m.length : Int) + l.length))) T) := Lib.hid (by
    rw [regAfter_block m (l.take g) s2 (by rw [List.length_take, H0.out]; have := HG.out; omega) (by rw [List.take_of_length_le (by rw [HS3.out]; omega)]; exact HS4.out)]
    exact h1)
  have G2 := Lib.hid (H2.out.trans h2)
  clear h1 h2 H1 H2 HS4 HS HS2
  go_wp2_with fail
  go_loopw [1] (fun v wr => ∃ (y d s : List UInt8) (a : Option Addr) (c : Nat), l = y ++ d ∧ (m ++ y).length % 64 = 0 ∧ v = .slice a d.length c ∧ d.length ≤ c ∧ c ≤ 9223372036854775807 ∧ bytesAt wr b a d ∧ s.length = 64 ∧ blockIs wr b (runRow pre post (regAfter (m ++ y)) s (.int .i64 ((m.length : Int) + l.length))) T ∧ But b w wr) (fun v _ => lenOf v)
  case atStart =>
    refine ⟨l.take g, l.drop g, s2, some ⟨bb, bo + g, none⟩, c - g, by rw [List.take_append_drop], ?_, by rw [List.length_drop], by rw [List.length_drop]; omega, by omega, by have hx := (bytesAt_rest hbb HB.out c g hlong hl).but G2.out; rwa [if_neg hcg] at hx, HS3.out, G1.out, G2.out⟩
    rw [List.length_append, List.length_take]
    have := H0.out
    have := HG.out
    omega
  case round =>
    clear HB G1 G2 HS3 hl hc
    obtain ⟨y, d, s, a, c, hyd, hy, rfl, hdc, hc, hb, hs, hr, hbut⟩ := hrel
    by_cases hlt : 64 ≤ d.length
    · rcases hb with rfl | ⟨bb, bo, rfl, hbb, hb⟩
      · simp at hlt
      have HYD := Lib.hid hyd
      have HY := Lib.hid hy
      have HB := Lib.hid hb
      have HS := Lib.hid hs
      have HR := Lib.hid hr
      have HBUT := Lib.hid hbut
      clear hyd hy hb hs hr hbut
      go_wp2_with fail
      refine (work_any b bb bo d.length c pre _ T _ d wr hlt (by omega) (fun j hj => HB.out j (by omega)) (block_lt_of_cell (HB.out 0 (by omega))) HR.out (fun j hj => HBUT.out.cell (HK.out j hj) (Ne.symm hbg)) (Nat.lt_of_lt_of_le (block_lt_of_cell (HK.out 0 (by omega))) HBUT.out.size) hbg).mono ?_
      rintro e w2 ⟨rfl, h1, h2⟩
      have H1 := Lib.hid h1
      have H2 := Lib.hid h2
      clear h1 h2
      go_wp2_with fail
      go_roundw
      case rel =>
        have hyl := HY.out
        refine ⟨y ++ d.take 64, d.drop 64, s, _, c - 64, ?_, ?_, ?_, ?_, ?_, (bytesAt_rest hbb HB.out c 64 hlt hdc).but H2.out, HS.out, ?_, HBUT.out.trans H2.out⟩
        · rw [HYD.out, List.append_assoc, List.take_append_drop]
        · have := HY.out; simp only [List.length_append, List.length_take] at this ⊢; omega
        · rw [List.length_drop]
        · rw [List.length_drop]; omega
        · omega
        · rw [← List.append_assoc m, regAfter_whole _ _ hyl hlt]
          exact H1.out
      case measure => simp [lenOf]; omega
    · have HYD := Lib.hid hyd
      have HY := Lib.hid hy
      have HB := Lib.hid hb
      have HS := Lib.hid hs
      have HR := Lib.hid hr
      have HBUT := Lib.hid hbut
      clear hyd hy hb hs hr hbut
      go_wp2_with (refine wpList_copy_but rfl _ _ 22 22 rfl 5 Tryd.underlying22 size5 _ _ _ _ _ _ rfl rfl b (pre.length + 8) _ T HR.out (byteCells d) ?c1 ?c2 ?c3 ?c4 ?_)
      case c1 => rw [byteCells_length]; simp [Nat.min_def]; omega
      case c2 => exact fun h => HB.out.all h
      case c3 => rw [byteCells_length, runRow_length _ _ _ _ _ HS.out]; omega
      case c4 => exact byteCells_one _
      intro w2 h1 h2 _
      go_wp2_with fail
      go_end0
      refine ⟨rfl, ?_, HBUT.out.trans h2.out⟩
      have h1 := h1.out
      rw [show pre.length + 8 = pre.length + 8 + 0 from rfl, splice_run _ _ _ _ _ _ _ HS.out (by omega)] at h1
      exact runIs_of HYD.out HY.out (by omega) HS.out h1

set_option maxHeartbeats 2000000 in
theorem take_exact (b h : Nat) (a : Option Addr) (pre post : List Value) (T : TypeId) (m l : List UInt8) (w : World) (h0 : m.length % 64 = h) (hpos : 0 < h) (hg : h + l.length = 64) (hm : m.length + l.length ≤ 140737488355328)
    (hr : runIs w b pre post T m) (hb : bytesAt w b a l)
    (hk : ∀ j, j < 64 → w.cell? ⟨1, j, none⟩ = some (.int .u32 (U (consts.getD j 0)))) (hbg : b ≠ 1) :
    Calls Tryd.prog 29 #[.pointer (some ⟨b, pre.length, none⟩), .slice a l.length l.length] w fun e w' => e = .returned (.tuple #[]) ∧ runIs w' b pre post T (m ++ l) ∧ But b w w' := by
  rcases hb with rfl | ⟨bb, bo, rfl, hbb, hb⟩
  · simp at hg; omega
  obtain ⟨s, hs, hsm, hr⟩ := hr
  have c1 : w.cell? ⟨b, pre.length + 72, none⟩ = some (.int .i64 (m.length : Int)) := by
    rw [hr.cell, get_mid _ _ _ _ (by rw [runCells_length _ _ _ hs]; omega)]
    unfold runCells
    rw [List.getElem?_append_right (by rw [regCells_length]; omega), List.getElem?_append_right (by rw [byteCells_length, regCells_length]; omega), byteCells_length, regCells_length, hs]
    rfl
  have c2 : w.frozen? ⟨b, pre.length + 72, none⟩ = false := hr.free _
  have e0 : (m.length : Int) % 64 = (h : Int) := by omega
  have p1 : 0 ≤ (m.length : Int) := by omega
  have p2 : 0 < (h : Int) := by omega
  have p3 : (h : Int) ≤ 64 := by omega
  have p4 : 0 ≤ (h : Int) := by omega
  have p5 : ¬ 64 = h := by omega
  have p8 : (l.length : Int) ≤ 64 := by omega
  have p6 : 0 ≤ (l.length : Int) := by omega
  have e1 : IntKind.i64.wrap ((m.length : Int) + l.length) = (m.length : Int) + l.length := IntWalk.i64_in _ (by omega)
  have hbl : (byteCells l).length = l.length := byteCells_length l
  have q1 : ¬ (h : Int) + (l.length : Int) < 64 := by omega
  have q2 : ¬ (m.length : Int) % 64 + (l.length : Int) < 64 := by omega
  have HR := Lib.hid hr
  have HS := Lib.hid hsm
  have HB := Lib.hid hb
  have HK := Lib.hid hk
  have HS2 := Lib.hid hs
  clear hr hsm hb hk hs
  have F1 : Hid (blockIs (w.setCell ⟨b, pre.length + 72, none⟩ (.int .i64 ((m.length : Int) + l.length))) b (runRow pre post (regAfter m) s (.int .i64 ((m.length : Int) + l.length))) T) := Lib.hid (by
    have := HR.out.set (pre.length + 72) (.int .i64 ((m.length : Int) + l.length))
    rw [set_mid _ _ _ _ (by rw [runCells_length _ _ _ HS2.out]; omega), runCells_set72 _ _ _ HS2.out, List.append_assoc] at this
    exact this)
  have F2 : Hid (But b w (w.setCell ⟨b, pre.length + 72, none⟩ (.int .i64 ((m.length : Int) + l.length)))) := Lib.hid ((But.refl b w).setCell _ _ (Or.inl rfl))
  have H0 := Lib.hid h0
  have hbA : bytesAt w b (some ⟨bb, bo, none⟩) l := Or.inr ⟨bb, bo, rfl, hbb, HB.out⟩
  have HBA := Lib.hid hbA
  clear hbA
  have HG := Lib.hid hg
  clear h0 hg
  go_enter Tryd.func29, Tryd.ntmps29
  go_wp2_with (refine wpList_copy_but rfl _ _ 22 22 rfl 5 Tryd.underlying22 size5 _ _ _ _ _ _ rfl rfl b (pre.length + 8 + h) _ T F1.out (byteCells l) ?c1 ?c2 ?c3 ?c4 ?_)
  case c1 => show l.length = min l.length (64 - h); have := HG.out; omega
  case c2 => exact fun h => by simpa [Addr.add_lit] using HBA.out.all (by rw [hbl]; exact h)
  case c3 => rw [runRow_length _ _ _ _ _ HS2.out]; have := HG.out; omega
  case c4 => exact byteCells_one _
  intro w2 h1 h2 h3
  have h1 := h1.out
  rw [splice_run _ _ _ _ _ _ _ HS2.out (by have := HG.out; omega)] at h1
  have HS3 : Hid ((splice s h l).length = 64) := Lib.hid (splice_len _ _ _ HS2.out (by have := HG.out; omega))
  have HS4 : Hid (splice s h l = m.drop (m.length - m.length % 64) ++ l) := Lib.hid (by
    have hs0 := HS.out
    have := HG.out
    rw [← hs0, H0.out]
    unfold splice
    rw [List.drop_of_length_le (by rw [HS2.out]; omega), List.append_nil])
  generalize splice s h l = s2 at *
  have H1 := Lib.hid h1
  have H2 := Lib.hid (F2.out.trans h2.out)
  clear h1 h2 h3 F1 HR c1 c2 e1 e0
  go_wp2_with fail
  have hc2 : ∀ j, j < 64 → w2.cell? ⟨b, pre.length + 8 + j, none⟩ = some (.int .u8 (V (s2.getD j 0))) := by
    intro j hj
    have := H1.out.cell (pre.length + 8 + j)
    rw [this]
    unfold runRow
    rw [List.getElem?_append_right (by omega), List.getElem?_append_right (by rw [regCells_length]; omega), List.append_assoc, List.getElem?_append_left (by rw [byteCells_length, HS3.out, regCells_length]; omega), regCells_length, show pre.length + 8 + j - pre.length - 8 = j by omega]
    exact byteCells_get _ _ (by rw [HS3.out]; omega)
  refine (work_any b b (pre.length + 8) 64 64 pre _ T _ s2 w2 (by omega) (by omega) hc2 H1.out.lt H1.out (fun j hj => H2.out.cell (HK.out j hj) (Ne.symm hbg)) (Nat.lt_of_lt_of_le (block_lt_of_cell (HK.out 0 (by omega))) H2.out.size) hbg).mono ?_
  clear hc2
  rintro e w3 ⟨rfl, h1, h2⟩
  have G1 : Hid (blockIs w3 b (runRow pre post (regAfter (m ++ l)) s2 (.int .i64 ((m.length : Int) + l.length))) T) := Lib.hid (by
    rw [regAfter_block m (l) s2 (by rw [H0.out]; have := HG.out; omega) (by rw [List.take_of_length_le (by rw [HS3.out]; omega)]; exact HS4.out)]
    exact h1)
  have G2 := Lib.hid (H2.out.trans h2)
  clear h1 h2 H1 H2 HS4 HS HS2
  go_wp2_with fail
  go_loopw [1] (fun v wr => ∃ (y d s : List UInt8) (a : Option Addr) (c : Nat), l = y ++ d ∧ (m ++ y).length % 64 = 0 ∧ v = .slice a d.length c ∧ d.length ≤ c ∧ c ≤ 9223372036854775807 ∧ bytesAt wr b a d ∧ s.length = 64 ∧ blockIs wr b (runRow pre post (regAfter (m ++ y)) s (.int .i64 ((m.length : Int) + l.length))) T ∧ But b w wr) (fun v _ => lenOf v)
  case atStart =>
    refine ⟨l, [], s2, some ⟨bb, bo, none⟩, 0, by simp, ?_, rfl, by simp, by omega, Or.inl rfl, HS3.out, G1.out, G2.out⟩
    rw [List.length_append]
    have := H0.out
    have := HG.out
    omega
  case round =>
    clear HB G1 G2 HS3
    obtain ⟨y, d, s, a, c, hyd, hy, rfl, hdc, hc, hb, hs, hr, hbut⟩ := hrel
    by_cases hlt : 64 ≤ d.length
    · rcases hb with rfl | ⟨bb, bo, rfl, hbb, hb⟩
      · simp at hlt
      have HYD := Lib.hid hyd
      have HY := Lib.hid hy
      have HB := Lib.hid hb
      have HS := Lib.hid hs
      have HR := Lib.hid hr
      have HBUT := Lib.hid hbut
      clear hyd hy hb hs hr hbut
      go_wp2_with fail
      refine (work_any b bb bo d.length c pre _ T _ d wr hlt (by omega) (fun j hj => HB.out j (by omega)) (block_lt_of_cell (HB.out 0 (by omega))) HR.out (fun j hj => HBUT.out.cell (HK.out j hj) (Ne.symm hbg)) (Nat.lt_of_lt_of_le (block_lt_of_cell (HK.out 0 (by omega))) HBUT.out.size) hbg).mono ?_
      rintro e w2 ⟨rfl, h1, h2⟩
      have H1 := Lib.hid h1
      have H2 := Lib.hid h2
      clear h1 h2
      go_wp2_with fail
      go_roundw
      case rel =>
        have hyl := HY.out
        refine ⟨y ++ d.take 64, d.drop 64, s, _, c - 64, ?_, ?_, ?_, ?_, ?_, (bytesAt_rest hbb HB.out c 64 hlt hdc).but H2.out, HS.out, ?_, HBUT.out.trans H2.out⟩
        · rw [HYD.out, List.append_assoc, List.take_append_drop]
        · have := HY.out; simp only [List.length_append, List.length_take] at this ⊢; omega
        · rw [List.length_drop]
        · rw [List.length_drop]; omega
        · omega
        · rw [← List.append_assoc m, regAfter_whole _ _ hyl hlt]
          exact H1.out
      case measure => simp [lenOf]; omega
    · have HYD := Lib.hid hyd
      have HY := Lib.hid hy
      have HB := Lib.hid hb
      have HS := Lib.hid hs
      have HR := Lib.hid hr
      have HBUT := Lib.hid hbut
      clear hyd hy hb hs hr hbut
      go_wp2_with (refine wpList_copy_but rfl _ _ 22 22 rfl 5 Tryd.underlying22 size5 _ _ _ _ _ _ rfl rfl b (pre.length + 8) _ T HR.out (byteCells d) ?c1 ?c2 ?c3 ?c4 ?_)
      case c1 => rw [byteCells_length]; simp [Nat.min_def]; omega
      case c2 => exact fun h => HB.out.all h
      case c3 => rw [byteCells_length, runRow_length _ _ _ _ _ HS.out]; omega
      case c4 => exact byteCells_one _
      intro w2 h1 h2 _
      go_wp2_with fail
      go_end0
      refine ⟨rfl, ?_, HBUT.out.trans h2.out⟩
      have h1 := h1.out
      rw [show pre.length + 8 = pre.length + 8 + 0 from rfl, splice_run _ _ _ _ _ _ _ HS.out (by omega)] at h1
      exact runIs_of HYD.out HY.out (by omega) HS.out h1

/-- take: bytes more, whatever they are. -/
theorem take_any (b c : Nat) (a : Option Addr) (pre post : List Value) (T : TypeId) (m l : List UInt8) (w : World) (hl : l.length ≤ c) (hc : c ≤ 9223372036854775807) (hm : m.length + l.length ≤ 140737488355328)
    (hr : runIs w b pre post T m) (hb : bytesAt w b a l)
    (hk : ∀ j, j < 64 → w.cell? ⟨1, j, none⟩ = some (.int .u32 (U (consts.getD j 0)))) (hbg : b ≠ 1) :
    Calls Tryd.prog 29 #[.pointer (some ⟨b, pre.length, none⟩), .slice a l.length c] w fun e w' => e = .returned (.tuple #[]) ∧ runIs w' b pre post T (m ++ l) ∧ But b w w' := by
  by_cases h0 : m.length % 64 = 0
  · exact take_zero b c a pre post T m l w h0 hl hc hm hr hb hk hbg
  · by_cases h1 : m.length % 64 + l.length < 64
    · exact take_short b c _ a pre post T m l w rfl (by omega) h1 hl hc hm hr hb
    · by_cases h2 : c = 64 - m.length % 64
      · obtain rfl : c = l.length := by omega
        exact take_exact b _ a pre post T m l w rfl (by omega) (by omega) hm hr hb hk hbg
      · exact take_long b c _ (64 - m.length % 64) h2 a pre post T m l w rfl (by omega) (by omega) (by omega) hl hc hm hr hb hk hbg

end Go.Proofs.YtaohbpmefcdipaaDoor
