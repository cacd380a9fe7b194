/- Tapes, in plain words; a tape in memory; cell.Tape.row. -/
import Derived.Test.YtfhlcondnaahiaaDoorGg
import Derived.Test.YtfhlcondnaahiaaDoorHa
import Derived.Test.YtfhlcondnaahiaaDoorTk
import Derived.Laws.CopyOwn
section
namespace Go.Proofs.YtfhlcondnaahiaaDoor
open Go.RowKit Sha

/-- A count's eight bytes, the highest first. -/
def beB (c k : Nat) : UInt8 := UInt8.ofNat (c / 2 ^ (8 * (7 - k)))
def be8 (c : Nat) : List UInt8 := (List.range 8).map (beB c)
theorem be8_length (c : Nat) : (be8 c).length = 8 := by simp [be8]
/-- A tape's row, and its bytes from a place on. -/
def trow (b : List UInt8) (c : Nat) : List UInt8 := sha (b ++ be8 c)
theorem trow_length (b : List UInt8) (c : Nat) : (trow b c).length = 32 := sha_length _
def tbytes (b : List UInt8) (at_ n : Nat) : List UInt8 := (List.range n).map fun i => (trow b ((at_ + i) / 32)).getD ((at_ + i) % 32) 0
theorem tbytes_length (b : List UInt8) (at_ n : Nat) : (tbytes b at_ n).length = n := by simp [tbytes]
theorem tbytes_append (b : List UInt8) (at_ n m : Nat) : tbytes b at_ n ++ tbytes b (at_ + n) m = tbytes b at_ (n + m) := by
  unfold tbytes
  rw [List.range_add, List.map_append, List.map_map]
  congr 1
  apply List.map_congr_left
  intro i _
  simp [Nat.add_assoc]
theorem tbytes_row (b : List UInt8) (t r : Nat) (h : t % 32 + r ≤ 32) : ((trow b (t / 32)).drop (t % 32)).take r = tbytes b t r := by
  apply List.ext_getElem
  · rw [List.length_take, List.length_drop, trow_length, tbytes_length]; omega
  · intro i h1 h2
    rw [tbytes_length] at h2
    have e1 : (t + i) / 32 = t / 32 := by omega
    have e2 : (t + i) % 32 = t % 32 + i := by omega
    simp only [tbytes, List.getElem_take, List.getElem_drop, List.getElem_map, List.getElem_range, e1, e2]
    rw [List.getD_eq_getElem?_getD, List.getElem?_eq_getElem (by rw [trow_length]; omega)]
    rfl
/-- A tape in memory. -/
structure tapeAt (X : World) (tb : Nat) (fa : Option Addr) (fc : Nat) (F : List UInt8) (told : Nat) : Prop where
  is : blockIs X tb [.slice fa F.length fc, .int .i64 (told : Int)] 118
  row : bytesIn X fa F
  apart : ∀ x, fa = some x → x.block ≠ tb
  len : F.length ≤ 400
  cap : F.length ≤ fc
  most : fc ≤ 9223372036854775807
theorem tapeAt.below {X Y : World} {tb : Nat} {fa : Option Addr} {fc : Nat} {F : List UInt8} {told : Nat} (h : tapeAt X tb fa fc F told) (k : Below X.heap.size X Y) : tapeAt Y tb fa fc F told :=
  ⟨h.is.below k h.is.lt, h.row.below k, h.apart, h.len, h.cap, h.most⟩
theorem zero8 (w : World) : (zeroValue 189).run Tryd.prog w = .ok (.agg (cells8 (fun _ => 0) 8).toArray) w := by kernel_rfl
def beF (c k j : Nat) : UInt8 := if j < k then beB c j else 0
theorem beF_zero (c : Nat) : (fun _ => 0) = beF c 0 := by
  funext j
  unfold beF
  rw [if_neg (by omega)]
theorem beF_succ (c k : Nat) (h : k < 8) : (cells8 (beF c k) 8).set k (.int .u8 (V (beB c k))) = cells8 (beF c (k + 1)) 8 := by
  rw [cells8_set _ _ _ h]
  congr 1
  funext j
  unfold beF
  by_cases e : j = k
  · rw [if_pos e, if_pos (by omega), e]
  · rw [if_neg e]
    by_cases h2 : j < k
    · rw [if_pos h2, if_pos (by omega)]
    · rw [if_neg h2, if_neg (by omega)]
theorem beF_all (c : Nat) : cells8 (beF c 8) 8 = byteCells (be8 c) := by
  unfold cells8 byteCells be8
  rw [List.map_map]
  apply List.map_congr_left
  intro j hj
  have := List.mem_range.1 hj
  simp [beF, this]
theorem wrap_be (c k s : Nat) (hs : s = 8 * (7 - k)) : IntKind.u8.wrap ((c : Int) / 2 ^ s) = V (beB c k) := by
  unfold beB
  rw [V_ofNat, IntKind.wrap_u8', ← hs, Int.natCast_emod, Int.natCast_ediv]
  simp
end Go.Proofs.YtfhlcondnaahiaaDoor
end
section
/- cell.Tape.row. -/
namespace Go.Proofs.YtfhlcondnaahiaaDoor
open Go.RowKit Sha

set_option maxRecDepth 100000 in
set_option maxHeartbeats 4000000 in
theorem row_any (tb : Nat) (fa : Option Addr) (fc : Nat) (F : List UInt8) (told c : Nat) (w : World) (h : tapeAt w tb fa fc F told) (hc : c ≤ 1000000000) (ht : tables w) :
    Calls Tryd.prog 90 #[.pointer (some ⟨tb, 0, none⟩), .int .i64 (c : Int)] w fun e w' => e = .returned (.agg (byteCells (trow F c)).toArray) ∧ Below w.heap.size w w' := by
  have R0 := (blockIs.new w (zeros 32) 23).alloc (.cells (cells8 (fun _ => 0) 8).toArray 189 (0, 0))
  have S0 := blockIs.last (w.alloc (.cells (zeros 32).toArray 23 (0, 0))) (cells8 (fun _ => 0) 8) 189 (w.heap.size + 1) (by simp)
  have A0 := alloc_below w (.cells (zeros 32).toArray 23 (0, 0))
  have B1 := Lib.hid (A0.alloc A0.size (.cells (cells8 (fun _ => 0) 8).toArray 189 (0, 0)))
  have R1 := Lib.hid R0
  have S1 := Lib.hid S0
  have HT := Lib.hid h
  have HTB := Lib.hid ht
  have hz8 := zero8
  have hz28 := zero28
  clear R0 S0 A0 h ht
  rw [beF_zero c] at *
  go_enter Tryd.func90, Tryd.ntmps90
  go_wp2_with fail
  generalize (w.alloc (.cells (zeros 32).toArray 23 (0, 0))).alloc (.cells (cells8 (beF c 0) 8).toArray 189 (0, 0)) = w1 at *
  clear hz8 hz28
  go_loopw [7] (fun i wr => ∃ k : Nat, k ≤ 8 ∧ i = .int .i64 k ∧ blockIs wr (w.heap.size + 1) (cells8 (beF c k) 8) 189 ∧ But (w.heap.size + 1) w1 wr) (fun i _ => 8 - (intOf i).toNat)
  case atStart => exact ⟨0, by omega, rfl, S1.out, But.refl _ _⟩
  case round =>
    obtain ⟨k, hk, rfl, h1, h2⟩ := hrel
    have H1 := Lib.hid h1
    have H2 := Lib.hid h2
    clear h1 h2
    by_cases hlt : k < 8
    · have q : (k : Int) < 8 := by omega
      have p : (0 : Int) ≤ (k : Int) := by omega
      obtain ⟨s, hs⟩ : ∃ s, s = 8 * (7 - k) := ⟨_, rfl⟩
      obtain ⟨m, hm⟩ : ∃ m, m = 7 - k := ⟨_, rfl⟩
      have e1 : IntKind.i64.wrap (7 - (k : Int)) = (m : Int) := by rw [IntWalk.i64_in _ (by omega)]; omega
      have e2 : IntKind.i64.wrap (8 * (m : Int)) = (s : Int) := by rw [IntWalk.i64_in _ (by omega)]; omega
      have e3 : (0 : Int) ≤ (s : Int) := by omega
      have e4 : (s : Int) ≤ 64 := by omega
      have e5 : IntKind.u8.wrap ((c : Int) / 2 ^ s) = V (beB c k) := wrap_be c k s hs
      have HS := Lib.hid hs
      clear hs hm
      have c1 := H1.out.at k (by rw [cells8_length]; exact hlt)
      have c2 := H1.out.free k
      have HSET := Lib.hid (beF_succ c k hlt)
      go_wp2_with fail
      go_roundw
      case rel => exact ⟨k + 1, by omega, by go_num, by rw [← HSET.out]; exact H1.out.set k _, H2.out.setCell _ _ (Or.inl rfl)⟩
      case measure => simp [intOf]; omega
    · obtain rfl : k = 8 := by omega
      have q : ¬ ((8 : Nat) : Int) < 8 := by omega
      rw [beF_all] at H1
      have HB := Lib.hid (B1.out.trans (H2.out.below (Nat.le_succ _) B1.out.size))
      have RES := Lib.hid (H2.out.is R1.out (by omega))
      have I8 : Hid (bytesIn wr (some ⟨w.heap.size + 1, 0, none⟩) (be8 c)) := Lib.hid (Or.inr ⟨_, _, rfl, fun j hj => by
        rw [Nat.zero_add, H1.out.cell]
        exact byteCells_get _ j hj⟩)
      have TA := Lib.hid (fun X (hX : Below w.heap.size w X) => HT.out.below hX)
      have TT := Lib.hid (fun X (hX : Below w.heap.size w X) => HTB.out.below hX HTB.out.2.2.1 HTB.out.2.2.2)
      clear HT HTB H1 H2 R1 S1 B1
      go_upto_region 7 with fail
      have k1 : Below wr.heap.size wr wr.drew := below_drew' (Below.refl _ _)
      refine wp_region_noPanic ?_
      refine wp_region_held_drew (S := fun w' => Below w.heap.size w w') (by kernel_rfl) (below_drew' HB.out) (fun hH => ?_)
      generalize wr.drew = x0 at *
      refine tk (i := 0) (oi := { dst := some 19, op := Op.move (Operand.tmp 0), type := 75, pos := "tape.go:53", after := #[], guard := none }) (v := .pointer (some ⟨tb, 0, none⟩)) rfl (fun wx hS => ?_) hH ?_
      · go_simp
      refine tk (i := 1) (oi := { dst := some 20, op := Op.nilCheck (Operand.tmp 19), type := 0, pos := "tape.go:53", after := #[⟨0, .data⟩], guard := none }) (v := .pointer (some ⟨tb, 0, none⟩)) rfl (fun wx hS => ?_) hH ?_
      · go_simp
      refine tk (i := 2) (oi := { dst := some 21, op := Op.fieldAddr 118 (Operand.tmp 20) 0, type := 0, pos := "tape.go:53", after := #[⟨1, .data⟩], guard := none }) (v := .pointer (some ⟨tb, 0, none⟩)) rfl (fun wx hS => ?_) hH ?_
      · go_simp
      refine tk (i := 3) (oi := { dst := some 22, op := Op.load 30 (Operand.tmp 21), type := 30, pos := "tape.go:53", after := #[⟨2, .data⟩], guard := none }) (v := .slice fa F.length fc) rfl (fun wx hS => ?_) hH ?_
      · have e1 := (TA.out wx hS).is.at 0 (by simp); go_simp
      refine tk (i := 4) (oi := { dst := some 23, op := Op.slice 189 (Operand.tmp 5) none none none, type := 30, pos := "tape.go:53", after := #[], guard := none }) (v := .slice (some ⟨w.heap.size + 1, 0, none⟩) 8 8) rfl (fun wx hS => ?_) hH ?_
      · go_simp
      have s2 := RES.out.below k1 RES.out.lt
      have i8 := I8.out.below k1
      have hp0 := (TA.out x0 hH)
      have ht0 := TT.out x0 hH
      have k2 := Below.refl x0.heap.size x0
      refine wpAnyH_ready (rs := [5]) (by kernel_rfl) (by simp) ?_
      refine AllReadyH.cons (o := { dst := some 24, op := Op.buildSlice 71 2 #[(0, Operand.tmp 22), (1, Operand.tmp 23)], type := 71, pos := "tape.go:53", after := #[⟨3, .data⟩, ⟨4, .data⟩], guard := none }) rfl (fun KK hKK => ?_) AllReadyH.nil
      have kb := alloc_below x0 (.cells #[.slice fa F.length fc, .slice (some ⟨w.heap.size + 1, 0, none⟩) 8 8] 30 (0, 0))
      replace k2 := k2.trans (kb.mono k2.size)
      replace s2 := s2.below kb s2.lt
      have q_gp := cellsAt.new x0 #[.slice fa F.length fc, .slice (some ⟨w.heap.size + 1, 0, none⟩) 8 8] x0.heap.size 30 [.slice fa F.length fc, .slice (some ⟨w.heap.size + 1, 0, none⟩) 8 8] rfl rfl
      have hN := hH.trans (kb.mono hH.size)
      clear hH kb
      go_simp
      refine hKK.out _ _ hN (fun hH => ?_)
      clear hKK KK hN
      try simp only [Act.put, List.setIfInBounds_toArray, List.set_cons_zero, List.set_cons_succ]
      generalize x0.alloc (.cells #[.slice fa F.length fc, .slice (some ⟨w.heap.size + 1, 0, none⟩) 8 8] 30 (0, 0)) = x1 at *
      generalize x0.heap.size = gp at q_gp ⊢
      have HK := Lib.hid (of_at x0 [⟨fa, fc, F⟩, ⟨some ⟨w.heap.size + 1, 0, none⟩, 8, be8 c⟩] [.slice fa F.length fc, .slice (some ⟨w.heap.size + 1, 0, none⟩) 8 8] rfl ht0 (by
        simp only [List.mem_cons, List.not_mem_nil, or_false]
        rintro p (rfl | rfl)
        · exact ⟨hp0.cap, hp0.most, hp0.row⟩
        · exact ⟨by show (be8 c).length ≤ 8; rw [be8_length]; omega, by show 8 ≤ _; omega, i8⟩) (F ++ be8 c) (by simp) (by rw [List.length_append, be8_length]; have := hp0.len; omega) 2 rfl (by omega) x1 gp k2 q_gp)
      clear i8 hp0 ht0 k2 q_gp k1
      refine wpAnyH_ready (rs := [6]) (by kernel_rfl) (by simp) ?_
      refine AllReadyH.cons (o := { dst := some 25, op := Op.call { callee := Callee.value (Operand.func 46), args := #[Operand.tmp 24], argTypes := #[71] }, type := 23, pos := "tape.go:53", after := #[⟨5, .data⟩], guard := none }) rfl (fun KK hKK => ?_) AllReadyH.nil
      go_simp
      with_reducible refine (HK.out).mono ?_
      rintro e x4 ⟨rfl, -, kb⟩
      replace s2 := s2.below kb s2.lt
      have hN := hH.trans (kb.mono hH.size)
      clear hH kb
      refine hKK.out _ _ hN (fun hH => ?_)
      clear hKK KK hN
      try simp only [Act.put, List.setIfInBounds_toArray, List.set_cons_zero, List.set_cons_succ]
      have HL : Hid ((trow F c).length = 32) := Lib.hid (trow_length _ _)
      rw [show sha (F ++ be8 c) = trow F c from rfl]
      generalize hD : trow F c = D at *
      have HD := Lib.hid hD
      clear hD HK
      refine wpAnyH_ready (rs := [7]) (by kernel_rfl) (by simp) ?_
      refine AllReadyH.cons (o := { dst := none, op := Op.store 23 (Operand.tmp 4) (Operand.tmp 25), type := 0, pos := "tape.go:53", after := #[⟨6, .data⟩, ⟨6, .chain⟩, ⟨0, .phase⟩, ⟨1, .phase⟩, ⟨2, .phase⟩, ⟨3, .phase⟩, ⟨4, .phase⟩, ⟨5, .phase⟩, ⟨6, .phase⟩], guard := none }) rfl (fun KK hKK => ?_) AllReadyH.nil
      refine Ci.step_store_block rfl 23 _ _ rfl w.heap.size 0 (byteCells D) rfl rfl (zeros 32) 23 s2 (by rw [info28, byteCells_length, HL.out]) (by simp [zeros, byteCells_length, HL.out]) (byteCells_one _) ?_
      intro x6 h1 h2 h3
      have h1 := h1.out
      rw [splice_all _ _ (by simp [zeros, byteCells_length, HL.out])] at h1
      have E6 := Lib.hid h1
      have hN := hH.trans (h2.out.below (Nat.le_refl _) hH.size)
      clear h1 h2 h3 hH s2
      refine hKK.out _ _ hN (fun hH => ?_)
      clear hKK KK hN
      try simp only [Act.put, List.setIfInBounds_toArray, List.set_cons_zero, List.set_cons_succ]
      refine wpAnyH_done (by kernel_rfl) ?_ _
      refine NoPanic.normal ?_
      go_wp2_with fail
      refine bodyPost_ret (v := .agg (byteCells D).toArray) (results_cell_row rfl _ _ w.heap.size 23 _ (0, 0) _ rfl E6.out Tryd.underlying23 rfl (by rw [info28]; simp [byteCells_length, HL.out])) rfl ?_
      exact ⟨by rw [HD.out], hH⟩
end Go.Proofs.YtfhlcondnaahiaaDoor
end
section
/- cell.Tape.Next. -/
namespace Go.Proofs.YtfhlcondnaahiaaDoor
open Go.RowKit Sha

theorem tapeAt.but {X Y : World} {tb : Nat} {fa : Option Addr} {fc : Nat} {F : List UInt8} {told told2 : Nat} (h : tapeAt X tb fa fc F told) (k : But tb X Y) (hb : blockIs Y tb [.slice fa F.length fc, .int .i64 (told2 : Int)] 118) : tapeAt Y tb fa fc F told2 := by
  refine ⟨hb, ?_, h.apart, h.len, h.cap, h.most⟩
  rcases h.row with h0 | ⟨b, o, e, hc⟩
  · exact Or.inl h0
  · have := h.apart _ e
    exact Or.inr ⟨b, o, e, fun j hj => k.cell (hc j hj) this⟩
theorem make_room0 (n : Nat) (w : World) (hn : n ≤ 1000000) :
    (Instr.makeSlice 30 (.int .i64 0) (.int .i64 (n : Int))).run Tryd.prog w = .ok (.slice (some ⟨w.heap.size, 0, none⟩) 0 n) (w.alloc (.cells (byteCells (List.replicate n 0)).toArray 5 (0, 0))) := by
  obtain ⟨i0, hi, hz0, hz1, hz2⟩ := info_parts Ci.info_u8
  have := run_make (P := Tryd.prog) w 30 5 i0 (.int .u8 0) Tryd.underlying30 hi hz0 .i64 .i64 0 (n : Int) (by omega) (by omega) (by rw [hz2]; omega) (by omega)
  rw [hz1, Int.toNat_natCast, Ci.made_zeros] at this
  exact this
theorem own_room0 (n : Nat) (w : World) (base : Nat) (hb : base ≤ w.heap.size) (hn : n ≤ 1000000) : Ci.ownB (w.alloc (.cells (byteCells (List.replicate n 0)).toArray 5 (0, 0))) base (.slice (some ⟨w.heap.size, 0, none⟩) 0 n) [] :=
  ⟨rfl, .inr ⟨w.heap.size, n, _, rfl, hb, heap_alloc_new w _, Nat.zero_le _, by unfold maxLen; omega, by simp [byteCells_length], by simp [byteCells]⟩⟩

theorem bytesIn_sub {w : World} {g r m : Nat} {D : List UInt8} {t : TypeId} (h : blockIs w g (byteCells D) t) (hr : r + m ≤ D.length) : bytesIn w (some ⟨g, r, none⟩) ((D.drop r).take m) :=
  Or.inr ⟨_, _, rfl, fun j hj => by
    rw [List.length_take, List.length_drop] at hj
    rw [h.cell, byteCells_get D (r + j) (by omega)]
    simp [List.getD_eq_getElem?_getD, List.getElem?_take, List.getElem?_drop, show j < m by omega]⟩
theorem own_kept {w w' : World} {base : Nat} {v : Value} {l : List UInt8} (h : Ci.ownB w base v l) (k : Below w.heap.size w w') : Ci.ownB w' base v l := by
  refine ⟨h.1, ?_⟩
  rcases h.2 with h0 | ⟨q, cap, cur, hv, hq, hc, r⟩
  · exact .inl h0
  · exact .inr ⟨q, cap, cur, hv, hq, (k.block q (Array.getElem?_eq_some_iff.1 hc).1).trans hc, r⟩
theorem but_then {b : Nat} {w x y : World} (h : But b w x) (k : Below w.heap.size x y) : But b w y :=
  ⟨k.os.trans h.os, k.tape.trans h.tape, k.output.trans h.output, Nat.le_trans h.size k.size, fun j hj hn => (k.block j hj).trans (h.block j hj hn)⟩

set_option maxRecDepth 100000 in
set_option maxHeartbeats 4000000 in
theorem next_any (tb : Nat) (fa : Option Addr) (fc : Nat) (F : List UInt8) (told n : Nat) (w : World) (h : tapeAt w tb fa fc F told) (hn : 1 ≤ n) (hn2 : n ≤ 1000) (ht2 : told ≤ 100000000) (ht : tables w) (hta : 1 ≠ tb ∧ 0 ≠ tb) :
    Calls Tryd.prog 74 #[.pointer (some ⟨tb, 0, none⟩), .int .i64 (n : Int)] w fun e w' => ∃ v, e = .returned v ∧ Ci.ownB w' w.heap.size v (tbytes F told n) ∧ tapeAt w' tb fa fc F (told + n) ∧ But tb w w' := by
  have HT := Lib.hid h
  have HTB := Lib.hid ht
  have HTA := Lib.hid hta
  have TLT : Hid (tb < w.heap.size) := Lib.hid h.is.lt
  clear h ht hta
  have g1 : ¬ (n : Int) < 1 := by omega
  have g2 : ¬ (1048576 : Int) < (n : Int) := by omega
  have g3 : (n : Int) ≤ 1048576 := by omega
  have gm : min (n : Int) 1048576 = n := by omega
  have mk := make_room0 n w (by omega)
  have O0 := Lib.hid (own_room0 n w w.heap.size (Nat.le_refl _) (by omega))
  have B0 := Lib.hid (alloc_below w (.cells (byteCells (List.replicate n 0)).toArray 5 (0, 0)))
  obtain ⟨NB, hNB⟩ : ∃ NB, NB = byteCells (List.replicate n 0) := ⟨_, rfl⟩
  rw [← hNB] at mk O0 B0
  clear hNB
  go_enter Tryd.func74, Tryd.ntmps74
  go_wp2_with fail
  generalize w.alloc (.cells NB.toArray 5 (0, 0)) = w1 at *
  clear mk g1 g2 g3 gm
  go_loopw [5] (fun v wr => ∃ k : Nat, k ≤ n ∧ Ci.ownB wr w.heap.size v (tbytes F told k) ∧ tapeAt wr tb fa fc F (told + k) ∧ But tb w wr) (fun v _ => n - (match v with | .slice _ m _ => m | _ => 0))
  case atStart => exact ⟨0, by omega, O0.out, HT.out.below B0.out, But.of_below B0.out⟩
  case round =>
    obtain ⟨k, hk, ho, hT, hB⟩ := hrel
    have HO := Lib.hid ho
    have HTr := Lib.hid hT
    have HB := Lib.hid hB
    obtain ⟨va, vc, rfl, o1, o2, o3, o4⟩ := ho.form
    rw [tbytes_length] at o1 ⊢
    rw [tbytes_length] at HO
    clear ho hT hB o1 o2 o3 o4
    by_cases hlt : k < n
    · have q : (k : Int) < (n : Int) := by omega
      obtain ⟨T, hT⟩ : ∃ T, T = told + k := ⟨_, rfl⟩
      rw [← hT] at HTr
      obtain ⟨d, hd⟩ : ∃ d, d = T / 32 := ⟨_, rfl⟩
      obtain ⟨r, hr⟩ : ∃ r, r = T % 32 := ⟨_, rfl⟩
      have hr32 : r < 32 := by omega
      have c1 : wr.cell? ⟨tb, 1, none⟩ = some (.int .i64 (T : Int)) := HTr.out.is.at 1 (by simp)
      have d1 : (T : Int).tdiv 32 = (d : Int) := by rw [Int.tdiv_eq_ediv_of_nonneg (by omega)]; omega
      have d2 : (T : Int).tmod 32 = (r : Int) := by rw [Int.tmod_eq_emod_of_nonneg (by omega)]; omega
      have d3 : (T : Int) / 32 = (d : Int) := by omega
      have d4 : (T : Int) % 32 = (r : Int) := by omega
      have d5 : (0 : Int) ≤ (T : Int) := by omega
      have w1' : IntKind.i64.wrap (d : Int) = d := IntWalk.i64_in _ (by omega)
      have TB : Hid (tables wr) := Lib.hid (by
        have := HTB.out
        exact ⟨fun j hj => HB.out.cell (this.1 j hj) HTA.out.1, fun j x hj => HB.out.cell (this.2.1 j x hj) HTA.out.2, Nat.lt_of_lt_of_le this.2.2.1 HB.out.size, Nat.lt_of_lt_of_le this.2.2.2 HB.out.size⟩)
      have HR := Lib.hid (row_any tb fa fc F T d wr HTr.out (by omega) TB.out)
      have HDD := Lib.hid hd
      have HRR := Lib.hid hr
      have HTT := Lib.hid hT
      clear hd hr hT
      go_wp2_with fail
      with_reducible refine HR.out.mono ?_
      rintro e w2 ⟨rfl, kk⟩
      have hz28 := zero28
      have HTL : Hid ((trow F d).length = 32) := Lib.hid (trow_length _ _)
      generalize hD : trow F d = D at *
      have HD := Lib.hid hD
      clear hD
      go_wp2_with (refine wpList_store_block rfl 23 _ _ rfl w2.heap.size 0 (byteCells D) rfl rfl (zeros 32) 23 (blockIs.new w2 _ _) (by rw [info28, byteCells_length, HTL.out]) (by simp [zeros, byteCells_length, HTL.out]) (byteCells_one _) ?_)
      intro w3 h1 h2 h3
      have h1 := h1.out
      rw [splice_all _ _ (by simp [zeros, byteCells_length, HTL.out])] at h1
      have kk3 : Below wr.heap.size wr w3 := kk.trans (((alloc_below w2 _).trans (h2.out.below (Nat.le_refl _) (by simp))).mono kk.size)
      have HT3 := Lib.hid (HTr.out.below kk3)
      have c3 : w3.cell? ⟨tb, 1, none⟩ = some (.int .i64 (T : Int)) := HT3.out.is.at 1 (by simp)
      have S3 := Lib.hid (Nat.le_trans kk.size (show w2.heap.size ≤ w3.heap.size by have := h2.out.size; simp at this; omega))
      obtain ⟨rb, hrb⟩ : ∃ rb, rb = w2.heap.size := ⟨_, rfl⟩
      rw [← hrb] at h1 ⊢
      have R3 := Lib.hid h1
      have K3 := Lib.hid kk3
      clear h1 h2 h3 kk kk3 hrb hz28 HR
      have r1 : (r : Int) ≤ 32 := by omega
      have r0 : (0 : Int) ≤ (r : Int) := by omega
      have r2 : ¬ 32 = r := by omega
      go_upto_region 8 with fail
      obtain ⟨u, hu⟩ : ∃ u, u = 32 - r := ⟨_, rfl⟩
      rw [← hu]
      obtain ⟨m, hm⟩ : ∃ m, m = min u (n - k) := ⟨_, rfl⟩
      have hm1 : 1 ≤ m := by omega
      have hmu : m ≤ u := by omega
      have hmn : m ≤ n - k := by omega
      go_cut [7] (fun v wx => v = .slice (some ⟨rb, r, none⟩) m u ∧ w3 = wx)
      case first =>
        have e1 : IntKind.i64.wrap ((n : Int) - (k : Int)) = (n : Int) - (k : Int) := IntWalk.i64_in _ (by omega)
        go_wp2_with fail
        all_goals
          go_meet
          case rel => exact ⟨by congr 1 <;> omega, rfl⟩
      obtain ⟨rfl, rfl⟩ := hcut
      have IR : Hid (bytesIn w3 (some ⟨rb, r, none⟩) (tbytes F T m)) := Lib.hid (by
        have h := bytesIn_sub (m := m) R3.out (show r + m ≤ D.length by rw [HTL.out]; omega)
        have e := tbytes_row F T m (by have := HRR.out; omega)
        rw [← HDD.out, ← HRR.out, HD.out] at e
        rwa [e] at h)
      have O3 := Lib.hid (own_kept HO.out K3.out)
      have hbs : w.heap.size ≤ w3.heap.size := Nat.le_trans HB.out.size S3.out
      have hl1 : m = (tbytes F T m).length := (tbytes_length _ _ _).symm
      have hl2 : (tbytes F told k).length + (tbytes F T m).length ≤ 1000000 := by rw [tbytes_length, tbytes_length]; omega
      have HL1 := Lib.hid hl1
      have HU := Lib.hid hu
      have HM := Lib.hid hm
      clear hl1 hu hm
      go_upto_region 9 with fail
      go_upto_region 10 with (at_builtin; go_loud (refine Ci.wpList_append_ownB rfl _ _ rfl w.heap.size _ (tbytes F told k) rfl O3.out _ m u (tbytes F T m) HL1.out rfl (fun e => by cases e) IR.out hl2 hbs ?_; intro v4 w4 r4 r5))
      have IS4 := Lib.hid (HT3.out.is.below r5.out TLT.out)
      have c4 : w4.cell? ⟨tb, 1, none⟩ = some (.int .i64 (T : Int)) := IS4.out.at 1 (by simp)
      have f4 := IS4.out.free 1
      have e5 : IntKind.i64.wrap ((T : Int) + (m : Int)) = ((T + m : Nat) : Int) := by have := HTT.out; rw [IntWalk.i64_in _ (by omega)]; omega
      have BW4 : Hid (But tb w w4) := Lib.hid (but_then (HB.out.trans (But.of_below K3.out)) r5.out)
      have E4 : Hid (tbytes F told k ++ tbytes F T m = tbytes F told (k + m)) := Lib.hid (by rw [HTT.out]; exact tbytes_append F told k m)
      rw [E4.out] at r4
      have f5 := r4.out.form
      obtain ⟨va4, vc4, rfl, -⟩ := f5
      rw [tbytes_length] at r4 ⊢
      have O4 := Lib.hid r4.out
      clear r4 r5 O3 IR R3 HO c3 hbs hl2
      go_wp2_with fail
      go_roundw
      case rel =>
        refine ⟨k + m, by omega, O4.out.other _ _ TLT.out, ?_, BW4.out.setCell _ _ (Or.inl rfl)⟩
        have hs := IS4.out.set 1 (.int .i64 ((T + m : Nat) : Int))
        have := tapeAt.but (told2 := T + m) HT.out (BW4.out.setCell ⟨tb, 1, none⟩ (.int .i64 ((T + m : Nat) : Int)) (Or.inl rfl)) hs
        have e6 : told + (k + m) = T + m := by have := HTT.out; omega
        have e7 : ((T : Int) + (m : Int)) = ((T + m : Nat) : Int) := by omega
        rw [e6]
        first | exact this | (rw [e7]; exact this) | (simp only [e7]; exact this)
      case measure => show n - (k + m) < n - k; omega
    · have q : ¬ (k : Int) < (n : Int) := by omega
      obtain rfl : k = n := by omega
      go_wp2_with fail
      go_ret
      exact ⟨_, rfl, HO.out, HTr.out, HB.out⟩
end Go.Proofs.YtfhlcondnaahiaaDoor
end
section
/- cell.Tape.Nonce; tapes that are none. -/
namespace Go.Proofs.YtfhlcondnaahiaaDoor
open Go.RowKit Sha

set_option maxRecDepth 100000 in
set_option maxHeartbeats 4000000 in
theorem nonce_any (tb : Nat) (fa : Option Addr) (fc : Nat) (F : List UInt8) (told : Nat) (w : World) (h : tapeAt w tb fa fc F told) (ht2 : told ≤ 100000000) (ht : tables w) (htb : 1 ≠ tb ∧ 0 ≠ tb) :
    Calls Tryd.prog 48 #[.pointer (some ⟨tb, 0, none⟩)] w fun e w' => e = .returned (.agg (byteCells (tbytes F told 16)).toArray) ∧ tapeAt w' tb fa fc F (told + 16) ∧ But tb w w' := by
  have R0' := (blockIs.new w (zeros 16) 106).alloc (.cells (zeros 16).toArray 106 (0, 0))
  have S0' := blockIs.last (w.alloc (.cells (zeros 16).toArray 106 (0, 0))) (zeros 16) 106 (w.heap.size + 1) (by simp)
  have A0 := alloc_below w (.cells (zeros 16).toArray 106 (0, 0))
  have B1 := Lib.hid (A0.alloc A0.size (.cells (zeros 16).toArray 106 (0, 0)))
  have SZ : Hid (w.heap.size + 2 ≤ ((w.alloc (.cells (zeros 16).toArray 106 (0, 0))).alloc (.cells (zeros 16).toArray 106 (0, 0))).heap.size) := Lib.hid (by simp)
  have R0 := Lib.hid R0'
  have S0 := Lib.hid S0'
  have HT := Lib.hid h
  have TLT : Hid (tb < w.heap.size) := Lib.hid h.is.lt
  have HT1 := Lib.hid (h.below B1.out)
  have TB1 := Lib.hid (ht.below B1.out ht.2.2.1 ht.2.2.2)
  clear R0' S0' A0 h ht
  have hz16 := Ci.zeroBlk
  go_enter Tryd.func48, Tryd.ntmps48
  go_upto_region 2 with fail
  generalize (w.alloc (.cells (zeros 16).toArray 106 (0, 0))).alloc (.cells (zeros 16).toArray 106 (0, 0)) = w1 at *
  have R0 : Hid (blockIs w1.drew w.heap.size (zeros 16) 106) := R0
  have S0 : Hid (blockIs w1.drew (w.heap.size + 1) (zeros 16) 106) := S0
  have HN := next_any tb fa fc F told 16 w1.drew (HT1.out.below (below_drew' (Below.refl _ _))) (by omega) (by omega) ht2 (TB1.out.below (below_drew' (Below.refl _ _)) TB1.out.2.2.1 TB1.out.2.2.2) htb
  rw [show ((16 : Nat) : Int) = 16 from rfl] at HN
  have HN := Lib.hid HN
  have B1 : Hid (Below w.heap.size w w1.drew) := Lib.hid (below_drew' B1.out)
  have SZ : Hid (w.heap.size + 2 ≤ w1.drew.heap.size) := SZ
  clear HT1 TB1
  refine wp_region_noPanic ?_
  refine wp_region_held_drew (S := fun _ => True) (by kernel_rfl) trivial (fun hH => ?_)
  generalize w1.drew = x0 at *
  refine tk (i := 0) (oi := { dst := some 4, op := Op.slice 106 (Operand.tmp 3) none none none, type := 30, pos := "tape.go:43", after := #[], guard := none }) (v := .slice (some ⟨w.heap.size + 1, 0, none⟩) 16 16) rfl (fun wx hS => ?_) hH ?_
  · go_simp
  refine tk (i := 1) (oi := { dst := some 5, op := Op.move (Operand.tmp 0), type := 75, pos := "tape.go:43", after := #[], guard := none }) (v := .pointer (some ⟨tb, 0, none⟩)) rfl (fun wx hS => ?_) hH ?_
  · go_simp
  refine wpAnyH_ready (rs := [2]) (by kernel_rfl) (by simp) ?_
  refine AllReadyH.cons (o := { dst := some 6, op := Op.call { callee := Callee.value (Operand.func 74), args := #[Operand.tmp 5, Operand.const (Value.int IntKind.i64 16)], argTypes := #[75, 3] }, type := 30, pos := "tape.go:43", after := #[⟨1, .data⟩], guard := none }) rfl (fun KK hKK => ?_) AllReadyH.nil
  go_simp
  with_reducible refine HN.out.mono ?_
  rintro e x1 ⟨v, rfl, ho, hta, hbt⟩
  obtain ⟨a, c, rfl, o1, o2, o3, o4⟩ := ho.form
  rw [tbytes_length] at o1 ⊢
  have s2 := hbt.is S0.out (by have := TLT.out; omega)
  have r2 := hbt.is R0.out (by have := TLT.out; omega)
  refine hKK.out _ _ trivial (fun _ => ?_)
  clear hKK KK hH
  try simp only [Act.put, List.setIfInBounds_toArray, List.set_cons_zero, List.set_cons_succ]
  refine wpAnyH_ready (rs := [3]) (by kernel_rfl) (by simp) ?_
  refine AllReadyH.cons (o := { dst := some 7, op := Op.call { callee := Callee.builtin Builtin.copy, args := #[Operand.tmp 4, Operand.tmp 6], argTypes := #[30, 30] }, type := 3, pos := "tape.go:43", after := #[⟨0, .data⟩, ⟨2, .data⟩, ⟨2, .chain⟩], guard := none }) rfl (fun KK hKK => ?_) AllReadyH.nil
  refine step_copy_splice rfl _ _ 30 30 rfl 5 Tryd.underlying30 (by kernel_rfl) _ _ 16 16 16 c rfl rfl (w.heap.size + 1) 0 (zeros 16) 106 s2 (byteCells (tbytes F told 16)) (by rw [byteCells_length, tbytes_length]; rfl) (fun h => ⟨rfl, o3.cells h⟩) (by rw [byteCells_length, tbytes_length]; simp [zeros]) (byteCells_one _) (w.heap.size + 1) x1 (Below.refl _ _) (Nat.le_refl _) ?_
  intro x2 h1 hN
  have h1 := h1.out
  rw [splice_all _ _ (by rw [byteCells_length, tbytes_length]; simp [zeros])] at h1
  refine hKK.out _ _ trivial (fun _ => ?_)
  clear hKK KK
  try simp only [Act.put, List.setIfInBounds_toArray, List.set_cons_zero, List.set_cons_succ]
  refine wpAnyH_done (by kernel_rfl) ?_ _
  refine NoPanic.normal ?_
  have L16 : Hid ((byteCells (tbytes F told 16)).length = 16) := Lib.hid (by rw [byteCells_length, tbytes_length])
  have E1 : Hid (blockIs x2 (w.heap.size + 1) (byteCells (tbytes F told 16)) 106) := Lib.hid h1
  have E0 : Hid (blockIs x2 w.heap.size (zeros 16) 106) := Lib.hid (r2.below hN (Nat.lt_succ_self _))
  have RX := Lib.hid (Ci.range_of E1.out)
  have ONE : Hid (∀ v ∈ (byteCells (tbytes F told 16)), v.oneCell' = true) := Lib.hid (byteCells_one _)
  have BW : Hid (But tb w x2) := Lib.hid (but_then ((But.of_below B1.out).trans hbt) (hN.mono (Nat.le_succ _)))
  have IS2 := Lib.hid (hta.is.below hN (by have := TLT.out; omega))
  clear h1 hN R0 S0 s2 r2 ho o1 o2 o3 o4 hta hbt HN
  obtain ⟨CC, hCC⟩ : ∃ CC, CC = (byteCells (tbytes F told 16)) := ⟨_, rfl⟩
  rw [← hCC] at L16 E1 RX ONE
  have HCC := Lib.hid hCC
  clear hCC
  go_wp2_with (first
    | (refine Ci.wpList_load_mid_if (by rfl) 106 _ rfl (w.heap.size + 1) 0 rfl CC _ RX.out Tryd.underlying106 rfl (by rw [infoN, L16.out]) ?_)
    | (refine wpList_store_block rfl 106 _ _ rfl w.heap.size 0 CC rfl rfl (zeros 16) 106 E0.out (by rw [infoN, L16.out]) (by simp [zeros, L16.out]) ONE.out ?_))
  intro x3 g1 g2 g3
  have g1 := g1.out
  rw [splice_all _ _ (by simp [zeros, L16.out])] at g1
  have E3 := Lib.hid g1
  have K3 := Lib.hid (g2.out.below (B := w.heap.size) (Nat.le_refl _) (Nat.le_of_lt E0.out.lt))
  clear g1 g2 g3
  go_wp2_with fail
  refine bodyPost_ret (v := .agg CC.toArray) (results_cell_row rfl _ _ w.heap.size 106 _ (0, 0) _ rfl E3.out Tryd.underlying106 rfl (by rw [infoN]; simp [L16.out])) rfl ?_
  have B3 := but_then BW.out K3.out
  exact ⟨by rw [HCC.out], tapeAt.but HT.out B3 (IS2.out.below K3.out TLT.out), B3⟩
end Go.Proofs.YtfhlcondnaahiaaDoor
end
