/- cell.Tape.Next. -/
import Derived.Test.YtjkhokholcchfaaDoorTrw
namespace Go.Proofs.YtjkhokholcchfaaDoor
open Go.RowKit Sha

theorem tapeAt.but {X Y : World} {tb : Nat} {fa : Option Addr} {fc : Nat} {F : List UInt8} {told told2 : Nat} (h : tapeAt X tb fa fc F told) (k : But tb X Y) (hb : blockIs Y tb [.slice fa F.length fc, .int .i64 (told2 : Int)] 83) : tapeAt Y tb fa fc F told2 := by
  refine ⟨hb, ?_, h.apart, h.len, h.cap, h.most⟩
  rcases h.row with h0 | ⟨b, o, e, hc⟩
  · exact Or.inl h0
  · have := h.apart _ e
    exact Or.inr ⟨b, o, e, fun j hj => k.cell (hc j hj) this⟩
theorem make_room0 (n : Nat) (w : World) (hn : n ≤ 1000000) :
    (Instr.makeSlice 22 (.int .i64 0) (.int .i64 (n : Int))).run Tryd.prog w = .ok (.slice (some ⟨w.heap.size, 0, none⟩) 0 n) (w.alloc (.cells (byteCells (List.replicate n 0)).toArray 5 (0, 0))) := by
  obtain ⟨i0, hi, hz0, hz1, hz2⟩ := info_parts Ci.info_u8
  have := run_make (P := Tryd.prog) w 22 5 i0 (.int .u8 0) Tryd.underlying22 hi hz0 .i64 .i64 0 (n : Int) (by omega) (by omega) (by rw [hz2]; omega) (by omega)
  rw [hz1, Int.toNat_natCast, Ci.made_zeros] at this
  exact this
theorem own_room0 (n : Nat) (w : World) (base : Nat) (hb : base ≤ w.heap.size) (hn : n ≤ 1000000) : Ci.ownB (w.alloc (.cells (byteCells (List.replicate n 0)).toArray 5 (0, 0))) base (.slice (some ⟨w.heap.size, 0, none⟩) 0 n) [] :=
  ⟨rfl, .inr ⟨w.heap.size, n, _, rfl, hb, heap_alloc_new w _, Nat.zero_le _, by unfold maxLen; omega, by simp [byteCells_length], by simp [byteCells]⟩⟩

theorem bytesIn_sub {w : World} {g r m : Nat} {D : List UInt8} {t : TypeId} (h : blockIs w g (byteCells D) t) (hr : r + m ≤ D.length) : bytesIn w (some ⟨g, r, none⟩) ((D.drop r).take m) :=
  Or.inr ⟨_, _, rfl, fun j hj => by
    rw [List.length_take, List.length_drop] at hj
    rw [h.cell, byteCells_get D (r + j) (by omega)]
    simp [List.getD_eq_getElem?_getD, List.getElem?_take, List.getElem?_drop, show j < m by omega]⟩
theorem own_kept {w w' : World} {base : Nat} {v : Value} {l : List UInt8} (h : Ci.ownB w base v l) (k : Below w.heap.size w w') : Ci.ownB w' base v l := by
  refine ⟨h.1, ?_⟩
  rcases h.2 with h0 | ⟨q, cap, cur, hv, hq, hc, r⟩
  · exact .inl h0
  · exact .inr ⟨q, cap, cur, hv, hq, (k.block q (Array.getElem?_eq_some_iff.1 hc).1).trans hc, r⟩
theorem but_then {b : Nat} {w x y : World} (h : But b w x) (k : Below w.heap.size x y) : But b w y :=
  ⟨k.os.trans h.os, k.tape.trans h.tape, k.output.trans h.output, Nat.le_trans h.size k.size, fun j hj hn => (k.block j hj).trans (h.block j hj hn)⟩

set_option maxRecDepth 100000 in
set_option maxHeartbeats 4000000 in
theorem next_any (tb : Nat) (fa : Option Addr) (fc : Nat) (F : List UInt8) (told n : Nat) (w : World) (h : tapeAt w tb fa fc F told) (hn : 1 ≤ n) (hn2 : n ≤ 1000) (ht2 : told ≤ 100000000) (ht : tables w) (hta : 1 ≠ tb ∧ 0 ≠ tb) :
    Calls Tryd.prog 14 #[.pointer (some ⟨tb, 0, none⟩), .int .i64 (n : Int)] w fun e w' => ∃ v, e = .returned v ∧ Ci.ownB w' w.heap.size v (tbytes F told n) ∧ tapeAt w' tb fa fc F (told + n) ∧ But tb w w' := by
  have HT := Lib.hid h
  have HTB := Lib.hid ht
  have HTA := Lib.hid hta
  have TLT : Hid (tb < w.heap.size) := Lib.hid h.is.lt
  clear h ht hta
  have g1 : ¬ (n : Int) < 1 := by omega
  have g2 : ¬ (1048576 : Int) < (n : Int) := by omega
  have g3 : (n : Int) ≤ 1048576 := by omega
  have gm : min (n : Int) 1048576 = n := by omega
  have mk := make_room0 n w (by omega)
  have O0 := Lib.hid (own_room0 n w w.heap.size (Nat.le_refl _) (by omega))
  have B0 := Lib.hid (alloc_below w (.cells (byteCells (List.replicate n 0)).toArray 5 (0, 0)))
  obtain ⟨NB, hNB⟩ : ∃ NB, NB = byteCells (List.replicate n 0) := ⟨_, rfl⟩
  rw [← hNB] at mk O0 B0
  clear hNB
  go_enter Tryd.func14, Tryd.ntmps14
  go_wp2_with fail
  generalize w.alloc (.cells NB.toArray 5 (0, 0)) = w1 at *
  clear mk g1 g2 g3 gm
  go_loopw [5] (fun v wr => ∃ k : Nat, k ≤ n ∧ Ci.ownB wr w.heap.size v (tbytes F told k) ∧ tapeAt wr tb fa fc F (told + k) ∧ But tb w wr) (fun v _ => n - (match v with | .slice _ m _ => m | _ => 0))
  case atStart => exact ⟨0, by omega, O0.out, HT.out.below B0.out, But.of_below B0.out⟩
  case round =>
    obtain ⟨k, hk, ho, hT, hB⟩ := hrel
    have HO := Lib.hid ho
    have HTr := Lib.hid hT
    have HB := Lib.hid hB
    obtain ⟨va, vc, rfl, o1, o2, o3, o4⟩ := ho.form
    rw [tbytes_length] at o1 ⊢
    rw [tbytes_length] at HO
    clear ho hT hB o1 o2 o3 o4
    by_cases hlt : k < n
    · have q : (k : Int) < (n : Int) := by omega
      obtain ⟨T, hT⟩ : ∃ T, T = told + k := ⟨_, rfl⟩
      rw [← hT] at HTr
      obtain ⟨d, hd⟩ : ∃ d, d = T / 32 := ⟨_, rfl⟩
      obtain ⟨r, hr⟩ : ∃ r, r = T % 32 := ⟨_, rfl⟩
      have hr32 : r < 32 := by omega
      have c1 : wr.cell? ⟨tb, 1, none⟩ = some (.int .i64 (T : Int)) := HTr.out.is.at 1 (by simp)
      have d1 : (T : Int).tdiv 32 = (d : Int) := by rw [Int.tdiv_eq_ediv_of_nonneg (by omega)]; omega
      have d2 : (T : Int).tmod 32 = (r : Int) := by rw [Int.tmod_eq_emod_of_nonneg (by omega)]; omega
      have d3 : (T : Int) / 32 = (d : Int) := by omega
      have d4 : (T : Int) % 32 = (r : Int) := by omega
      have d5 : (0 : Int) ≤ (T : Int) := by omega
      have w1' : IntKind.i64.wrap (d : Int) = d := IntWalk.i64_in _ (by omega)
      have TB : Hid (tables wr) := Lib.hid (by
        have := HTB.out
        exact ⟨fun j hj => HB.out.cell (this.1 j hj) HTA.out.1, fun j x hj => HB.out.cell (this.2.1 j x hj) HTA.out.2, Nat.lt_of_lt_of_le this.2.2.1 HB.out.size, Nat.lt_of_lt_of_le this.2.2.2 HB.out.size⟩)
      have HR := Lib.hid (row_any tb fa fc F T d wr HTr.out (by omega) TB.out)
      have HDD := Lib.hid hd
      have HRR := Lib.hid hr
      have HTT := Lib.hid hT
      clear hd hr hT
      go_wp2_with fail
      with_reducible refine HR.out.mono ?_
      rintro e w2 ⟨rfl, kk⟩
      have hz28 := zero28
      have HTL : Hid ((trow F d).length = 32) := Lib.hid (trow_length _ _)
      generalize hD : trow F d = D at *
      have HD := Lib.hid hD
      clear hD
      go_wp2_with (refine wpList_store_block rfl 34 _ _ rfl w2.heap.size 0 (byteCells D) rfl rfl (zeros 32) 34 (blockIs.new w2 _ _) (by rw [info28, byteCells_length, HTL.out]) (by simp [zeros, byteCells_length, HTL.out]) (byteCells_one _) ?_)
      intro w3 h1 h2 h3
      have h1 := h1.out
      rw [splice_all _ _ (by simp [zeros, byteCells_length, HTL.out])] at h1
      have kk3 : Below wr.heap.size wr w3 := kk.trans (((alloc_below w2 _).trans (h2.out.below (Nat.le_refl _) (by simp))).mono kk.size)
      have HT3 := Lib.hid (HTr.out.below kk3)
      have c3 : w3.cell? ⟨tb, 1, none⟩ = some (.int .i64 (T : Int)) := HT3.out.is.at 1 (by simp)
      have S3 := Lib.hid (Nat.le_trans kk.size (show w2.heap.size ≤ w3.heap.size by have := h2.out.size; simp at this; omega))
      obtain ⟨rb, hrb⟩ : ∃ rb, rb = w2.heap.size := ⟨_, rfl⟩
      rw [← hrb] at h1 ⊢
      have R3 := Lib.hid h1
      have K3 := Lib.hid kk3
      clear h1 h2 h3 kk kk3 hrb hz28 HR
      have r1 : (r : Int) ≤ 32 := by omega
      have r0 : (0 : Int) ≤ (r : Int) := by omega
      have r2 : ¬ 32 = r := by omega
      go_upto_region 8 with fail
      obtain ⟨u, hu⟩ : ∃ u, u = 32 - r := ⟨_, rfl⟩
      rw [← hu]
      obtain ⟨m, hm⟩ : ∃ m, m = min u (n - k) := ⟨_, rfl⟩
      have hm1 : 1 ≤ m := by omega
      have hmu : m ≤ u := by omega
      have hmn : m ≤ n - k := by omega
      go_cut [7] (fun v wx => v = .slice (some ⟨rb, r, none⟩) m u ∧ w3 = wx)
      case first =>
        have e1 : IntKind.i64.wrap ((n : Int) - (k : Int)) = (n : Int) - (k : Int) := IntWalk.i64_in _ (by omega)
        go_wp2_with fail
        all_goals
          go_meet
          case rel => exact ⟨by congr 1 <;> omega, rfl⟩
      obtain ⟨rfl, rfl⟩ := hcut
      have IR : Hid (bytesIn w3 (some ⟨rb, r, none⟩) (tbytes F T m)) := Lib.hid (by
        have h := bytesIn_sub (m := m) R3.out (show r + m ≤ D.length by rw [HTL.out]; omega)
        have e := tbytes_row F T m (by have := HRR.out; omega)
        rw [← HDD.out, ← HRR.out, HD.out] at e
        rwa [e] at h)
      have O3 := Lib.hid (own_kept HO.out K3.out)
      have hbs : w.heap.size ≤ w3.heap.size := Nat.le_trans HB.out.size S3.out
      have hl1 : m = (tbytes F T m).length := (tbytes_length _ _ _).symm
      have hl2 : (tbytes F told k).length + (tbytes F T m).length ≤ 1000000 := by rw [tbytes_length, tbytes_length]; omega
      have HL1 := Lib.hid hl1
      have HU := Lib.hid hu
      have HM := Lib.hid hm
      clear hl1 hu hm
      go_upto_region 9 with fail
      go_upto_region 10 with (at_builtin; go_loud (refine Ci.wpList_append_ownB rfl _ _ rfl w.heap.size _ (tbytes F told k) rfl O3.out _ m u (tbytes F T m) HL1.out rfl (fun e => by cases e) IR.out hl2 hbs ?_; intro v4 w4 r4 r5))
      have IS4 := Lib.hid (HT3.out.is.below r5.out TLT.out)
      have c4 : w4.cell? ⟨tb, 1, none⟩ = some (.int .i64 (T : Int)) := IS4.out.at 1 (by simp)
      have f4 := IS4.out.free 1
      have e5 : IntKind.i64.wrap ((T : Int) + (m : Int)) = ((T + m : Nat) : Int) := by have := HTT.out; rw [IntWalk.i64_in _ (by omega)]; omega
      have BW4 : Hid (But tb w w4) := Lib.hid (but_then (HB.out.trans (But.of_below K3.out)) r5.out)
      have E4 : Hid (tbytes F told k ++ tbytes F T m = tbytes F told (k + m)) := Lib.hid (by rw [HTT.out]; exact tbytes_append F told k m)
      rw [E4.out] at r4
      have f5 := r4.out.form
      obtain ⟨va4, vc4, rfl, -⟩ := f5
      rw [tbytes_length] at r4 ⊢
      have O4 := Lib.hid r4.out
      clear r4 r5 O3 IR R3 HO c3 hbs hl2
      go_wp2_with fail
      go_roundw
      case rel =>
        refine ⟨k + m, by omega, O4.out.other _ _ TLT.out, ?_, BW4.out.setCell _ _ (Or.inl rfl)⟩
        have hs := IS4.out.set 1 (.int .i64 ((T + m : Nat) : Int))
        have := tapeAt.but (told2 := T + m) HT.out (BW4.out.setCell ⟨tb, 1, none⟩ (.int .i64 ((T + m : Nat) : Int)) (Or.inl rfl)) hs
        have e6 : told + (k + m) = T + m := by have := HTT.out; omega
        have e7 : ((T : Int) + (m : Int)) = ((T + m : Nat) : Int) := by omega
        rw [e6]
        first | exact this | (rw [e7]; exact this) | (simp only [e7]; exact this)
      case measure => show n - (k + m) < n - k; omega
    · have q : ¬ (k : Int) < (n : Int) := by omega
      obtain rfl : k = n := by omega
      go_wp2_with fail
      go_ret
      exact ⟨_, rfl, HO.out, HTr.out, HB.out⟩
end Go.Proofs.YtjkhokholcchfaaDoor
