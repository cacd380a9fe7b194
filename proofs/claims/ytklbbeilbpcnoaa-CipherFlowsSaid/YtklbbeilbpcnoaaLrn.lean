/- The law CipherRounds: its walk. -/
import Derived.Test.YtklbbeilbpcnoaaRdt
namespace Go.Proofs.Ytklbbeilbpcnoaa
open Go.RowKit Sha Aes

theorem size5 : (Try.prog.info? 5).map (·.size) = some 1 := by kernel_rfl
theorem wpAnyH_stronger {P : Program} {md : Region.Mode} {ops : Array Oper} {Q : Exit → Act → World → Prop} {S S' : World → Prop} (hS : ∀ w, S' w → S w) : ∀ (fuel : Nat) (listed : Array Bool) (a : Act) (w : World), wpAnyH P md ops Q S' fuel listed a w → wpAnyH P md ops Q S fuel listed a w
  | 0, _, _, _, h => h
  | fuel + 1, _, _, _, h => ⟨h.1, fun i hi => wpOp_mono (fun a' w' q => ⟨hS _ q.1, wpAnyH_stronger hS fuel _ a' w' q.2⟩) (h.2 i hi)⟩
/-- A flow, its key, the bytes that came: as they stand while the law runs. -/
def rinv (w : World) (fb g : Nat) (ws : List W) (N : List UInt8) (n : Nat) (a : Option Addr) (l : List UInt8) (X : World) : Prop :=
  blockIs X fb (flowCells g N n) 65 ∧ blockIs X g (keyRow ws) 59 ∧ bytesIn X a l ∧ Below w.heap.size w X
theorem rinv.below {w X Y : World} {fb g n : Nat} {ws : List W} {N l : List UInt8} {a : Option Addr} (h : rinv w fb g ws N n a l X) (k : Below X.heap.size X Y) : rinv w fb g ws N n a l Y :=
  ⟨h.1.below k h.1.lt, h.2.1.below k h.2.1.lt, h.2.2.1.below k, h.2.2.2.trans (k.mono h.2.2.2.size)⟩
/-- Bytes that stood in w already stay, whatever happens to a block that is newer. -/
theorem old_bytes {w X Y : World} {a : Option Addr} {l : List UInt8} {b : Nat} (ho : bytesIn w a l) (hx : bytesIn X a l) (k : But b X Y) (hb : w.heap.size ≤ b) : bytesIn Y a l := by
  rcases hx with h | ⟨bb, bo, he, h⟩
  · exact Or.inl h
  · by_cases h0 : l = []
    · exact Or.inl h0
    · have hlt : bb < w.heap.size := by
        rcases ho with h1 | ⟨b2, o2, he2, h2⟩
        · exact absurd h1 h0
        · rw [he] at he2
          cases he2
          exact block_lt_of_cell (h2 0 (List.length_pos_iff.2 h0))
      exact Or.inr ⟨bb, bo, he, fun j hj => k.cell (h j hj) (by show bb ≠ b; omega)⟩
theorem rinv.past {w X Y : World} {fb g n c : Nat} {ws : List W} {N l : List UInt8} {a : Option Addr} (h : rinv w fb g ws N n a l X) (hc : w.heap.size ≤ c ∧ fb ≠ c ∧ g ≠ c ∧ bytesIn w a l) (k : But c X Y) : rinv w fb g ws N n a l Y :=
  ⟨k.is h.1 hc.2.1, k.is h.2.1 hc.2.2.1, old_bytes hc.2.2.2 h.2.2.1 k hc.1, h.2.2.2.trans (k.below hc.1 h.2.2.2.size)⟩
/-- Bytes that lie in a block not older than base. -/
def newB (base : Nat) (X : World) (a : Option Addr) (l : List UInt8) : Prop := bytesIn X a l ∧ (l = [] ∨ ∃ bb bo, a = some ⟨bb, bo, none⟩ ∧ base ≤ bb)
theorem newB.of_own {w : World} {base n c : Nat} {a : Option Addr} {l : List UInt8} (h : ownB w base (.slice a n c) l) : newB base w a l := by
  obtain ⟨a', c', e, _, _, hb, _⟩ := h.form
  cases e
  refine ⟨hb, ?_⟩
  by_cases h0 : l = []
  · exact Or.inl h0
  · obtain ⟨q, cap, rest, e, hq, _⟩ := h.block h0
    cases e
    exact Or.inr ⟨q, 0, rfl, hq⟩
theorem newB.below {base : Nat} {X Y : World} {a : Option Addr} {l : List UInt8} (h : newB base X a l) (k : Below X.heap.size X Y) : newB base Y a l := ⟨h.1.below k, h.2⟩
theorem newB.past {base b : Nat} {X Y : World} {a : Option Addr} {l : List UInt8} (h : newB base X a l) (k : But b X Y) (hb : b < base) : bytesIn Y a l := by
  rcases h.1 with h0 | ⟨bb, bo, e, hc⟩
  · exact Or.inl h0
  · rcases h.2 with h0 | ⟨b2, o2, e2, h2⟩
    · exact Or.inl h0
    · rw [e] at e2
      cases e2
      exact Or.inr ⟨bb, bo, e, fun j hj => k.cell (hc j hj) (by show bb ≠ b; omega)⟩
/-- A literal of one part. -/
theorem lit_parts {w : World} {q c : Nat} {a : Option Addr} {l : List UInt8} {t : TypeId} (h : blockIs w q [Value.slice a l.length c] t) (hac : a = none → c = 0) (hb : bytesIn w a l) : partsB w (some ⟨q, 0, none⟩) [l] := by
  refine Or.inr ⟨_, _, rfl, fun j hj => ?_⟩
  obtain rfl : j = 0 := by simpa using hj
  refine ⟨a, c, ?_, hac, hb⟩
  rw [Nat.zero_add, h.cell]
  rfl
theorem steps30 (z : Int) : ∃ st : Nat, st < 1073741824 ∧ wrap64 ((IntKind.u64.wrap z).tmod 1073741824) = (st : Int) := by
  have hw := wrap_u64_nonneg z
  have h1 := Int.emod_lt_of_pos (IntKind.u64.wrap z) (show (0 : Int) < 1073741824 by omega)
  have h0 := Int.emod_nonneg (IntKind.u64.wrap z) (show (1073741824 : Int) ≠ 0 by omega)
  rw [Int.tmod_eq_emod_of_nonneg hw]
  refine ⟨(IntKind.u64.wrap z % 1073741824).toNat, by omega, ?_⟩
  unfold wrap64
  omega

set_option maxRecDepth 100000 in
set_option maxHeartbeats 8000000 in
theorem law_cipherRounds (K N : List UInt8) (p : Int) (a : Option Addr) (c : Nat) (F : List UInt8) (z : Int) (w : World) (hK : K.length = 32) (hN : N.length = 16) (hF : F.length ≤ c) (hac : a = none → c = 0) (hin : bytesIn w a F) :
    Calls Try.prog 7 #[.agg (pourCells K N p (.slice a F.length c)).toArray, .int .i64 z] w fun e w' => e = .returned (.bool true) ∧ Below w.heap.size w w' := by
  have HKL := Lib.hid hK
  have HNL := Lib.hid hN
  have HAC := Lib.hid hac
  have HP := Lib.hid (fun X => pour_any K N p a c F X hK hN hF)
  have G1 := Lib.hid (blockIs.new w (pourCells K N p (.slice a F.length c)) 45)
  have B1 := Lib.hid (alloc_below w (.cells (pourCells K N p (.slice a F.length c)).toArray 45 (0, 0)))
  have QK : Hid (bytesIn (w.alloc (.cells (pourCells K N p (.slice a F.length c)).toArray 45 (0, 0))) (some ⟨w.heap.size, 0, none⟩) K) := Lib.hid (Or.inr ⟨_, _, rfl, fun j hj => by
    rw [Nat.zero_add, G1.out.cell]
    unfold pourCells
    rw [List.getElem?_append_left (by rw [byteCells_length]; exact hj)]
    exact byteCells_get K j hj⟩)
  have CN : Hid (pourCells K N p (.slice a F.length c) = byteCells K ++ (byteCells N ++ [.int .i64 p, .slice a F.length c])) := Lib.hid rfl
  have CL : Hid ((pourCells K N p (.slice a F.length c)).length = 50) := Lib.hid (by unfold pourCells; simp [byteCells_length, hK, hN])
  have HI0 := Lib.hid (hin.take 150)
  have hFl : (F.take 150).length ≤ 150 := by rw [List.length_take]; omega
  clear hK hN hac hin hF
  generalize pourCells K N p (.slice a F.length c) = C at *
  generalize F.take 150 = l at *
  have infoPour : (Try.prog.info? 45).map (·.size) = some 50 := by kernel_rfl
  go_enter Try.func7, Try.ntmps7
  have HM := Lib.hid (make_any (some ⟨w.heap.size, 0, none⟩) 32 K (w.alloc (.cells C.toArray 45 (0, 0))) HKL.out QK.out)
  rw [HKL.out] at HM
  have HIP := Lib.hid infoPour
  clear infoPour
  go_wp2_with fail
  generalize w.alloc (.cells C.toArray 45 (0, 0)) = w1 at *
  with_reducible refine HM.out.mono ?_
  rintro e w2 ⟨g, rfl, hg1, hkey, kk⟩
  have K2 := Lib.hid hkey
  have G2 := Lib.hid (G1.out.below kk G1.out.lt)
  have B2 := Lib.hid (B1.out.trans (kk.mono B1.out.size))
  have HG1 : Hid (w.heap.size < g) := Lib.hid (Nat.lt_of_lt_of_le G1.out.lt hg1)
  clear hg1 hkey kk HM G1 B1 QK
  generalize Aes.words K 60 = ws at *
  go_wp2_with fail
  refine (hides_any _).mono ?_
  rintro e w3 ⟨rfl, kk⟩
  have K3 := Lib.hid (K2.out.below kk K2.out.lt)
  have G3 := Lib.hid (G2.out.below kk G2.out.lt)
  have B3 := Lib.hid (B2.out.trans (kk.mono B2.out.size))
  clear kk K2 G2 B2
  go_upto_region 4 with fail
  go_cut [1] (fun v wx => ∃ st : Nat, v = .int .i64 st ∧ st < 1073741824 ∧ w3 = wx)
  case first =>
    go_wp2_with fail
    all_goals
      go_meet
      case rel =>
        obtain ⟨st, h1, h2⟩ := steps30 z
        exact ⟨st, by rw [h2], h1, rfl⟩
  obtain ⟨st, rfl, hst, rfl⟩ := hcut
  have RC := Lib.hid (range_of G3.out)
  go_wp2_with (refine wpList_load_mid rfl 45 _ rfl w.heap.size 0 rfl C _ RC.out Try.underlying45 rfl (by rw [HIP.out, CL.out]) ?_)
  with_reducible refine (HP.out w3).mono ?_
  rintro e w4 ⟨rfl, kk⟩
  have K4 := Lib.hid (K3.out.below kk K3.out.lt)
  have G4 := Lib.hid (G3.out.below kk G3.out.lt)
  have B4 := Lib.hid (B3.out.trans (kk.mono B3.out.size))
  clear kk K3 G3 B3 RC HP
  have RN : Hid (w4.rangeAt w.heap.size 32 (byteCells N)) := Lib.hid (by
    have h := G4.out
    rw [CN.out] at h
    have := rangeAt_block (p := byteCells K) (cs := byteCells N) h
    rwa [byteCells_length, HKL.out] at this)
  have HBG := Lib.hid (begin_ok g N w4 HNL.out)
  have HNB : Hid ((byteCells N).length = 16) := Lib.hid (by rw [byteCells_length]; exact HNL.out)
  go_wp2_with (refine wpList_load_mid rfl 23 _ rfl w.heap.size 32 rfl (byteCells N) _ RN.out Try.underlying23 rfl (by rw [infoBlk, HNB.out]) ?_)
  with_reducible refine HBG.out.mono ?_
  rintro e w5 ⟨fb, rfl, hfb, hfl, kk⟩
  have I5 : Hid (rinv w fb g ws N 0 a l w5) := Lib.hid ⟨hfl, K4.out.below kk K4.out.lt, HI0.out.below (B4.out.trans (kk.mono B4.out.size)), B4.out.trans (kk.mono B4.out.size)⟩
  have G5 := Lib.hid (G4.out.below kk G4.out.lt)
  have HGF : Hid (g < fb) := Lib.hid (Nat.lt_of_lt_of_le K4.out.lt hfb)
  clear hfb hfl kk K4 G4 B4 RN HBG
  have hz := zeroBlk
  have NX := Lib.hid (blockIs.new w5 (zeros 16) 23)
  have k5 := alloc_below w5 (.cells (zeros 16).toArray 23 (0, 0))
  have I7 := Lib.hid (rinv.below I5.out k5)
  have G7 := Lib.hid (G5.out.below k5 G5.out.lt)
  have HAP : Hid (w.heap.size ≤ w5.heap.size ∧ fb ≠ w5.heap.size ∧ g ≠ w5.heap.size ∧ bytesIn w a l) := Lib.hid ⟨I5.out.2.2.2.size, Nat.ne_of_lt I5.out.1.lt, Nat.ne_of_lt I5.out.2.1.lt, HI0.out⟩
  have HXL : Hid (w.heap.size < w5.heap.size) := Lib.hid G5.out.lt
  have HXF : Hid (fb < w5.heap.size) := Lib.hid I5.out.1.lt
  clear k5 I5 G5
  go_upto_region 8 with fail
  generalize w5.alloc (.cells (zeros 16).toArray 23 (0, 0)) = w7 at *
  generalize w5.heap.size = Bx at *
  clear hz
  have B7 := Lib.hid I7.out.2.2.2
  have QN : Hid (bytesIn w7.drew (some ⟨w.heap.size, 32, none⟩) N) := Lib.hid (Or.inr ⟨_, _, rfl, fun j hj => by
    rw [show w7.drew.cell? ⟨w.heap.size, 32 + j, none⟩ = w7.cell? ⟨w.heap.size, 32 + j, none⟩ from rfl, G7.out.cell, CN.out, List.getElem?_append_right (by rw [byteCells_length, HKL.out]; omega), byteCells_length, HKL.out, Nat.add_sub_cancel_left, List.getElem?_append_left (by rw [byteCells_length]; exact hj)]
    exact byteCells_get N j hj⟩)
  refine wp_region_noPanic ?_
  refine wp_region_held_drew (S := fun w' => Below w.heap.size w w' ∧ bytesIn w' (some ⟨w.heap.size, 32, none⟩) N) (by kernel_rfl) ⟨below_drewN' B7.out 1, QN.out⟩ (fun hH => ?_)
  refine wpAnyH_take (i := 0) (oi := { dst := some 37, op := Op.slice 23 (Operand.tmp 9) none none none, type := 28, pos := "law.go:118", after := #[], guard := none }) (v := .slice (some ⟨Bx, 0, none⟩) 16 16) rfl (by kernel_rfl) (by kernel_rfl) (by kernel_rfl) (fun _ _ _ h => h) (Or.inl ⟨by rfl, fun wx hS => ?_⟩) hH ?_
  · go_simp
  simp only [Act.put, List.setIfInBounds_toArray, List.set_cons_zero, List.set_cons_succ]
  refine wpAnyH_take (i := 1) (oi := { dst := some 38, op := Op.fieldAddr 45 (Operand.tmp 2) 1, type := 0, pos := "law.go:118", after := #[], guard := none }) (v := .pointer (some ⟨w.heap.size, 32, none⟩)) rfl (by kernel_rfl) (by kernel_rfl) (by kernel_rfl) (fun _ _ _ h => h) (Or.inl ⟨by rfl, fun wx hS => ?_⟩) hH ?_
  · go_simp
  simp only [Act.put, List.setIfInBounds_toArray, List.set_cons_zero, List.set_cons_succ]
  refine wpAnyH_take (i := 2) (oi := { dst := some 39, op := Op.slice 23 (Operand.tmp 38) none none none, type := 28, pos := "law.go:118", after := #[{ on := 1, ground := Ground.data }], guard := none }) (v := .slice (some ⟨w.heap.size, 32, none⟩) 16 16) rfl (by kernel_rfl) (by kernel_rfl) (by kernel_rfl) (fun _ _ _ h => h) (Or.inl ⟨by rfl, fun wx hS => ?_⟩) hH ?_
  · go_simp
  simp only [Act.put, List.setIfInBounds_toArray, List.set_cons_zero, List.set_cons_succ]
  refine wpAnyH_take (i := 3) (oi := { dst := some 40, op := Op.convert 28 9 (Operand.tmp 39), type := 9, pos := "law.go:118", after := #[{ on := 2, ground := Ground.data }], guard := none }) (v := .string (str N)) rfl (by kernel_rfl) (by kernel_rfl) (by kernel_rfl) (fun _ _ _ h => h) (Or.inl ⟨by rfl, fun wx hS => ?_⟩) hH ?_
  · have e1 := conv_string wx (some ⟨w.heap.size, 32, none⟩) N 16 hS.2; rw [HNL.out] at e1; go_simp
  simp only [Act.put, List.setIfInBounds_toArray, List.set_cons_zero, List.set_cons_succ]
  refine wpAnyH_take (i := 4) (oi := { dst := some 41, op := Op.move (Operand.tmp 1), type := 3, pos := "law.go:118", after := #[], guard := none }) (v := .int .i64 (st : Int)) rfl (by kernel_rfl) (by kernel_rfl) (by kernel_rfl) (fun _ _ _ h => h) (Or.inl ⟨by rfl, fun wx hS => ?_⟩) hH ?_
  · go_simp
  simp only [Act.put, List.setIfInBounds_toArray, List.set_cons_zero, List.set_cons_succ]
  refine wpAnyH_ready (rs := [5]) (by kernel_rfl) (by simp) ?_
  refine AllReadyH.cons (o := { dst := some 42, op := Op.call { callee := Callee.value (Operand.func 23), args := #[Operand.tmp 40, Operand.tmp 41], argTypes := #[9, 3] }, type := 9, pos := "law.go:118", after := #[{ on := 3, ground := Ground.data }, { on := 4, ground := Ground.data }], guard := none }) rfl (fun KK hKK => ?_) AllReadyH.nil
  go_simp
  refine (refPlus_any N st w7.drew HNL.out (by omega)).mono ?_
  rintro e w8 ⟨rfl, kk⟩
  have hN := (⟨hH.1.trans (kk.mono hH.1.size), hH.2.below kk⟩ : Below w.heap.size w _ ∧ bytesIn _ (some ⟨w.heap.size, 32, none⟩) N)
  have I8 := Lib.hid (rinv.below I7.out (show Below w7.heap.size w7 w8 from (below_drew' (Below.refl _ _)).trans kk))
  have N8 := Lib.hid (NX.out.below (show Below w7.heap.size w7 w8 from (below_drew' (Below.refl _ _)).trans kk) NX.out.lt)
  clear hH kk I7 NX
  refine hKK.out _ _ hN (fun hH => ?_)
  clear hKK KK hN
  try simp only [Act.put, List.setIfInBounds_toArray, List.set_cons_zero, List.set_cons_succ]
  have HPL : Hid ((plus N st).length = 16) := Lib.hid (by rw [plus_len, HNL.out])
  generalize hM : plus N st = M at *
  have HM := Lib.hid hM
  clear hM
  refine wpAnyH_ready (rs := [6]) (by kernel_rfl) (by simp) ?_
  refine AllReadyH.cons (o := { dst := some 43, op := Op.call { callee := Callee.builtin Builtin.copy, args := #[Operand.tmp 37, Operand.tmp 42], argTypes := #[28, 9] }, type := 3, pos := "law.go:118", after := #[{ on := 0, ground := Ground.data }, { on := 5, ground := Ground.data }, { on := 5, ground := Ground.chain }], guard := none }) rfl (fun KK hKK => ?_) AllReadyH.nil
  refine step_copy_text rfl _ _ 28 9 rfl 5 Try.underlying28 size5 Bx 0 16 16 rfl M rfl (zeros 16) 23 N8.out (by rw [HPL.out]; decide) (by rw [HPL.out]; decide) ?_
  intro w9 h1 h2
  have h1 := h1.out
  rw [splice_all _ _ (by rw [byteCells_length, HPL.out]; rfl)] at h1
  have N9 := Lib.hid h1
  have I9 := Lib.hid (rinv.past I8.out HAP.out h2.out)
  have hN := (⟨I9.out.2.2.2, hH.2.but h2.out (Nat.ne_of_lt HXL.out)⟩ : Below w.heap.size w _ ∧ bytesIn _ (some ⟨w.heap.size, 32, none⟩) N)
  clear hH h1 h2 I8 N8
  refine hKK.out _ _ hN (fun hH => ?_)
  clear hKK KK hH hN
  try simp only [Act.put, List.setIfInBounds_toArray, List.set_cons_zero, List.set_cons_succ]
  refine wpAnyH_done (by kernel_rfl) ?_ _
  refine NoPanic.normal ?_
  have R9 := Lib.hid (range_of N9.out)
  have HBG := Lib.hid (begin_ok g M w9 HPL.out)
  have HMB : Hid ((byteCells M).length = 16) := Lib.hid (by rw [byteCells_length]; exact HPL.out)
  go_wp2_with (refine wpList_load_mid rfl 23 _ rfl Bx 0 rfl (byteCells M) _ R9.out Try.underlying23 rfl (by rw [infoBlk, HMB.out]) ?_)
  with_reducible refine HBG.out.mono ?_
  rintro e w10 ⟨fc, rfl, hfc, hfl, kk⟩
  have I10 := Lib.hid (rinv.below I9.out kk)
  have F10 := Lib.hid hfl
  have HFC : Hid (fb < fc) := Lib.hid (Nat.lt_of_lt_of_le I9.out.1.lt hfc)
  clear hfc hfl kk I9 N9 R9 HBG B7 QN G7
  go_upto_region 10 with fail
  have D10 : Below w10.heap.size w10 w10.drew := below_drew' (Below.refl _ _)
  have J0 := Lib.hid (rinv.below I10.out D10)
  have E0 := Lib.hid (F10.out.below D10 F10.out.lt)
  have HFB : Hid (w.heap.size ≤ fb ∧ fb ≠ g ∧ fc ≠ fb ∧ fc ≠ g ∧ w.heap.size ≤ fc) := Lib.hid (by have := HFC.out; have := HGF.out; have := HG1.out; omega)
  obtain ⟨m, hm⟩ : ∃ m, m = 16 * st := ⟨_, rfl⟩
  have hm2 : m ≤ 1099511627776 := by omega
  have q9 : IntKind.i64.wrap (16 * (st : Int)) = (m : Int) := by rw [IntWalk.i64_in _ (by omega)]; omega
  have HT2 : Hid (hideL ws M 0 l = hideL ws N m l) := Lib.hid (by rw [hm, hide_further ws N st l HNL.out, HM.out])
  have HM2 := Lib.hid hm2
  have HFL := Lib.hid hFl
  have HSK := Lib.hid (seek_ok fb g N 0 m w10.drew HNL.out hm2 J0.out.1)
  clear hm hm2 hFl D10 I10 F10 HM hst
  generalize hT : hideL ws N m l = T at *
  have HT1 := Lib.hid hT
  clear hT
  refine wp_region_noPanic ?_
  refine wp_region_held_drew (S := fun w' => Below w.heap.size w w') (by kernel_rfl) J0.out.2.2.2 (fun hH => ?_)
  refine wpAnyH_take (i := 0) (oi := { dst := some 50, op := Op.move (Operand.tmp 6), type := 25, pos := "law.go:120", after := #[], guard := none }) (v := .int .i64 0) rfl (by kernel_rfl) (by kernel_rfl) (by kernel_rfl) (fun _ _ _ h => h) (Or.inl ⟨by rfl, fun wx hS => ?_⟩) hH ?_
  · go_simp
  simp only [Act.put, List.setIfInBounds_toArray, List.set_cons_zero, List.set_cons_succ]
  refine wpAnyH_take (i := 1) (oi := { dst := some 51, op := Op.binOp BinOp.eql 25 (Operand.tmp 50) (Operand.const (Value.int IntKind.i64 0)) 25, type := 4, pos := "law.go:120", after := #[{ on := 0, ground := Ground.data }], guard := none }) (v := .bool true) rfl (by kernel_rfl) (by kernel_rfl) (by kernel_rfl) (fun _ _ _ h => h) (Or.inl ⟨by rfl, fun wx hS => ?_⟩) hH ?_
  · go_simp
  simp only [Act.put, List.setIfInBounds_toArray, List.set_cons_zero, List.set_cons_succ]
  refine wpAnyH_take (i := 2) (oi := { dst := some 52, op := Op.move (Operand.tmp 51), type := 4, pos := "law.go:120", after := #[{ on := 1, ground := Ground.data }], guard := none }) (v := .bool true) rfl (by kernel_rfl) (by kernel_rfl) (by kernel_rfl) (fun _ _ _ h => h) (Or.inl ⟨by rfl, fun wx hS => ?_⟩) hH ?_
  · go_simp
  simp only [Act.put, List.setIfInBounds_toArray, List.set_cons_zero, List.set_cons_succ]
  refine wpAnyH_take (i := 3) (oi := { dst := some 53, op := Op.move (Operand.tmp 11), type := 25, pos := "law.go:120", after := #[{ on := 2, ground := Ground.guard }], guard := some (2, true) }) (v := .int .i64 0) rfl (by kernel_rfl) (by kernel_rfl) (by kernel_rfl) (fun _ _ _ h => h) (Or.inl ⟨by rfl, fun wx hS => ?_⟩) hH ?_
  · go_simp
  simp only [Act.put, List.setIfInBounds_toArray, List.set_cons_zero, List.set_cons_succ]
  refine wpAnyH_take (i := 4) (oi := { dst := some 54, op := Op.binOp BinOp.eql 25 (Operand.tmp 53) (Operand.const (Value.int IntKind.i64 0)) 25, type := 4, pos := "law.go:120", after := #[{ on := 3, ground := Ground.data }, { on := 2, ground := Ground.guard }], guard := some (2, true) }) (v := .bool true) rfl (by kernel_rfl) (by kernel_rfl) (by kernel_rfl) (fun _ _ _ h => h) (Or.inl ⟨by rfl, fun wx hS => ?_⟩) hH ?_
  · go_simp
  simp only [Act.put, List.setIfInBounds_toArray, List.set_cons_zero, List.set_cons_succ]
  refine wpAnyH_take (i := 5) (oi := { dst := some 55, op := Op.pick (Operand.tmp 52) (Operand.tmp 54) (Operand.const (Value.bool false)), type := 4, pos := "law.go:120", after := #[{ on := 2, ground := Ground.data }, { on := 4, ground := Ground.data }], guard := none }) (v := .bool true) rfl (by kernel_rfl) (by kernel_rfl) (by kernel_rfl) (fun _ _ _ h => h) (Or.inl ⟨by rfl, fun wx hS => ?_⟩) hH ?_
  · go_simp
  simp only [Act.put, List.setIfInBounds_toArray, List.set_cons_zero, List.set_cons_succ]
  refine wpAnyH_take (i := 6) (oi := { dst := some 56, op := Op.move (Operand.tmp 55), type := 4, pos := "law.go:120", after := #[{ on := 5, ground := Ground.data }, { on := 2, ground := Ground.chain }], guard := none }) (v := .bool true) rfl (by kernel_rfl) (by kernel_rfl) (by kernel_rfl) (fun _ _ _ h => h) (Or.inl ⟨by rfl, fun wx hS => ?_⟩) hH ?_
  · go_simp
  simp only [Act.put, List.setIfInBounds_toArray, List.set_cons_zero, List.set_cons_succ]
  refine wpAnyH_take (i := 7) (oi := { dst := some 57, op := Op.move (Operand.tmp 8), type := 29, pos := "law.go:120", after := #[{ on := 6, ground := Ground.guard }], guard := some (6, true) }) (v := .pointer (some ⟨fb, 0, none⟩)) rfl (by kernel_rfl) (by kernel_rfl) (by kernel_rfl) (fun _ _ _ h => h) (Or.inl ⟨by rfl, fun wx hS => ?_⟩) hH ?_
  · go_simp
  simp only [Act.put, List.setIfInBounds_toArray, List.set_cons_zero, List.set_cons_succ]
  refine wpAnyH_take (i := 8) (oi := { dst := some 58, op := Op.move (Operand.tmp 1), type := 3, pos := "law.go:120", after := #[{ on := 6, ground := Ground.guard }], guard := some (6, true) }) (v := .int .i64 (st : Int)) rfl (by kernel_rfl) (by kernel_rfl) (by kernel_rfl) (fun _ _ _ h => h) (Or.inl ⟨by rfl, fun wx hS => ?_⟩) hH ?_
  · go_simp
  simp only [Act.put, List.setIfInBounds_toArray, List.set_cons_zero, List.set_cons_succ]
  refine wpAnyH_take (i := 9) (oi := { dst := some 59, op := Op.binOp BinOp.mul 3 (Operand.const (Value.int IntKind.i64 16)) (Operand.tmp 58) 3, type := 3, pos := "law.go:120", after := #[{ on := 8, ground := Ground.data }, { on := 6, ground := Ground.guard }], guard := some (6, true) }) (v := .int .i64 (m : Int)) rfl (by kernel_rfl) (by kernel_rfl) (by kernel_rfl) (fun _ _ _ h => h) (Or.inl ⟨by rfl, fun wx hS => ?_⟩) hH ?_
  · have e1 := q9; go_simp
  simp only [Act.put, List.setIfInBounds_toArray, List.set_cons_zero, List.set_cons_succ]
  clear q9
  refine wpAnyH_ready (rs := [10]) (by kernel_rfl) (by simp) ?_
  refine AllReadyH.cons (o := { dst := some 60, op := Op.call { callee := Callee.value (Operand.func 20), args := #[Operand.tmp 57, Operand.tmp 59], argTypes := #[29, 3] }, type := 25, pos := "law.go:120", after := #[{ on := 7, ground := Ground.data }, { on := 9, ground := Ground.data }, { on := 6, ground := Ground.chain }, { on := 6, ground := Ground.guard }], guard := some (6, true) }) rfl (fun KK hKK => ?_) AllReadyH.nil
  go_simp
  with_reducible refine HSK.out.mono ?_
  rintro e w11 ⟨rfl, hfl, hbut⟩
  have J1 : Hid (rinv w fb g ws N m a l w11) := Lib.hid ⟨hfl, hbut.is J0.out.2.1 (Ne.symm HFB.out.2.1), old_bytes HI0.out J0.out.2.2.1 hbut HFB.out.1, J0.out.2.2.2.trans (hbut.below HFB.out.1 J0.out.2.2.2.size)⟩
  have E1 := Lib.hid (hbut.is E0.out HFB.out.2.2.1)
  clear hfl hbut hH J0 E0 HSK
  refine hKK.out _ _ J1.out.2.2.2 (fun hH => ?_)
  clear hKK KK
  try simp only [Act.put, List.setIfInBounds_toArray, List.set_cons_zero, List.set_cons_succ]
  refine wpAnyH_take (i := 11) (oi := { dst := some 61, op := Op.binOp BinOp.eql 25 (Operand.tmp 60) (Operand.const (Value.int IntKind.i64 0)) 25, type := 4, pos := "law.go:120", after := #[{ on := 10, ground := Ground.data }, { on := 6, ground := Ground.guard }], guard := some (6, true) }) (v := .bool true) rfl (by kernel_rfl) (by kernel_rfl) (by kernel_rfl) (fun _ _ _ h => h) (Or.inl ⟨by rfl, fun wx hS => ?_⟩) hH ?_
  · go_simp
  simp only [Act.put, List.setIfInBounds_toArray, List.set_cons_zero, List.set_cons_succ]
  refine wpAnyH_take (i := 12) (oi := { dst := some 62, op := Op.pick (Operand.tmp 56) (Operand.tmp 61) (Operand.const (Value.bool false)), type := 4, pos := "law.go:120", after := #[{ on := 6, ground := Ground.data }, { on := 11, ground := Ground.data }], guard := none }) (v := .bool true) rfl (by kernel_rfl) (by kernel_rfl) (by kernel_rfl) (fun _ _ _ h => h) (Or.inl ⟨by rfl, fun wx hS => ?_⟩) hH ?_
  · go_simp
  simp only [Act.put, List.setIfInBounds_toArray, List.set_cons_zero, List.set_cons_succ]
  refine wpAnyH_take (i := 13) (oi := { dst := some 63, op := Op.move (Operand.tmp 62), type := 4, pos := "law.go:120", after := #[{ on := 12, ground := Ground.data }, { on := 10, ground := Ground.chain }], guard := none }) (v := .bool true) rfl (by kernel_rfl) (by kernel_rfl) (by kernel_rfl) (fun _ _ _ h => h) (Or.inl ⟨by rfl, fun wx hS => ?_⟩) hH ?_
  · go_simp
  simp only [Act.put, List.setIfInBounds_toArray, List.set_cons_zero, List.set_cons_succ]
  refine wpAnyH_take (i := 14) (oi := { dst := some 64, op := Op.move (Operand.tmp 8), type := 29, pos := "law.go:120", after := #[{ on := 13, ground := Ground.guard }], guard := some (13, true) }) (v := .pointer (some ⟨fb, 0, none⟩)) rfl (by kernel_rfl) (by kernel_rfl) (by kernel_rfl) (fun _ _ _ h => h) (Or.inl ⟨by rfl, fun wx hS => ?_⟩) hH ?_
  · go_simp
  simp only [Act.put, List.setIfInBounds_toArray, List.set_cons_zero, List.set_cons_succ]
  refine wpAnyH_take (i := 15) (oi := { dst := some 65, op := Op.move (Operand.tmp 7), type := 28, pos := "law.go:120", after := #[{ on := 13, ground := Ground.guard }], guard := some (13, true) }) (v := .slice a l.length c) rfl (by kernel_rfl) (by kernel_rfl) (by kernel_rfl) (fun _ _ _ h => h) (Or.inl ⟨by rfl, fun wx hS => ?_⟩) hH ?_
  · go_simp
  simp only [Act.put, List.setIfInBounds_toArray, List.set_cons_zero, List.set_cons_succ]
  refine wpAnyH_take (i := 19) (oi := { dst := some 69, op := Op.move (Operand.tmp 10), type := 29, pos := "law.go:120", after := #[{ on := 13, ground := Ground.guard }], guard := some (13, true) }) (v := .pointer (some ⟨fc, 0, none⟩)) rfl (by kernel_rfl) (by kernel_rfl) (by kernel_rfl) (fun _ _ _ h => h) (Or.inl ⟨by rfl, fun wx hS => ?_⟩) hH ?_
  · go_simp
  simp only [Act.put, List.setIfInBounds_toArray, List.set_cons_zero, List.set_cons_succ]
  refine wpAnyH_take (i := 20) (oi := { dst := some 70, op := Op.move (Operand.tmp 7), type := 28, pos := "law.go:120", after := #[{ on := 13, ground := Ground.guard }], guard := some (13, true) }) (v := .slice a l.length c) rfl (by kernel_rfl) (by kernel_rfl) (by kernel_rfl) (fun _ _ _ h => h) (Or.inl ⟨by rfl, fun wx hS => ?_⟩) hH ?_
  · go_simp
  simp only [Act.put, List.setIfInBounds_toArray, List.set_cons_zero, List.set_cons_succ]
  clear hH
  refine wpAnyH_ready (rs := [16, 21]) (by kernel_rfl) (by simp) ?_
  refine (AllReadyH.cons (o := { dst := some 66, op := Op.buildSlice 76 1 #[(0, Operand.tmp 65)], type := 76, pos := "law.go:120", after := #[{ on := 15, ground := Ground.data }, { on := 13, ground := Ground.guard }], guard := some (13, true) }) rfl (fun KK hKK => ?_) (AllReadyH.cons (o := { dst := some 71, op := Op.buildSlice 76 1 #[(0, Operand.tmp 70)], type := 76, pos := "law.go:120", after := #[{ on := 20, ground := Ground.data }, { on := 13, ground := Ground.guard }], guard := some (13, true) }) rfl (fun KK hKK => ?_) AllReadyH.nil))
  · go_simp
    have kb := alloc_below w11 (.cells [Value.slice a l.length c].toArray 28 (0, 0))
    have L23 := Lib.hid (blockIs.new w11 [Value.slice a l.length c] 28)
    have J21 := Lib.hid (rinv.below J1.out kb)
    have E22 := Lib.hid (E1.out.below kb E1.out.lt)
    have NF_p24 : Hid (w11.heap.size ≠ fb ∧ w11.heap.size ≠ fc) := Lib.hid ⟨Nat.ne_of_gt J1.out.1.lt, Nat.ne_of_gt E1.out.lt⟩
    clear kb J1 E1
    refine hKK.out _ _ J21.out.2.2.2 (fun hH => ?_)
    clear hKK KK hH
    try simp only [Act.put, List.setIfInBounds_toArray, List.set_cons_zero, List.set_cons_succ]
    generalize w11.alloc (.cells #[Value.slice a l.length c] 28 (0, 0)) = x25 at *
    generalize w11.heap.size = p24 at *
    refine wpAnyH_ready (rs := [17, 21]) (by kernel_rfl) (by simp) ?_
    refine (AllReadyH.cons (o := { dst := some 67, op := Op.call { callee := Callee.value (Operand.func 18), args := #[Operand.tmp 64, Operand.tmp 66], argTypes := #[29, 76] }, type := 28, pos := "law.go:120", after := #[{ on := 14, ground := Ground.data }, { on := 16, ground := Ground.data }, { on := 13, ground := Ground.chain }, { on := 13, ground := Ground.guard }], guard := some (13, true) }) rfl (fun KK hKK => ?_) (AllReadyH.cons (o := { dst := some 71, op := Op.buildSlice 76 1 #[(0, Operand.tmp 70)], type := 76, pos := "law.go:120", after := #[{ on := 20, ground := Ground.data }, { on := 13, ground := Ground.guard }], guard := some (13, true) }) rfl (fun KK hKK => ?_) AllReadyH.nil))
    · go_simp
      have HH := hide_any fb g ws N m (some ⟨p24, 0, none⟩) 1 [l] x25 HNL.out HM2.out (by simp) (by have := HFL.out; simp; omega) J21.out.1 J21.out.2.1 HFB.out.2.1 (lit_parts L23.out HAC.out J21.out.2.2.1)
      rw [show [l].flatten = l by simp, show ([l] : List (List UInt8)).length = 1 from rfl, HT1.out] at HH
      refine HH.mono ?_
      clear HH
      rintro e x28 ⟨v, rfl, own, hfl, hbut⟩
      obtain ⟨sa29, sc30, rfl, _, _, _, _⟩ := own.form
      have TB31 := Lib.hid (newB.of_own own)
      have J26 : Hid (rinv w fb g ws N (m + l.length) a l x28) := Lib.hid ⟨hfl, hbut.is J21.out.2.1 (Ne.symm HFB.out.2.1), old_bytes HI0.out J21.out.2.2.1 hbut HFB.out.1, J21.out.2.2.2.trans (hbut.below HFB.out.1 J21.out.2.2.2.size)⟩
      have E27 := Lib.hid (hbut.is E22.out HFB.out.2.2.1)
      have HLT : Hid (fc < x25.heap.size) := Lib.hid E22.out.lt
      clear own hfl hbut J21 E22 L23
      refine hKK.out _ _ J26.out.2.2.2 (fun hH => ?_)
      clear hKK KK hH
      try simp only [Act.put, List.setIfInBounds_toArray, List.set_cons_zero, List.set_cons_succ]
      refine wpAnyH_stronger (S' := fun X => Below w.heap.size w X ∧ bytesIn X sa29 T) (fun _ h => h.1) _ _ _ _ ?_
      have hH : Below w.heap.size w x28 ∧ bytesIn x28 sa29 T := ⟨J26.out.2.2.2, TB31.out.1⟩
      refine wpAnyH_take (i := 18) (oi := { dst := some 68, op := Op.convert 28 9 (Operand.tmp 67), type := 9, pos := "law.go:120", after := #[{ on := 17, ground := Ground.data }, { on := 13, ground := Ground.guard }], guard := some (13, true) }) (v := .string (str T)) rfl (by kernel_rfl) (by kernel_rfl) (by kernel_rfl) (fun _ _ _ h => h) (Or.inl ⟨by rfl, fun wx hS => ?_⟩) hH ?_
      · have e1 := conv_string wx sa29 T sc30 hS.2; go_simp
      simp only [Act.put, List.setIfInBounds_toArray, List.set_cons_zero, List.set_cons_succ]
      clear hH
      refine wpAnyH_ready (rs := [21]) (by kernel_rfl) (by simp) ?_
      refine (AllReadyH.cons (o := { dst := some 71, op := Op.buildSlice 76 1 #[(0, Operand.tmp 70)], type := 76, pos := "law.go:120", after := #[{ on := 20, ground := Ground.data }, { on := 13, ground := Ground.guard }], guard := some (13, true) }) rfl (fun KK hKK => ?_) AllReadyH.nil)
      go_simp
      have kb := alloc_below x28 (.cells [Value.slice a l.length c].toArray 28 (0, 0))
      have L34 := Lib.hid (blockIs.new x28 [Value.slice a l.length c] 28)
      have J32 := Lib.hid (rinv.below J26.out kb)
      have E33 := Lib.hid (E27.out.below kb E27.out.lt)
      have NF_p35 : Hid (x28.heap.size ≠ fb ∧ x28.heap.size ≠ fc) := Lib.hid ⟨Nat.ne_of_gt J26.out.1.lt, Nat.ne_of_gt E27.out.lt⟩
      have TB37 := Lib.hid (TB31.out.below kb)
      clear TB31
      clear kb J26 E27
      refine hKK.out _ _ ⟨J32.out.2.2.2, TB37.out.1⟩ (fun hH => ?_)
      clear hKK KK hH
      try simp only [Act.put, List.setIfInBounds_toArray, List.set_cons_zero, List.set_cons_succ]
      generalize x28.alloc (.cells #[Value.slice a l.length c] 28 (0, 0)) = x36 at *
      generalize x28.heap.size = p35 at *
      refine wpAnyH_ready (rs := [22]) (by kernel_rfl) (by simp) ?_
      refine (AllReadyH.cons (o := { dst := some 72, op := Op.call { callee := Callee.value (Operand.func 18), args := #[Operand.tmp 69, Operand.tmp 71], argTypes := #[29, 76] }, type := 28, pos := "law.go:120", after := #[{ on := 19, ground := Ground.data }, { on := 21, ground := Ground.data }, { on := 17, ground := Ground.chain }, { on := 13, ground := Ground.guard }], guard := some (13, true) }) rfl (fun KK hKK => ?_) AllReadyH.nil)
      go_simp
      have HH := hide_any fc g ws M 0 (some ⟨p35, 0, none⟩) 1 [l] x36 HPL.out (by decide) (by simp) (by have := HFL.out; simp; omega) E33.out J32.out.2.1 HFB.out.2.2.2.1 (lit_parts L34.out HAC.out J32.out.2.2.1)
      rw [show [l].flatten = l by simp, show ([l] : List (List UInt8)).length = 1 from rfl, HT2.out] at HH
      refine HH.mono ?_
      clear HH
      rintro e x38 ⟨v, rfl, own, hfl, hbut⟩
      obtain ⟨ta39, tc40, rfl, _, _, hb, _⟩ := own.form
      have hN : Below w.heap.size w x38 ∧ bytesIn x38 sa29 T := ⟨J32.out.2.2.2.trans (hbut.below HFB.out.2.2.2.2 J32.out.2.2.2.size), TB37.out.past hbut HLT.out⟩
      have HN := Lib.hid hN
      have HB := Lib.hid hb
      clear own hfl hbut hb J32 E33 L34 TB37
      refine hKK.out _ _ hN (fun hH => ?_)
      clear hKK KK hH hN
      try simp only [Act.put, List.setIfInBounds_toArray, List.set_cons_zero, List.set_cons_succ]
      refine wpAnyH_ready (rs := [23]) (by kernel_rfl) (by simp) ?_
      refine AllReadyH.cons (o := { dst := some 73, op := Op.convert 28 9 (Operand.tmp 72), type := 9, pos := "law.go:120", after := #[{ on := 22, ground := Ground.data }, { on := 13, ground := Ground.guard }], guard := some (13, true) }) rfl (fun KK hKK => ?_) AllReadyH.nil
      have e1 := conv_string x38 ta39 T tc40 HB.out
      go_simp
      refine hKK.out _ _ HN.out (fun hH => ?_)
      clear hKK KK hH e1
      try simp only [Act.put, List.setIfInBounds_toArray, List.set_cons_zero, List.set_cons_succ]
      refine wpAnyH_ready (rs := [24]) (by kernel_rfl) (by simp) ?_
      refine AllReadyH.cons (o := { dst := some 74, op := Op.binOp BinOp.eql 9 (Operand.tmp 68) (Operand.tmp 73) 9, type := 4, pos := "law.go:120", after := #[{ on := 18, ground := Ground.data }, { on := 23, ground := Ground.data }, { on := 13, ground := Ground.guard }], guard := some (13, true) }) rfl (fun KK hKK => ?_) AllReadyH.nil
      go_simp
      refine hKK.out _ _ HN.out (fun hH => ?_)
      clear hKK KK hH
      try simp only [Act.put, List.setIfInBounds_toArray, List.set_cons_zero, List.set_cons_succ]
      refine wpAnyH_ready (rs := [25]) (by kernel_rfl) (by simp) ?_
      refine AllReadyH.cons (o := { dst := some 75, op := Op.pick (Operand.tmp 63) (Operand.tmp 74) (Operand.const (Value.bool false)), type := 4, pos := "law.go:120", after := #[{ on := 13, ground := Ground.data }, { on := 24, ground := Ground.data }], guard := none }) rfl (fun KK hKK => ?_) AllReadyH.nil
      go_simp
      refine hKK.out _ _ HN.out (fun hH => ?_)
      clear hKK KK hH
      try simp only [Act.put, List.setIfInBounds_toArray, List.set_cons_zero, List.set_cons_succ]
      refine wpAnyH_ready (rs := [26]) (by kernel_rfl) (by simp) ?_
      refine AllReadyH.cons (o := { dst := some 4, op := Op.assign (Operand.tmp 75), type := 4, pos := "law.go:120", after := #[{ on := 25, ground := Ground.data }, { on := 22, ground := Ground.chain }, { on := 0, ground := Ground.phase }, { on := 1, ground := Ground.phase }, { on := 2, ground := Ground.phase }, { on := 3, ground := Ground.phase }, { on := 4, ground := Ground.phase }, { on := 5, ground := Ground.phase }, { on := 6, ground := Ground.phase }, { on := 7, ground := Ground.phase }, { on := 8, ground := Ground.phase }, { on := 9, ground := Ground.phase }, { on := 10, ground := Ground.phase }, { on := 11, ground := Ground.phase }, { on := 12, ground := Ground.phase }, { on := 13, ground := Ground.phase }, { on := 14, ground := Ground.phase }, { on := 15, ground := Ground.phase }, { on := 16, ground := Ground.phase }, { on := 17, ground := Ground.phase }, { on := 18, ground := Ground.phase }, { on := 19, ground := Ground.phase }, { on := 20, ground := Ground.phase }, { on := 21, ground := Ground.phase }, { on := 22, ground := Ground.phase }, { on := 23, ground := Ground.phase }, { on := 24, ground := Ground.phase }, { on := 25, ground := Ground.phase }], guard := none }) rfl (fun KK hKK => ?_) AllReadyH.nil
      go_simp
      refine hKK.out _ _ HN.out (fun hH => ?_)
      clear hKK KK hH
      try simp only [Act.put, List.setIfInBounds_toArray, List.set_cons_zero, List.set_cons_succ]
      refine wpAnyH_done (by kernel_rfl) ?_ _
      refine NoPanic.normal ?_
      have HBE := Lib.hid HN.out.1
      go_wp2_with fail
      go_ret
      exact ⟨rfl, HBE.out⟩
    · go_simp
      have kb := alloc_below x25 (.cells [Value.slice a l.length c].toArray 28 (0, 0))
      have L43 := Lib.hid (blockIs.new x25 [Value.slice a l.length c] 28)
      have J41 := Lib.hid (rinv.below J21.out kb)
      have E42 := Lib.hid (E22.out.below kb E22.out.lt)
      have NF_p44 : Hid (x25.heap.size ≠ fb ∧ x25.heap.size ≠ fc) := Lib.hid ⟨Nat.ne_of_gt J21.out.1.lt, Nat.ne_of_gt E22.out.lt⟩
      have L46 := Lib.hid (L23.out.below kb L23.out.lt)
      clear L23
      clear kb J21 E22
      refine hKK.out _ _ J41.out.2.2.2 (fun hH => ?_)
      clear hKK KK hH
      try simp only [Act.put, List.setIfInBounds_toArray, List.set_cons_zero, List.set_cons_succ]
      generalize x25.alloc (.cells #[Value.slice a l.length c] 28 (0, 0)) = x45 at *
      generalize x25.heap.size = p44 at *
      refine wpAnyH_ready (rs := [17]) (by kernel_rfl) (by simp) ?_
      refine (AllReadyH.cons (o := { dst := some 67, op := Op.call { callee := Callee.value (Operand.func 18), args := #[Operand.tmp 64, Operand.tmp 66], argTypes := #[29, 76] }, type := 28, pos := "law.go:120", after := #[{ on := 14, ground := Ground.data }, { on := 16, ground := Ground.data }, { on := 13, ground := Ground.chain }, { on := 13, ground := Ground.guard }], guard := some (13, true) }) rfl (fun KK hKK => ?_) AllReadyH.nil)
      go_simp
      have HH := hide_any fb g ws N m (some ⟨p24, 0, none⟩) 1 [l] x45 HNL.out HM2.out (by simp) (by have := HFL.out; simp; omega) J41.out.1 J41.out.2.1 HFB.out.2.1 (lit_parts L46.out HAC.out J41.out.2.2.1)
      rw [show [l].flatten = l by simp, show ([l] : List (List UInt8)).length = 1 from rfl, HT1.out] at HH
      refine HH.mono ?_
      clear HH
      rintro e x49 ⟨v, rfl, own, hfl, hbut⟩
      obtain ⟨sa50, sc51, rfl, _, _, _, _⟩ := own.form
      have TB52 := Lib.hid (newB.of_own own)
      have J47 : Hid (rinv w fb g ws N (m + l.length) a l x49) := Lib.hid ⟨hfl, hbut.is J41.out.2.1 (Ne.symm HFB.out.2.1), old_bytes HI0.out J41.out.2.2.1 hbut HFB.out.1, J41.out.2.2.2.trans (hbut.below HFB.out.1 J41.out.2.2.2.size)⟩
      have E48 := Lib.hid (hbut.is E42.out HFB.out.2.2.1)
      have HLT : Hid (fc < x45.heap.size) := Lib.hid E42.out.lt
      have L53 := Lib.hid (hbut.is L43.out NF_p44.out.1)
      clear L43
      clear own hfl hbut J41 E42 L46
      refine hKK.out _ _ J47.out.2.2.2 (fun hH => ?_)
      clear hKK KK hH
      try simp only [Act.put, List.setIfInBounds_toArray, List.set_cons_zero, List.set_cons_succ]
      refine wpAnyH_stronger (S' := fun X => Below w.heap.size w X ∧ bytesIn X sa50 T) (fun _ h => h.1) _ _ _ _ ?_
      have hH : Below w.heap.size w x49 ∧ bytesIn x49 sa50 T := ⟨J47.out.2.2.2, TB52.out.1⟩
      refine wpAnyH_take (i := 18) (oi := { dst := some 68, op := Op.convert 28 9 (Operand.tmp 67), type := 9, pos := "law.go:120", after := #[{ on := 17, ground := Ground.data }, { on := 13, ground := Ground.guard }], guard := some (13, true) }) (v := .string (str T)) rfl (by kernel_rfl) (by kernel_rfl) (by kernel_rfl) (fun _ _ _ h => h) (Or.inl ⟨by rfl, fun wx hS => ?_⟩) hH ?_
      · have e1 := conv_string wx sa50 T sc51 hS.2; go_simp
      simp only [Act.put, List.setIfInBounds_toArray, List.set_cons_zero, List.set_cons_succ]
      clear hH
      refine wpAnyH_ready (rs := [22]) (by kernel_rfl) (by simp) ?_
      refine (AllReadyH.cons (o := { dst := some 72, op := Op.call { callee := Callee.value (Operand.func 18), args := #[Operand.tmp 69, Operand.tmp 71], argTypes := #[29, 76] }, type := 28, pos := "law.go:120", after := #[{ on := 19, ground := Ground.data }, { on := 21, ground := Ground.data }, { on := 17, ground := Ground.chain }, { on := 13, ground := Ground.guard }], guard := some (13, true) }) rfl (fun KK hKK => ?_) AllReadyH.nil)
      go_simp
      have HH := hide_any fc g ws M 0 (some ⟨p44, 0, none⟩) 1 [l] x49 HPL.out (by decide) (by simp) (by have := HFL.out; simp; omega) E48.out J47.out.2.1 HFB.out.2.2.2.1 (lit_parts L53.out HAC.out J47.out.2.2.1)
      rw [show [l].flatten = l by simp, show ([l] : List (List UInt8)).length = 1 from rfl, HT2.out] at HH
      refine HH.mono ?_
      clear HH
      rintro e x54 ⟨v, rfl, own, hfl, hbut⟩
      obtain ⟨ta55, tc56, rfl, _, _, hb, _⟩ := own.form
      have hN : Below w.heap.size w x54 ∧ bytesIn x54 sa50 T := ⟨J47.out.2.2.2.trans (hbut.below HFB.out.2.2.2.2 J47.out.2.2.2.size), TB52.out.past hbut HLT.out⟩
      have HN := Lib.hid hN
      have HB := Lib.hid hb
      clear own hfl hbut hb J47 E48 L53 TB52
      refine hKK.out _ _ hN (fun hH => ?_)
      clear hKK KK hH hN
      try simp only [Act.put, List.setIfInBounds_toArray, List.set_cons_zero, List.set_cons_succ]
      refine wpAnyH_ready (rs := [23]) (by kernel_rfl) (by simp) ?_
      refine AllReadyH.cons (o := { dst := some 73, op := Op.convert 28 9 (Operand.tmp 72), type := 9, pos := "law.go:120", after := #[{ on := 22, ground := Ground.data }, { on := 13, ground := Ground.guard }], guard := some (13, true) }) rfl (fun KK hKK => ?_) AllReadyH.nil
      have e1 := conv_string x54 ta55 T tc56 HB.out
      go_simp
      refine hKK.out _ _ HN.out (fun hH => ?_)
      clear hKK KK hH e1
      try simp only [Act.put, List.setIfInBounds_toArray, List.set_cons_zero, List.set_cons_succ]
      refine wpAnyH_ready (rs := [24]) (by kernel_rfl) (by simp) ?_
      refine AllReadyH.cons (o := { dst := some 74, op := Op.binOp BinOp.eql 9 (Operand.tmp 68) (Operand.tmp 73) 9, type := 4, pos := "law.go:120", after := #[{ on := 18, ground := Ground.data }, { on := 23, ground := Ground.data }, { on := 13, ground := Ground.guard }], guard := some (13, true) }) rfl (fun KK hKK => ?_) AllReadyH.nil
      go_simp
      refine hKK.out _ _ HN.out (fun hH => ?_)
      clear hKK KK hH
      try simp only [Act.put, List.setIfInBounds_toArray, List.set_cons_zero, List.set_cons_succ]
      refine wpAnyH_ready (rs := [25]) (by kernel_rfl) (by simp) ?_
      refine AllReadyH.cons (o := { dst := some 75, op := Op.pick (Operand.tmp 63) (Operand.tmp 74) (Operand.const (Value.bool false)), type := 4, pos := "law.go:120", after := #[{ on := 13, ground := Ground.data }, { on := 24, ground := Ground.data }], guard := none }) rfl (fun KK hKK => ?_) AllReadyH.nil
      go_simp
      refine hKK.out _ _ HN.out (fun hH => ?_)
      clear hKK KK hH
      try simp only [Act.put, List.setIfInBounds_toArray, List.set_cons_zero, List.set_cons_succ]
      refine wpAnyH_ready (rs := [26]) (by kernel_rfl) (by simp) ?_
      refine AllReadyH.cons (o := { dst := some 4, op := Op.assign (Operand.tmp 75), type := 4, pos := "law.go:120", after := #[{ on := 25, ground := Ground.data }, { on := 22, ground := Ground.chain }, { on := 0, ground := Ground.phase }, { on := 1, ground := Ground.phase }, { on := 2, ground := Ground.phase }, { on := 3, ground := Ground.phase }, { on := 4, ground := Ground.phase }, { on := 5, ground := Ground.phase }, { on := 6, ground := Ground.phase }, { on := 7, ground := Ground.phase }, { on := 8, ground := Ground.phase }, { on := 9, ground := Ground.phase }, { on := 10, ground := Ground.phase }, { on := 11, ground := Ground.phase }, { on := 12, ground := Ground.phase }, { on := 13, ground := Ground.phase }, { on := 14, ground := Ground.phase }, { on := 15, ground := Ground.phase }, { on := 16, ground := Ground.phase }, { on := 17, ground := Ground.phase }, { on := 18, ground := Ground.phase }, { on := 19, ground := Ground.phase }, { on := 20, ground := Ground.phase }, { on := 21, ground := Ground.phase }, { on := 22, ground := Ground.phase }, { on := 23, ground := Ground.phase }, { on := 24, ground := Ground.phase }, { on := 25, ground := Ground.phase }], guard := none }) rfl (fun KK hKK => ?_) AllReadyH.nil
      go_simp
      refine hKK.out _ _ HN.out (fun hH => ?_)
      clear hKK KK hH
      try simp only [Act.put, List.setIfInBounds_toArray, List.set_cons_zero, List.set_cons_succ]
      refine wpAnyH_done (by kernel_rfl) ?_ _
      refine NoPanic.normal ?_
      have HBE := Lib.hid HN.out.1
      go_wp2_with fail
      go_ret
      exact ⟨rfl, HBE.out⟩
  · go_simp
    have kb := alloc_below w11 (.cells [Value.slice a l.length c].toArray 28 (0, 0))
    have L59 := Lib.hid (blockIs.new w11 [Value.slice a l.length c] 28)
    have J57 := Lib.hid (rinv.below J1.out kb)
    have E58 := Lib.hid (E1.out.below kb E1.out.lt)
    have NF_p60 : Hid (w11.heap.size ≠ fb ∧ w11.heap.size ≠ fc) := Lib.hid ⟨Nat.ne_of_gt J1.out.1.lt, Nat.ne_of_gt E1.out.lt⟩
    clear kb J1 E1
    refine hKK.out _ _ J57.out.2.2.2 (fun hH => ?_)
    clear hKK KK hH
    try simp only [Act.put, List.setIfInBounds_toArray, List.set_cons_zero, List.set_cons_succ]
    generalize w11.alloc (.cells #[Value.slice a l.length c] 28 (0, 0)) = x61 at *
    generalize w11.heap.size = p60 at *
    refine wpAnyH_ready (rs := [16]) (by kernel_rfl) (by simp) ?_
    refine (AllReadyH.cons (o := { dst := some 66, op := Op.buildSlice 76 1 #[(0, Operand.tmp 65)], type := 76, pos := "law.go:120", after := #[{ on := 15, ground := Ground.data }, { on := 13, ground := Ground.guard }], guard := some (13, true) }) rfl (fun KK hKK => ?_) AllReadyH.nil)
    go_simp
    have kb := alloc_below x61 (.cells [Value.slice a l.length c].toArray 28 (0, 0))
    have L64 := Lib.hid (blockIs.new x61 [Value.slice a l.length c] 28)
    have J62 := Lib.hid (rinv.below J57.out kb)
    have E63 := Lib.hid (E58.out.below kb E58.out.lt)
    have NF_p65 : Hid (x61.heap.size ≠ fb ∧ x61.heap.size ≠ fc) := Lib.hid ⟨Nat.ne_of_gt J57.out.1.lt, Nat.ne_of_gt E58.out.lt⟩
    have L67 := Lib.hid (L59.out.below kb L59.out.lt)
    clear L59
    clear kb J57 E58
    refine hKK.out _ _ J62.out.2.2.2 (fun hH => ?_)
    clear hKK KK hH
    try simp only [Act.put, List.setIfInBounds_toArray, List.set_cons_zero, List.set_cons_succ]
    generalize x61.alloc (.cells #[Value.slice a l.length c] 28 (0, 0)) = x66 at *
    generalize x61.heap.size = p65 at *
    refine wpAnyH_ready (rs := [17]) (by kernel_rfl) (by simp) ?_
    refine (AllReadyH.cons (o := { dst := some 67, op := Op.call { callee := Callee.value (Operand.func 18), args := #[Operand.tmp 64, Operand.tmp 66], argTypes := #[29, 76] }, type := 28, pos := "law.go:120", after := #[{ on := 14, ground := Ground.data }, { on := 16, ground := Ground.data }, { on := 13, ground := Ground.chain }, { on := 13, ground := Ground.guard }], guard := some (13, true) }) rfl (fun KK hKK => ?_) AllReadyH.nil)
    go_simp
    have HH := hide_any fb g ws N m (some ⟨p65, 0, none⟩) 1 [l] x66 HNL.out HM2.out (by simp) (by have := HFL.out; simp; omega) J62.out.1 J62.out.2.1 HFB.out.2.1 (lit_parts L64.out HAC.out J62.out.2.2.1)
    rw [show [l].flatten = l by simp, show ([l] : List (List UInt8)).length = 1 from rfl, HT1.out] at HH
    refine HH.mono ?_
    clear HH
    rintro e x70 ⟨v, rfl, own, hfl, hbut⟩
    obtain ⟨sa71, sc72, rfl, _, _, _, _⟩ := own.form
    have TB73 := Lib.hid (newB.of_own own)
    have J68 : Hid (rinv w fb g ws N (m + l.length) a l x70) := Lib.hid ⟨hfl, hbut.is J62.out.2.1 (Ne.symm HFB.out.2.1), old_bytes HI0.out J62.out.2.2.1 hbut HFB.out.1, J62.out.2.2.2.trans (hbut.below HFB.out.1 J62.out.2.2.2.size)⟩
    have E69 := Lib.hid (hbut.is E63.out HFB.out.2.2.1)
    have HLT : Hid (fc < x66.heap.size) := Lib.hid E63.out.lt
    have L74 := Lib.hid (hbut.is L67.out NF_p60.out.1)
    clear L67
    clear own hfl hbut J62 E63 L64
    refine hKK.out _ _ J68.out.2.2.2 (fun hH => ?_)
    clear hKK KK hH
    try simp only [Act.put, List.setIfInBounds_toArray, List.set_cons_zero, List.set_cons_succ]
    refine wpAnyH_stronger (S' := fun X => Below w.heap.size w X ∧ bytesIn X sa71 T) (fun _ h => h.1) _ _ _ _ ?_
    have hH : Below w.heap.size w x70 ∧ bytesIn x70 sa71 T := ⟨J68.out.2.2.2, TB73.out.1⟩
    refine wpAnyH_take (i := 18) (oi := { dst := some 68, op := Op.convert 28 9 (Operand.tmp 67), type := 9, pos := "law.go:120", after := #[{ on := 17, ground := Ground.data }, { on := 13, ground := Ground.guard }], guard := some (13, true) }) (v := .string (str T)) rfl (by kernel_rfl) (by kernel_rfl) (by kernel_rfl) (fun _ _ _ h => h) (Or.inl ⟨by rfl, fun wx hS => ?_⟩) hH ?_
    · have e1 := conv_string wx sa71 T sc72 hS.2; go_simp
    simp only [Act.put, List.setIfInBounds_toArray, List.set_cons_zero, List.set_cons_succ]
    clear hH
    refine wpAnyH_ready (rs := [22]) (by kernel_rfl) (by simp) ?_
    refine (AllReadyH.cons (o := { dst := some 72, op := Op.call { callee := Callee.value (Operand.func 18), args := #[Operand.tmp 69, Operand.tmp 71], argTypes := #[29, 76] }, type := 28, pos := "law.go:120", after := #[{ on := 19, ground := Ground.data }, { on := 21, ground := Ground.data }, { on := 17, ground := Ground.chain }, { on := 13, ground := Ground.guard }], guard := some (13, true) }) rfl (fun KK hKK => ?_) AllReadyH.nil)
    go_simp
    have HH := hide_any fc g ws M 0 (some ⟨p60, 0, none⟩) 1 [l] x70 HPL.out (by decide) (by simp) (by have := HFL.out; simp; omega) E69.out J68.out.2.1 HFB.out.2.2.2.1 (lit_parts L74.out HAC.out J68.out.2.2.1)
    rw [show [l].flatten = l by simp, show ([l] : List (List UInt8)).length = 1 from rfl, HT2.out] at HH
    refine HH.mono ?_
    clear HH
    rintro e x75 ⟨v, rfl, own, hfl, hbut⟩
    obtain ⟨ta76, tc77, rfl, _, _, hb, _⟩ := own.form
    have hN : Below w.heap.size w x75 ∧ bytesIn x75 sa71 T := ⟨J68.out.2.2.2.trans (hbut.below HFB.out.2.2.2.2 J68.out.2.2.2.size), TB73.out.past hbut HLT.out⟩
    have HN := Lib.hid hN
    have HB := Lib.hid hb
    clear own hfl hbut hb J68 E69 L74 TB73
    refine hKK.out _ _ hN (fun hH => ?_)
    clear hKK KK hH hN
    try simp only [Act.put, List.setIfInBounds_toArray, List.set_cons_zero, List.set_cons_succ]
    refine wpAnyH_ready (rs := [23]) (by kernel_rfl) (by simp) ?_
    refine AllReadyH.cons (o := { dst := some 73, op := Op.convert 28 9 (Operand.tmp 72), type := 9, pos := "law.go:120", after := #[{ on := 22, ground := Ground.data }, { on := 13, ground := Ground.guard }], guard := some (13, true) }) rfl (fun KK hKK => ?_) AllReadyH.nil
    have e1 := conv_string x75 ta76 T tc77 HB.out
    go_simp
    refine hKK.out _ _ HN.out (fun hH => ?_)
    clear hKK KK hH e1
    try simp only [Act.put, List.setIfInBounds_toArray, List.set_cons_zero, List.set_cons_succ]
    refine wpAnyH_ready (rs := [24]) (by kernel_rfl) (by simp) ?_
    refine AllReadyH.cons (o := { dst := some 74, op := Op.binOp BinOp.eql 9 (Operand.tmp 68) (Operand.tmp 73) 9, type := 4, pos := "law.go:120", after := #[{ on := 18, ground := Ground.data }, { on := 23, ground := Ground.data }, { on := 13, ground := Ground.guard }], guard := some (13, true) }) rfl (fun KK hKK => ?_) AllReadyH.nil
    go_simp
    refine hKK.out _ _ HN.out (fun hH => ?_)
    clear hKK KK hH
    try simp only [Act.put, List.setIfInBounds_toArray, List.set_cons_zero, List.set_cons_succ]
    refine wpAnyH_ready (rs := [25]) (by kernel_rfl) (by simp) ?_
    refine AllReadyH.cons (o := { dst := some 75, op := Op.pick (Operand.tmp 63) (Operand.tmp 74) (Operand.const (Value.bool false)), type := 4, pos := "law.go:120", after := #[{ on := 13, ground := Ground.data }, { on := 24, ground := Ground.data }], guard := none }) rfl (fun KK hKK => ?_) AllReadyH.nil
    go_simp
    refine hKK.out _ _ HN.out (fun hH => ?_)
    clear hKK KK hH
    try simp only [Act.put, List.setIfInBounds_toArray, List.set_cons_zero, List.set_cons_succ]
    refine wpAnyH_ready (rs := [26]) (by kernel_rfl) (by simp) ?_
    refine AllReadyH.cons (o := { dst := some 4, op := Op.assign (Operand.tmp 75), type := 4, pos := "law.go:120", after := #[{ on := 25, ground := Ground.data }, { on := 22, ground := Ground.chain }, { on := 0, ground := Ground.phase }, { on := 1, ground := Ground.phase }, { on := 2, ground := Ground.phase }, { on := 3, ground := Ground.phase }, { on := 4, ground := Ground.phase }, { on := 5, ground := Ground.phase }, { on := 6, ground := Ground.phase }, { on := 7, ground := Ground.phase }, { on := 8, ground := Ground.phase }, { on := 9, ground := Ground.phase }, { on := 10, ground := Ground.phase }, { on := 11, ground := Ground.phase }, { on := 12, ground := Ground.phase }, { on := 13, ground := Ground.phase }, { on := 14, ground := Ground.phase }, { on := 15, ground := Ground.phase }, { on := 16, ground := Ground.phase }, { on := 17, ground := Ground.phase }, { on := 18, ground := Ground.phase }, { on := 19, ground := Ground.phase }, { on := 20, ground := Ground.phase }, { on := 21, ground := Ground.phase }, { on := 22, ground := Ground.phase }, { on := 23, ground := Ground.phase }, { on := 24, ground := Ground.phase }, { on := 25, ground := Ground.phase }], guard := none }) rfl (fun KK hKK => ?_) AllReadyH.nil
    go_simp
    refine hKK.out _ _ HN.out (fun hH => ?_)
    clear hKK KK hH
    try simp only [Act.put, List.setIfInBounds_toArray, List.set_cons_zero, List.set_cons_succ]
    refine wpAnyH_done (by kernel_rfl) ?_ _
    refine NoPanic.normal ?_
    have HBE := Lib.hid HN.out.1
    go_wp2_with fail
    go_ret
    exact ⟨rfl, HBE.out⟩
end Go.Proofs.Ytklbbeilbpcnoaa
