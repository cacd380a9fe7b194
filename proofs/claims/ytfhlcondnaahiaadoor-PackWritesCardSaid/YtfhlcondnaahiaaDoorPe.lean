/- (pack.Writer).Close. -/
import Derived.Test.YtfhlcondnaahiaaDoorTk
import Derived.Test.YtfhlcondnaahiaaDoorPn
namespace Go.Proofs.YtfhlcondnaahiaaDoor
open Go.RowKit Sha

theorem results_tmp4 {fn : Func} {t u v x : Tmp} (h : fn.results = #[.tmp t, .tmp u, .tmp v, .tmp x]) (tmps : Array Value) (P : Program) (w : World) :
    (results fn tmps).run P w = .ok (.tuple #[tmps.getD t undef, tmps.getD u undef, tmps.getD v undef, tmps.getD x undef]) w := by
  simp [results, h]
theorem en_get (L : List En) (h : ∀ x ∈ L, x.ok) (j : Nat) (hj : j < L.length) (i : Nat) (u : Value) (hi : (L[j].cells)[i]? = some u) : (enCells L)[j * 35 + i]? = some u := by
  induction L generalizing j with
  | nil => exact absurd hj (Nat.not_lt_zero _)
  | cons x L ih =>
    have hx := En.len35 (h x (List.mem_cons_self ..))
    rw [enCells, List.flatMap_cons]
    cases j with
    | zero =>
      have hi : x.cells[i]? = some u := hi
      rw [Nat.zero_mul, Nat.zero_add, List.getElem?_append_left (List.getElem?_eq_some_iff.1 hi).1]
      exact hi
    | succ j =>
      rw [List.getElem?_append_right (by omega), hx, show (j + 1) * 35 + i - 35 = j * 35 + i by omega]
      exact ih (fun y hy => h y (List.mem_cons_of_mem _ hy)) j (by simpa using hj) (by simpa using hi)
theorem own_ens {X : World} {base : Nat} {v : Value} {L : List En} (h : X.ownsRow base 66 35 v L.length (enCells L)) (hok : ∀ x ∈ L, x.ok) : ∃ A c, v = .slice A L.length c ∧ ensIn X A L := by
  have hc := fun g hg => h.cells (g := g) hg
  rcases h.2 with ⟨rfl, h0⟩ | ⟨g, cap, cur, rfl, -⟩
  · rw [h0]; exact ⟨_, _, rfl, Or.inl (List.eq_nil_of_length_eq_zero h0)⟩
  · refine ⟨_, _, rfl, Or.inr ⟨g, 0, rfl, fun j hj i u hi => ?_⟩⟩
    have := hc g rfl (j * 35 + i) u (en_get L hok j hj i u hi)
    rw [Addr.add_lit] at this
    rw [← this]
    congr 2
    omega
theorem parts_one_but {X : World} {g q n c tb : Nat} {l : List UInt8} (hg : X.cell? ⟨g, 0, none⟩ = some (.slice (some ⟨q, 0, none⟩) n c)) (hn : n = l.length) (hc : n ≤ c ∧ c ≤ 9223372036854775807) (hb : bytesIn X (some ⟨q, 0, none⟩) l) (h1 : g ≠ tb) (h2 : q ≠ tb) (Y : World) (k : But tb X Y) : partsW Y (some ⟨g, 0, none⟩) [l] := by
  refine Or.inr ⟨g, 0, rfl, fun j hj => ?_⟩
  obtain rfl : j = 0 := by simpa using hj
  refine ⟨some ⟨q, 0, none⟩, c, ?_, hn ▸ hc.1, hc.2, (fun h => by cases h), ?_⟩
  · have := k.cell hg h1
    rw [hn] at this
    exact this
  · rcases hb with h | ⟨b, o, e, hcell⟩
    · exact Or.inl h
    · cases e
      exact Or.inr ⟨_, _, rfl, fun i hi => k.cell (hcell i hi) h2⟩
theorem WrAt.shut {X Y : World} {base wb tb : Nat} {fa : Option Addr} {fc : Nat} {F : List UInt8} {told : Nat} {PC : List Value} {B : List UInt8} {L : List En} {v1 v2 : Value} {gm : Option Nat} (h : WrAt X base wb tb fa fc F told PC B L v1 v2 gm) (k : But wb X Y) (hi : blockIs Y wb (PC ++ [.slice none 0 0, .slice none 0 0, .map none]) 80) : WrAt Y base wb tb fa fc F told PC [] [] (.slice none 0 0) (.slice none 0 0) none := by
  have kk : Kp (fun i => i = wb) X Y := Kp.but k (Or.inl rfl)
  refine ⟨hi, ⟨kk.is h.t.is fun q => h.ne q.symm, ?_, h.t.apart, h.t.len, h.t.cap, h.t.most⟩, World.ownsRow_nil _ _ _ _, World.ownsRow_nil _ _ _ _, Or.inl ⟨rfl, rfl⟩, h.f, h.w, h.tl, h.g, Nat.le_trans h.b kk.size⟩
  rcases h.t.row with e | ⟨b, o, e, hc⟩
  · exact Or.inl e
  · exact Or.inr ⟨b, o, e, fun j hj => kk.cell (hc j hj) (h.f _ e).2⟩
def closeB (H M F : List UInt8) (told : Nat) (B : List UInt8) (L : List En) : List UInt8 :=
  B ++ (wseal H M 104 [104, 101, 97, 100] (tbytes F told 16) (headB L) ++ be4 (wseal H M 104 [104, 101, 97, 100] (tbytes F told 16) (headB L)).length)

set_option maxRecDepth 100000 in
theorem close_none (wb : Nat) (PC : List Value) (v1 v2 m : Value) (base : Nat) (X : World) (hPC : PC.length = 97) (hI : blockIs X wb (PC ++ [v1, v2, m]) 80) (h : X.ownsRow base 66 35 v2 0 []) :
    Calls Tryd.prog 9 #[.pointer (some ⟨wb, 0, none⟩)] X fun e w' => e = .returned (.tuple #[.string (str []), .slice none 0 0, .slice none 0 0, .int .i64 15]) ∧ X = w' := by
  have CN := count_any wb PC v1 v2 m base 0 _ X hPC hI h
  clear h hI
  go_enter Tryd.func9, Tryd.ntmps9
  go_wp2_with (with_reducible refine CN.mono ?_; rintro e y3 ⟨rfl, rfl⟩)
  refine bodyPost_ret (v := .tuple #[.string (str []), .slice none 0 0, .slice none 0 0, .int .i64 15]) (results_tmp4 (t := 2) (u := 3) (v := 4) (x := 5) rfl _ _ _) rfl ?_
  exact ⟨rfl, rfl⟩

set_option maxRecDepth 100000 in
set_option maxHeartbeats 8000000 in
theorem close_any (base wb tb : Nat) (fa : Option Addr) (fc : Nat) (F : List UInt8) (told : Nat) (H M C : List UInt8) (B : List UInt8) (L : List En) (v1 v2 : Value) (gm : Option Nat) (w : World)
    (hH : H.length = 32) (hM : M.length = 32) (hC : C.length = 32) (hW : WrAt w base wb tb fa fc F told (penCells (H ++ (M ++ C)) tb) B L v1 v2 gm) (ht : tables w)
    (hto : told ≤ 100000000) (hL : L.length ≤ 1000) (hB : B.length ≤ 800000) (hf : ∀ x ∈ L, x.fine) (hne : L ≠ []) :
    Calls Tryd.prog 9 #[.pointer (some ⟨wb, 0, none⟩)] w fun e w' => ∃ bv, e = .returned (.tuple #[.string (str (packName (closeB H M F told B L))), bv, v2, .int .i64 0]) ∧ Ci.ownB w' w.heap.size bv (closeB H M F told B L) ∧ w'.ownsRow base 66 35 v2 L.length (enCells L) ∧
      WrAt w' base wb tb fa fc F (told + 16) (penCells (H ++ (M ++ C)) tb) [] [] (.slice none 0 0) (.slice none 0 0) none ∧ Kp (fun k => k = wb ∨ k = tb) w w' := by
  have hPCl := penCells_length (H ++ (M ++ C)) tb (by simp [hH, hM, hC])
  have PL := Lib.hid hPCl
  have HPL := Lib.hid (headP_len L hf (by omega) L.length)
  have HPN : Hid (headB L ≠ []) := Lib.hid (by unfold headB headP; simp)
  have CN := count_any wb _ v1 v2 (.map gm) base L.length _ w PL.out hW.i hW.e
  obtain ⟨EA, ec, hv2, hens⟩ := own_ens hW.e fun x hx => (hf x hx).1
  have WH := writeHead_any EA ec L w hL hf hens
  have PWA := Lib.hid (fun X pa (h : ∀ Y, But tb X Y → partsW Y pa [headB L]) (t : tables X) (hp : tapeAt X tb fa fc F told) => pwrite_any H M C tb fa fc F told 104 [104, 101, 97, 100] pa 1 [headB L] X hH hM hC (by simp) (by rw [show [headB L].flatten = headB L by simp]; have : (headB L).length ≤ _ := HPL.out; omega) h t ⟨hW.g.2.2.1, hW.g.2.2.2.1⟩ hp hto)
  rw [show [headB L].flatten = headB L by simp] at PWA
  rw [show sealR H M 104 [104, 101, 97, 100] (tbytes F told 16) (headB L) = (wseal H M 104 [104, 101, 97, 100] (tbytes F told 16) (headB L), 0) from rfl] at PWA
  have SEL : Hid ((wseal H M 104 [104, 101, 97, 100] (tbytes F told 16) (headB L)).length = (headB L).length + 48) := Lib.hid (wseal_length _ _ _ _ _ _ (tbytes_16 _ _))
  unfold closeB
  have HHL : Hid ((headB L).length ≤ 40000) := Lib.hid (by have : (headB L).length ≤ _ := HPL.out; omega)
  generalize wseal H M 104 [104, 101, 97, 100] (tbytes F told 16) (headB L) = SB at *
  generalize headB L = HB at *
  generalize penCells (H ++ (M ++ C)) tb = PC at *
  have T0 := Lib.hid ht
  have W0 := Lib.hid hW
  have BM := Lib.hid hB
  have WB0 := Lib.hid hW.b
  have e98 := get98 hPCl hW.i
  have c1 : ¬ (L.length : Int) = 0 := by have := List.length_pos_iff.2 hne; omega
  have c1b : ((L.length : Int) == 0) = false := by simpa using c1
  obtain ⟨n, hn⟩ : ∃ n, n = L.length := ⟨_, rfl⟩
  have HN := Lib.hid hn
  rw [hv2] at e98
  have HV2 := Lib.hid hv2
  clear hH hM hC hPCl hW ht hto hB hf hne hens hL hn hv2
  go_enter Tryd.func9, Tryd.ntmps9
  go_upto_region 8 with (first
    | (with_reducible refine CN.mono ?_; rintro e y3 ⟨rfl, rfl⟩)
    | (with_reducible refine WH.mono ?_; rintro e w1 ⟨hv, rfl, ho, kb⟩))
  have W1 := Lib.hid (W0.out.below kb)
  have T1 := Lib.hid (T0.out.below kb T0.out.2.2.1 T0.out.2.2.2)
  have K1 := Lib.hid (Kp.below (f := fun k => k = wb ∨ k = tb) kb)
  have OH := Lib.hid ho
  have HLO := Lib.hid kb.size
  obtain ⟨h0, HB', hhb⟩ : ∃ h0 H', HB = h0 :: H' := by
    cases HB with
    | nil => exact absurd rfl HPN.out
    | cons a b => exact ⟨a, b, rfl⟩
  have OHc : Hid (∃ q cap, hv = .slice (some ⟨q, 0, none⟩) HB.length cap ∧ HB.length ≤ cap ∧ cap ≤ 9223372036854775807 ∧ bytesIn w1 (some ⟨q, 0, none⟩) HB ∧ w.heap.size ≤ q) := Lib.hid (by
    subst hhb
    obtain ⟨q, cap, e1, e2, e3, e4⟩ := own_form OH.out
    refine ⟨q, cap, e1, e2, e3, Or.inr ⟨_, _, rfl, fun j hj => ?_⟩, ?_⟩
    · have := e4 j _ (byteCells_get _ j hj)
      rw [Nat.zero_add]; exact this
    · rw [e1] at OH
      exact (OH.out.lt q rfl).1)
  obtain ⟨hq, hc, rfl, hc1, hc2, hc3, hc4⟩ := OHc.out
  clear CN WH OHc ho kb W0 T0 HPN hhb OH
  have PC2 := Lib.hid (⟨hc1, hc2⟩ : HB.length ≤ hc ∧ hc ≤ 9223372036854775807)
  have HQ := Lib.hid hc3
  have HQL := Lib.hid hc4
  clear hc1 hc2 hc3 hc4
  have WL : Hid (w1.heap.size ≠ tb) := Lib.hid (Nat.ne_of_gt (Nat.lt_of_lt_of_le W1.out.tl W1.out.b))
  have HT : Hid (hq ≠ tb) := Lib.hid (fun e => by have h1 := W1.out.tl; have h2 := HQL.out; have h3 := WB0.out; omega)
  have RP := Lib.hid (pen_all W1.out.i)
  have PW := PWA.out (w1.alloc (.cells #[.slice (some ⟨hq, 0, none⟩) HB.length hc] 30 (0, 0))) (some ⟨w1.heap.size, 0, none⟩) (fun Y k => parts_one_but (g := w1.heap.size) (q := hq) (n := HB.length) (c := hc) (l := HB) (blockIs.new w1 [.slice (some ⟨hq, 0, none⟩) HB.length hc] 30 |>.cell 0) rfl PC2.out (HQ.out.below (alloc_below _ _)) WL.out HT.out Y k) (T1.out.below (alloc_below _ _) T1.out.2.2.1 T1.out.2.2.2) (W1.out.below (alloc_below _ _)).t
  clear PWA HQ PC2
  rw [show str [104, 101, 97, 100] = ⟨#[104, 101, 97, 100]⟩ from rfl, show V 104 = 104 from rfl, List.length_singleton] at PW
  go_upto_region 11 with (first
    | (refine Ci.wpList_load_mid_if (by rfl) 77 _ rfl wb 0 rfl PC _ RP.out Tryd.underlying77 rfl (by rw [infoPen, PL.out]) ?_)
    | (with_reducible refine PW.mono ?_; rintro e w2 ⟨v3, rfl, ho, htp, kb⟩))
  have KA := alloc_below w1 (.cells #[.slice (some ⟨hq, 0, none⟩) HB.length hc] 30 (0, 0))
  have W2 := Lib.hid ((W1.out.below KA).tell kb htp)
  have T2 : Hid (tables w2) := Lib.hid ((T1.out.below KA T1.out.2.2.1 T1.out.2.2.2).but kb ⟨W1.out.g.2.2.1, W1.out.g.2.2.2.1⟩)
  have K2 := Lib.hid ((K1.out.trans (Kp.below (f := fun _ => False) KA) fun _ q => q.elim).trans (Kp.but (f := fun k => k = tb) kb (Or.inl rfl)) fun i hi => Or.inl (Or.inr hi))
  have K2S := Lib.hid K2.out.size
  obtain ⟨a1, d1, hv1, o1⟩ := Pt.ok0_of W2.out.a
  obtain ⟨a3, d3, rfl, o3⟩ := Pt.ok0_of ho
  have HV1 := Lib.hid hv1
  have O1 := Lib.hid o1
  have O3 := Lib.hid o3
  clear KA W1 T1 K1 PW kb htp ho o1 o3 hv1 WL HT RP HQL
  obtain ⟨sn, hsn⟩ : ∃ sn, sn = SB.length := ⟨_, rfl⟩
  have SN := Lib.hid hsn
  rw [← hsn]
  clear hsn
  refine wp_region_noPanic ?_
  refine wp_region_held_drew (S := fun X => Below w2.heap.size w2 X) (by kernel_rfl) (below_drew' (Below.refl _ _)) (fun hH => ?_)
  have TC := Lib.hid (fun X => tellCount_any sn (by rw [SN.out, SEL.out]; have := HHL.out; omega) X)
  generalize w2.drew = z0 at *
  refine tk (i := 0) (oi := { dst := some 40, op := Op.move (Operand.tmp 0), type := 27, pos := "writer.go:81", after := #[], guard := none }) (v := .pointer (some ⟨wb, 0, none⟩)) rfl (fun wx hS => ?_) hH ?_
  · go_simp
  refine tk (i := 1) (oi := { dst := some 41, op := Op.nilCheck (Operand.tmp 40), type := 0, pos := "writer.go:81", after := #[⟨0, .data⟩], guard := none }) (v := .pointer (some ⟨wb, 0, none⟩)) rfl (fun wx hS => ?_) hH ?_
  · go_simp
  refine tk (i := 2) (oi := { dst := some 42, op := Op.fieldAddr 80 (Operand.tmp 41) 1, type := 0, pos := "writer.go:81", after := #[⟨1, .data⟩], guard := none }) (v := .pointer (some ⟨wb, 97, none⟩)) rfl (fun wx hS => ?_) hH ?_
  · go_simp
  refine tk (i := 3) (oi := { dst := some 43, op := Op.load 30 (Operand.tmp 42), type := 30, pos := "writer.go:81", after := #[⟨2, .data⟩], guard := none }) (v := .slice a1 B.length d1) rfl (fun wx hS => ?_) hH ?_
  · have e1 := get97 PL.out (W2.out.below hS).i; rw [HV1.out] at e1; go_simp
  refine tk (i := 4) (oi := { dst := some 44, op := Op.move (Operand.tmp 8), type := 30, pos := "writer.go:81", after := #[], guard := none }) (v := .slice a3 sn d3) rfl (fun wx hS => ?_) hH ?_
  · go_simp
  refine tk (i := 5) (oi := { dst := some 45, op := Op.move (Operand.tmp 8), type := 30, pos := "writer.go:81", after := #[], guard := none }) (v := .slice a3 sn d3) rfl (fun wx hS => ?_) hH ?_
  · go_simp
  refine tk (i := 6) (oi := { dst := some 46, op := Op.call { callee := Callee.builtin Builtin.len, args := #[Operand.tmp 45], argTypes := #[30] }, type := 3, pos := "writer.go:81", after := #[⟨5, .data⟩], guard := none }) (v := .int .i64 (sn : Int)) rfl (fun wx hS => ?_) hH ?_
  · go_simp
  refine tk (i := 10) (oi := { dst := some 50, op := Op.move (Operand.tmp 0), type := 27, pos := "writer.go:81", after := #[⟨14, .gcOnly .lateStores⟩], guard := none }) (v := .pointer (some ⟨wb, 0, none⟩)) rfl (fun wx hS => ?_) hH ?_
  · go_simp
  refine tk (i := 11) (oi := { dst := some 51, op := Op.nilCheck (Operand.tmp 50), type := 0, pos := "writer.go:81", after := #[⟨10, .data⟩, ⟨14, .gcOnly .lateStores⟩], guard := none }) (v := .pointer (some ⟨wb, 0, none⟩)) rfl (fun wx hS => ?_) hH ?_
  · go_simp
  refine tk (i := 12) (oi := { dst := some 52, op := Op.fieldAddr 80 (Operand.tmp 51) 2, type := 0, pos := "writer.go:81", after := #[⟨11, .data⟩, ⟨14, .gcOnly .lateStores⟩], guard := none }) (v := .pointer (some ⟨wb, 98, none⟩)) rfl (fun wx hS => ?_) hH ?_
  · go_simp
  refine tk (i := 13) (oi := { dst := some 53, op := Op.load 31 (Operand.tmp 52), type := 31, pos := "writer.go:81", after := #[⟨12, .data⟩, ⟨14, .gcOnly .lateStores⟩], guard := none }) (v := v2) rfl (fun wx hS => ?_) hH ?_
  · have e1 := get98 PL.out (W2.out.below hS).i; go_simp
  refine wpAnyH_ready (rs := [7]) (by kernel_rfl) (by simp) ?_
  refine AllReadyH.cons rfl (fun KK hKK => ?_) AllReadyH.nil
  go_simp
  with_reducible refine (TC.out z0).mono ?_
  rintro e z1 ⟨g4, rfl, b4, kb⟩
  have hN := hH.trans (kb.mono hH.size)
  have B4 := Lib.hid b4
  clear hH kb b4 TC
  refine hKK.out _ _ hN (fun hH => ?_)
  clear hKK KK hN
  try simp only [Act.put, List.setIfInBounds_toArray, List.set_cons_zero, List.set_cons_succ]
  have PL3 := partsW_lit z1 [⟨a1, d1, B⟩, ⟨a3, d3, SB⟩, ⟨some ⟨g4, 0, none⟩, 4, be4 sn⟩] (fun p hp => by
    simp only [List.mem_cons, List.not_mem_nil, or_false] at hp
    rcases hp with rfl | rfl | rfl
    · exact O1.out.below hH
    · exact O3.out.below hH
    · exact ⟨⟨Nat.le_refl 4, (show 4 ≤ 9223372036854775807 by decide), B4.out⟩, fun h => by cases h⟩) #[.slice a1 B.length d1, .slice a3 sn d3, .slice (some ⟨g4, 0, none⟩) 4 4] (by rw [SN.out]; rfl)
  have CC := Ci.concat_any (some ⟨z1.heap.size, 0, none⟩) 3 [B, SB, be4 sn] _ (by simp) (by simp only [List.flatten_cons, List.flatten_nil, List.length_append, List.length_nil]; have := BM.out; have := SEL.out; have := HHL.out; have : (be4 sn).length = 4 := rfl; omega) PL3.ci
  rw [show [B, SB, be4 sn].flatten = B ++ (SB ++ be4 sn) by simp] at CC
  rw [show ([B, SB, be4 sn] : List (List UInt8)).length = 3 from rfl] at CC
  clear PL3
  refine wpAnyH_ready (rs := [8]) (by kernel_rfl) (by simp) ?_
  refine AllReadyH.cons rfl (fun KK hKK => ?_) AllReadyH.nil
  go_simp
  have kb := alloc_below z1 (.cells #[.slice a1 B.length d1, .slice a3 sn d3, .slice (some ⟨g4, 0, none⟩) 4 4] 30 (0, 0))
  have hN := hH.trans (kb.mono hH.size)
  clear hH kb
  refine hKK.out _ _ hN (fun hH => ?_)
  clear hKK KK hN
  try simp only [Act.put, List.setIfInBounds_toArray, List.set_cons_zero, List.set_cons_succ]
  generalize z1.alloc (.cells #[.slice a1 B.length d1, .slice a3 sn d3, .slice (some ⟨g4, 0, none⟩) 4 4] 30) = z2 at *
  generalize z1.heap.size = lb at *
  refine wpAnyH_ready (rs := [9]) (by kernel_rfl) (by simp) ?_
  refine AllReadyH.cons rfl (fun KK hKK => ?_) AllReadyH.nil
  go_simp
  with_reducible refine CC.mono ?_
  rintro e z3 ⟨bv, rfl, ob, kb⟩
  have hN := hH.trans (kb.mono hH.size)
  have OB : Hid (Ci.ownB z3 w2.heap.size bv (B ++ (SB ++ be4 sn))) := Lib.hid (ownB_mono ob hH.size)
  clear hH kb ob CC
  refine hKK.out _ _ hN (fun hH => ?_)
  clear hKK KK hN
  try simp only [Act.put, List.setIfInBounds_toArray, List.set_cons_zero, List.set_cons_succ]
  refine wpAnyH_ready (rs := [14]) (by kernel_rfl) (by simp) ?_
  refine AllReadyH.cons rfl (fun KK hKK => ?_) AllReadyH.nil
  go_simp
  refine hKK.out _ _ hH (fun hH => ?_)
  clear hKK KK
  try simp only [Act.put, List.setIfInBounds_toArray, List.set_cons_zero, List.set_cons_succ]
  refine wpAnyH_ready (rs := [15]) (by kernel_rfl) (by simp) ?_
  refine AllReadyH.cons rfl (fun KK hKK => ?_) AllReadyH.nil
  go_simp
  refine hKK.out _ _ hH (fun hH => ?_)
  clear hKK KK
  try simp only [Act.put, List.setIfInBounds_toArray, List.set_cons_zero, List.set_cons_succ]
  refine wpAnyH_done (by kernel_rfl) ?_ _
  refine NoPanic.normal ?_
  have W3 := Lib.hid (W2.out.below hH)
  have T3 := Lib.hid (T2.out.below hH T2.out.2.2.1 T2.out.2.2.2)
  have K3 := Lib.hid (K2.out.trans (Kp.below (f := fun _ => False) hH) fun _ q => q.elim)
  have HL3 := Lib.hid (hH.size)
  clear hH W2 T2 K2 O1 O3
  have hfit : ∀ a b c : Value, 99 < (PC ++ [a, b, c]).length := fun a b c => by rw [List.length_append, PL.out]; simp
  go_wp2_with (refine wpList_store_cell (by rfl) 30 _ _ rfl wb 97 (.slice none 0 0) rfl rfl _ 80 W3.out.i info_sl8 (Nat.lt_trans (by decide) (hfit _ _ _)) rfl rfl ?_)
  intro w4 P1 P2 P3
  have P1 := P1.out
  rw [set97 PL.out] at P1
  go_wp2_with (refine wpList_store_cell (by rfl) 31 _ _ rfl wb 98 (.slice none 0 0) rfl rfl _ 80 P1 info_slE (Nat.lt_trans (by decide) (hfit _ _ _)) rfl rfl ?_)
  intro w5 Q1 Q2 Q3
  have Q1 := Q1.out
  rw [set98 PL.out] at Q1
  go_wp2_with (refine wpList_store_cell (by rfl) 78 _ _ rfl wb 99 (.map none) rfl rfl _ 80 Q1 info_map1 (hfit _ _ _) rfl rfl ?_)
  intro w6 R1 R2 R3
  have R1 := R1.out
  rw [set99 PL.out] at R1
  have BW := Lib.hid ((P2.out.trans Q2.out).trans R2.out)
  have W6 := Lib.hid (W3.out.shut BW.out R1)
  have T6 := Lib.hid (W3.out.tabs T3.out (Kp.but BW.out (Or.inl (Or.inl rfl))))
  have K6 := Lib.hid (K3.out.trans (Kp.but (f := fun k => k = wb) BW.out (Or.inl rfl)) fun i hi => Or.inl (Or.inl hi))
  have E6 := Lib.hid (row_kp W3.out.e (Kp.but (f := fun k => k = wb) BW.out (Or.inl rfl)) fun i hi q => row_type W3.out.e W3.out.i (by decide) (q ▸ hi))
  have O6 : Hid (Ci.ownB w6 w2.heap.size bv (B ++ (SB ++ be4 sn))) := Lib.hid (row_kp OB.out (Kp.but (f := fun k => k = wb) BW.out (Or.inl rfl)) fun i hi q => row_type OB.out W3.out.i (by decide) (q ▸ hi))
  clear P1 P2 P3 Q1 Q2 Q3 R1 R2 R3 W3 T3 K3 OB BW hfit
  obtain ⟨ab, db, hbv, ob⟩ := Pt.ok0_of O6.out
  have HBV := Lib.hid hbv
  have hpl : (B ++ (SB ++ be4 sn)).length ≤ 1000000 := by
    rw [List.length_append, List.length_append]
    have := BM.out; have := SEL.out; have := HHL.out; have : (be4 sn).length = 4 := rfl
    omega
  have NA := name_any ab db (B ++ (SB ++ be4 sn)) w6 ob.1 hpl T6.out
  rw [← hbv] at NA
  clear hbv ob hpl
  generalize hNM : packName (B ++ (SB ++ be4 sn)) = NM at *
  have HNM := Lib.hid hNM
  clear hNM
  go_wp2_with (with_reducible refine NA.mono ?_; rintro e w7 ⟨rfl, kb⟩)
  refine bodyPost_ret (v := .tuple #[.string (str NM), bv, v2, .int .i64 0]) (results_tmp4 (t := 2) (u := 3) (v := 4) (x := 5) rfl _ _ _) rfl ?_
  have HS6 : w.heap.size ≤ w2.heap.size := K2S.out
  rw [← SN.out]
  refine ⟨bv, by rw [HNM.out], ?_, row_kp E6.out (Kp.below (f := fun _ => False) kb) fun _ _ => id, W6.out.below kb, K6.out.trans (Kp.below (f := fun _ => False) kb) fun _ q => q.elim⟩
  exact ownB_mono (row_kp O6.out (Kp.below (f := fun _ => False) kb) fun _ _ => id) HS6
end Go.Proofs.YtfhlcondnaahiaaDoor
