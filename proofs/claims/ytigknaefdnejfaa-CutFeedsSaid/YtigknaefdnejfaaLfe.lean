/- CutFeeds: for every rule, all bytes and all parts the law returns true, and its arguments read as before. No condition. -/
import Derived.Test.YtigknaefdnejfaaFm
import Derived.Test.YtigknaefdnejfaaDsz
import Derived.Lib.SmallJoins
import Derived.Deep.DeepCutAuto
namespace Go.Proofs.Ytigknaefdnejfaa
open Go.RowKit

def zvals (l : List Int) : List Value := l.map (Value.int .i64)
theorem zvals_length (l : List Int) : (zvals l).length = l.length := by simp [zvals]
theorem mod_part (x : Int) (n : Nat) (h1 : n ≤ 1000000) : ∃ y : Nat, wrap64 ((IntKind.u64.wrap x).tmod ((n : Int) + 1)) = (y : Int) ∧ y ≤ n := by
  have h2 : 0 ≤ IntKind.u64.wrap x := by rw [IntKind.wrap_u64]; omega
  rw [Int.tmod_eq_emod_of_nonneg h2]
  have h3 : 0 ≤ IntKind.u64.wrap x % ((n : Int) + 1) ∧ IntKind.u64.wrap x % ((n : Int) + 1) < (n : Int) + 1 := ⟨Int.emod_nonneg _ (by omega), Int.emod_lt_of_pos _ (by omega)⟩
  generalize IntKind.u64.wrap x % ((n : Int) + 1) = y at *
  refine ⟨y.toNat, ?_, by omega⟩
  unfold wrap64
  omega
/-- How many bytes the pieces have. -/
def flen (O : List (List UInt8)) : Nat := O.flatten.length
/-- A knife by which bytes went, as the law's loops hold it. -/
structure CfAt (w0 w : World) (W0 : Nat) (k g b : Nat) (r : Rl) (BR : Nat) (want : Value) (l1 : List UInt8) (a : Option Addr) (l : List UInt8) (c : Nat) (D P : List UInt8) (O : List (List UInt8)) : Prop where
  ex : ∃ pv Bp L, KnifeAt w k g b r pv L ∧ fitW L P ∧ rowIs w Bp pv P ∧ BR ≤ Bp ∧ Bp ≤ w.heap.size
  len : l.length ≤ c
  cap : c ≤ 9223372036854775807
  nil : a = none → c = 0
  all : D ++ l = l1
  far : bytesFar w k g b BR a l
  fed : r.fed [] D = (O, P)
  want : rowV w W0 3 want (ivals (r.sizes l1))
  low : Below W0 w0 w
theorem CfAt.alls {w0 w : World} {W0 k g b : Nat} {r : Rl} {BR : Nat} {want : Value} {l1 : List UInt8} {a : Option Addr} {l : List UInt8} {c : Nat} {D P : List UInt8} {O : List (List UInt8)} (h : CfAt w0 w W0 k g b r BR want l1 a l c D P O) : D.length + l.length = l1.length ∧ O.length + P.length ≤ D.length ∧ flen O + P.length = D.length := by
  have h1 := congrArg List.length h.all
  have h2 := r.fed_len [] D
  have h3 := congrArg List.length (r.fd_all h.fed)
  rw [h.fed] at h2
  rw [List.length_append] at h1 h3
  have h2 : O.length + P.length ≤ 0 + D.length := h2
  unfold flen
  omega
theorem CfAt.below {w0 w w' : World} {W0 k g b : Nat} {r : Rl} {BR : Nat} {want : Value} {l1 : List UInt8} {a : Option Addr} {l : List UInt8} {c : Nat} {D P : List UInt8} {O : List (List UInt8)} (h : CfAt w0 w W0 k g b r BR want l1 a l c D P O) (hb : Below w.heap.size w w') (hW : W0 ≤ w.heap.size) : CfAt w0 w' W0 k g b r BR want l1 a l c D P O := by
  obtain ⟨pv, Bp, L, h1, h2, h3, h4, h5⟩ := h.ex
  exact ⟨⟨pv, Bp, L, h1.below hb, h2, rowV.is (h3.v.below hb (Nat.le_refl _)), h4, Nat.le_trans h5 hb.size⟩, h.len, h.cap, h.nil, h.all, h.far.kept (ButF.of_below hb), h.fed, h.want.below hb (Nat.le_refl _), h.low.trans (hb.mono hW)⟩
theorem drop_nil {a : Option Addr} {c C : Nat} (hz : a = none → c = 0) (A : Option Addr) (hA : A = if c = C then a else a.map (fun x => x.add C)) : A = none → c - C = 0 := fun hn => by
  rw [hA] at hn
  by_cases hch : c = C
  · omega
  · rw [if_neg hch] at hn
    cases a with
    | none => rw [hz rfl]; omega
    | some _ => cases hn
theorem feedcf {w0 w : World} {W0 k g b : Nat} {r : Rl} {BR : Nat} {want : Value} {l1 : List UInt8} {a : Option Addr} {l : List UInt8} {c : Nat} {D P : List UInt8} {O : List (List UInt8)} (h : CfAt w0 w W0 k g b r BR want l1 a l c D P O) (A2 : Option Addr) (H C : Nat) (hHC : H ≤ C) (hC : C ≤ l.length) (hA2 : A2 = if c = H then a else a.map (fun x => x.add H)) (hk : W0 ≤ k ∧ W0 ≤ g ∧ W0 ≤ b) (hkB : k < BR ∧ g < BR ∧ b < BR) (hW : W0 ≤ BR) (hl : l1.length ≤ 2500) :
    Calls Try.prog 17 #[.pointer (some ⟨k, 0, none⟩), .slice (some ⟨w.heap.size, 0, none⟩) 3 3] (w.alloc (.cells #[.slice a H c, .slice none 0 0, .slice A2 (C - H) (c - H)] 25 (0, 0))) fun e w' => ∃ ov vs, e = .returned ov ∧ (∀ A7, A7 = (if c = C then a else a.map (fun x => x.add C)) → CfAt w0 w' W0 k g b r BR want l1 A7 (l.drop C) (c - C) (D ++ l.take C) (r.fed P (l.take C)).2 (O ++ (r.fed P (l.take C)).1)) ∧ rowV w' w.heap.size 25 ov vs ∧ Pieces w' BR w'.heap.size vs (r.fed P (l.take C)).1 := by
  have hs := h.alls
  obtain ⟨pv, Bp, L, h1, h2, h3, h4, h5⟩ := h.ex
  have hWs : W0 ≤ w.heap.size := by omega
  refine (feed3 k g b r BR Bp pv L P a l c A2 H C w h1 h2 h3 h4 h5 hkB.1 hkB.2.1 hkB.2.2 hHC hC h.len h.cap h.nil h.far hA2 (by omega)).mono ?_
  rintro e w' ⟨ov, pv', B', vs, L', rfl, hF⟩
  refine ⟨ov, vs, rfl, fun A7 hA7 => ?_, rowV.mono hF.out (by simp), hF.rows.map (fun v s hv => ⟨hv.1, fun q hq => Nat.lt_of_lt_of_le (hv.2 q hq) hF.hi⟩)⟩
  have hb0 := (Below.refl w.heap.size w).alloc (Nat.le_refl _) (.cells #[.slice a H c, .slice none 0 0, .slice A2 (C - H) (c - H)] 25 (0, 0))
  have hf0 : ButF k g b BR w w' := (ButF.of_below hb0).trans hF.kept
  have hfar := (h.far.kept hf0).drop c C h.len
  rw [← hA7] at hfar
  refine ⟨⟨pv', B', L', hF.knife, hF.fit, hF.piece, hF.lo, hF.hi⟩, ?_, by have := h.cap; omega, drop_nil h.nil A7 hA7, ?_, hfar, r.fed_more h.fed rfl, h.want.butF h1 hf0 (by decide) (by decide) (by decide), ?_⟩
  · rw [List.length_drop]; have := h.len; omega
  · rw [List.append_assoc, List.take_append_drop]; exact h.all
  · exact h.low.trans ⟨hf0.os, hf0.tape, hf0.output, hf0.size, fun j hj => hf0.block j (by omega) (by omega) (by omega) (by omega) (Or.inl (by omega))⟩
theorem Rl.fd_at2 (r : Rl) {D R l P : List UInt8} {O O1 : List (List UInt8)} (h : r.fed [] D = (O ++ O1, P)) (e : D ++ R = l) (x n T : Nat) (hx : x < O1.length) (hn : n = O.length + x) (hT : T = flen (O ++ O1.take x)) :
    n < (r.sizes l).length ∧ (r.sizes l).getD n 0 = (O1[x]).length ∧ T + (O1[x]).length ≤ l.length ∧ (l.take (T + (O1[x]).length)).drop T = O1[x] ∧ flen (O ++ O1.take (x + 1)) = T + (O1[x]).length := by
  subst hn
  have hlt : O.length + x < (O ++ O1).length := by rw [List.length_append]; omega
  have e1 : (O ++ O1)[O.length + x] = O1[x] := by
    rw [List.getElem_append_right (by omega)]
    simp
  have e2 : (O ++ O1).take (O.length + x) = O ++ O1.take x := by rw [List.take_append, List.take_of_length_le (by omega)]; congr 2; omega
  have f := r.fd_at h e (O.length + x) hlt
  rw [e1, e2] at f
  have hT2 : (O ++ O1.take x).flatten.length = T := hT.symm
  rw [hT2] at f
  refine ⟨f.1, f.2.1, f.2.2.1, f.2.2.2, ?_⟩
  rw [List.take_succ_eq_append_getElem hx, ← List.append_assoc]
  show ((O ++ O1.take x) ++ [O1[x]]).flatten.length = _
  rw [List.flatten_append, List.length_append, hT2]
  simp
set_option maxRecDepth 100000 in
set_option maxHeartbeats 4000000 in
theorem law_cutFeeds (la ma ba : Int) (po : W) (a1 : Option Addr) (n1 : Nat) (L1 : List UInt8) (a2 : Option Addr) (n2 : Nat) (N : List Int) (w : World) (h1 : (Lit.int .i64 la).wf = true) (h2 : (Lit.int .i64 ma).wf = true) (h3 : (Lit.int .i64 ba).wf = true) (hl1 : L1.length ≤ n1) (hin1 : bytesIn w a1 L1) (hz1 : a1 = none → n1 = 0) (hI : valsIn w a2 (zvals N)) :
    Calls Try.prog 4 #[.agg #[.int .i64 la, .int .i64 ma, .int .i64 ba, .int .u64 (U po)], .slice a1 L1.length n1, .slice a2 N.length n2] w fun e w' => e = .returned (.bool true) ∧ Below w.heap.size w w' := by
  have I1 := Lib.hid (hin1.take 2500)
  have HI := Lib.hid hI
  have Z1 := Lib.hid hz1
  clear hin1 hz1 hI
  have B0 := Lib.hid (blockIs.new w (ruleCells la ma ba po) 24)
  have c0 : (w.alloc (.cells (ruleCells la ma ba po).toArray 24 (0, 0))).cell? ⟨w.heap.size, 0, none⟩ = some (.int .i64 la) := B0.out.cell 0
  have c1 : (w.alloc (.cells (ruleCells la ma ba po).toArray 24 (0, 0))).cell? ⟨w.heap.size, 1, none⟩ = some (.int .i64 ma) := B0.out.cell 1
  have c2 : (w.alloc (.cells (ruleCells la ma ba po).toArray 24 (0, 0))).cell? ⟨w.heap.size, 2, none⟩ = some (.int .i64 ba) := B0.out.cell 2
  have c3 : (w.alloc (.cells (ruleCells la ma ba po).toArray 24 (0, 0))).cell? ⟨w.heap.size, 3, none⟩ = some (.int .u64 (U po)) := B0.out.cell 3
  go_enter Try.func4, Try.ntmps4
  go_upto_region 1 with fail
  go_cut [1] (fun s1 wx => s1 = .slice a1 (min L1.length 2500) n1 ∧ ∃ r : Rl, r.ok ∧ Hid (blockIs wx w.heap.size (ruleCells (r.least : Int) (r.most : Int) (r.bits : Int) r.poly) 24) ∧ Hid (Below w.heap.size w wx))
  case first =>
    go_region_law
      (first
      | (go_simp; go_at_call 10
         with_reducible refine (bytes_any a1 _ _ _ hl1).mono ?_
         rintro e w2 ⟨rfl, rfl⟩)
      | (go_simp; go_at_call 18
         with_reducible refine (tame_any la ma ba po _ h1 h2 h3).mono ?_
         rintro e w2 ⟨r, hr, rfl, hb⟩
         have B2 := Lib.hid (B0.out.below hb (by simp))
         have c5 : w2.cell? ⟨w.heap.size, 0, none⟩ = some (.int .i64 la) := B2.out.cell 0
         have c6 : w2.cell? ⟨w.heap.size, 1, none⟩ = some (.int .i64 ma) := B2.out.cell 1
         have c7 : w2.cell? ⟨w.heap.size, 2, none⟩ = some (.int .i64 ba) := B2.out.cell 2
         have c8 : w2.cell? ⟨w.heap.size, 3, none⟩ = some (.int .u64 (U po)) := B2.out.cell 3
         have f5 := B2.out.free 0
         have f6 := B2.out.free 1
         have f7 := B2.out.free 2
         have f8 := B2.out.free 3))
    all_goals
      go_wp2_with fail
      go_meet
      case rel =>
        refine ⟨rfl, r, hr, Lib.hid ((((B2.out.set 0 (.int .i64 (r.least : Int))).set 1 (.int .i64 (r.most : Int))).set 2 (.int .i64 (r.bits : Int))).set 3 (.int .u64 (U r.poly))), Lib.hid ?_⟩
        exact (((((((Below.refl w.heap.size w).alloc (Nat.le_refl _) (.cells (ruleCells la ma ba po).toArray 24 (0, 0))).drew).trans (hb.mono (by simp))).setCell (Nat.le_refl _) _).setCell (Nat.le_refl _) _).setCell (Nat.le_refl _) _).setCell (Nat.le_refl _) _
  obtain ⟨rfl, r, hr, B3, H3⟩ := hcut
  clear B0 c0 c1 c2 c3
  have c0 : wc.cell? ⟨w.heap.size, 0, none⟩ = some (.int .i64 (r.least : Int)) := B3.out.cell 0
  have c1 : wc.cell? ⟨w.heap.size, 1, none⟩ = some (.int .i64 (r.most : Int)) := B3.out.cell 1
  have c2 : wc.cell? ⟨w.heap.size, 2, none⟩ = some (.int .i64 (r.bits : Int)) := B3.out.cell 2
  have c3 : wc.cell? ⟨w.heap.size, 3, none⟩ = some (.int .u64 (U r.poly)) := B3.out.cell 3
  have e4 : min L1.length 2500 = (L1.take 2500).length := by rw [List.length_take]; omega
  have e5 : (L1.take 2500).length ≤ 2500 := by rw [List.length_take]; omega
  have e6 : (L1.take 2500).length ≤ n1 := by rw [List.length_take]; omega
  rw [e4]
  clear e4
  generalize L1.take 2500 = l1 at *
  go_wp2_with fail
  with_reducible refine (docsizes_any r hr a1 l1 n1 wc e6 (by omega) (I1.out.below H3.out (Nat.le_refl _))).mono ?_
  rintro e w4 ⟨v, rfl, hrow, hb⟩
  have H4 := Lib.hid (H3.out.trans (hb.mono H3.out.size))
  have B4 := Lib.hid (B3.out.below hb B3.out.lt)
  obtain ⟨sa, sc, rfl, sl, hv, -⟩ := hrow.vals
  have R4 := Lib.hid (rowV.mono hrow H3.out.size)
  rw [ivals_length] at sl ⊢
  clear hb hrow hv H3 B3 c0 c1 c2 c3
  have c0 : w4.cell? ⟨w.heap.size, 0, none⟩ = some (.int .i64 (r.least : Int)) := B4.out.cell 0
  have c1 : w4.cell? ⟨w.heap.size, 1, none⟩ = some (.int .i64 (r.most : Int)) := B4.out.cell 1
  have c2 : w4.cell? ⟨w.heap.size, 2, none⟩ = some (.int .i64 (r.bits : Int)) := B4.out.cell 2
  have c3 : w4.cell? ⟨w.heap.size, 3, none⟩ = some (.int .u64 (U r.poly)) := B4.out.cell 3
  go_wp2_with fail
  with_reducible refine (to_any _ _ _ _ _).mono ?_
  rintro e w5 ⟨rfl, hb⟩
  have H5 := Lib.hid (H4.out.trans (hb.mono H4.out.size))
  have R5 := Lib.hid (R4.out.below hb (Nat.le_refl _))
  clear hb H4 B4 R4 c0 c1 c2 c3
  go_wp2_with fail
  with_reducible refine (cutnew_any r hr w5).mono ?_
  rintro e w6 ⟨k, g, b, rfl, hk, hg, hb, hkn, hbe⟩
  have G6 : Hid (w.heap.size ≤ k ∧ w.heap.size ≤ g ∧ w.heap.size ≤ b) := Lib.hid ⟨Nat.le_trans H5.out.size hk, Nat.le_trans H5.out.size hg, Nat.le_trans H5.out.size hb⟩
  have K6 := Lib.hid hkn
  have H6 := Lib.hid (H5.out.trans (hbe.mono H5.out.size))
  have R6 := Lib.hid (R5.out.below hbe (Nat.le_refl _))
  clear hk hg hb hkn hbe H5 R5
  go_wp2_with fail
  with_reducible refine (cuts_any _).mono ?_
  rintro e w7 ⟨rfl, hb⟩
  have H7 := Lib.hid (H6.out.trans (hb.mono H6.out.size))
  have K7 := Lib.hid (K6.out.below hb)
  have R7 := Lib.hid (R6.out.below hb (Nat.le_refl _))
  clear hb H6 K6 R6
  rw [ivals_length] at R7
  have HS := Lib.hid (r.sizes_len l1)
  go_wp2_with fail
  go_loopw [11] (fun iv wr => ∃ (j : Nat) (L : List UInt8), j ≤ 2 ∧ iv = .int .i64 (j : Int) ∧ Hid (KnifeAt wr k g b r (.slice none 0 0) L) ∧ Hid (fitW L []) ∧ Hid (rowV wr w.heap.size 3 (.slice sa (r.sizes l1).length sc) (ivals (r.sizes l1))) ∧ Hid (Below w.heap.size w wr)) (fun iv _ => (2 - intOf iv).toNat)
  case atStart => exact ⟨0, _, by omega, rfl, K7, Lib.hid fitW_new, R7, H7⟩
  case round =>
    obtain ⟨j, L, hj, rfl, K1, F1, R1, H1⟩ := hrel
    clear K7 R7 H7
    have p0 : 0 ≤ (j : Int) := by omega
    by_cases hlt : j < 2
    · have q0 : (j : Int) < 2 := by omega
      rename World => wo
      go_wp2_with (at_builtin; refine append_bytes rfl _ _ rfl wo.heap.size _ [] rfl (rowIs.empty _ _ (Nat.le_refl _)) a1 _ n1 l1 rfl rfl Z1.out ((I1.out.below H1.out (Nat.le_refl _)).below ((Below.refl _ _).alloc (Nat.le_refl _) _) (Nat.le_refl _)) (by simp; omega) (by simp) ?_)
      intro v8 w8 hown hgr
      have hgr : (wo.alloc (.cells #[] 5 (0, 0))).grownBy w8 (some wo.heap.size) := hgr
      have hbl : Below wo.heap.size wo w8 := ((Below.refl wo.heap.size wo).alloc (Nat.le_refl _) (.cells #[] 5 (0, 0))).trans ((rowIs.empty wo wo.heap.size (Nat.le_refl _)).grew (by simp) hgr)
      have HKL : Hid (k < wo.heap.size ∧ g < wo.heap.size ∧ b < wo.heap.size) := Lib.hid ⟨K1.out.kn.lt, K1.out.roll.lt.1, K1.out.roll.lt.2⟩
      obtain ⟨ra, rc, rfl, rl, rm, rz, rf⟩ := rowIs.far hown HKL.out.1 HKL.out.2.1 HKL.out.2.2
      have HBO : Hid (wo.heap.size ≤ w8.heap.size) := Lib.hid hbl.size
      have HKB : Hid (k < w8.heap.size ∧ g < w8.heap.size ∧ b < w8.heap.size) := Lib.hid (by have := HKL.out; have := HBO.out; omega)
      have C0 : Hid (CfAt w w8 w.heap.size k g b r w8.heap.size (.slice sa (r.sizes l1).length sc) l1 ra l1 rc [] [] []) := Lib.hid ⟨⟨_, w8.heap.size, L, K1.out.below hbl, F1.out, World.ownsRow_nil _ _ _ _, Nat.le_refl _, Nat.le_refl _⟩, rl, rm, rz, rfl, rf, rfl, R1.out.below hbl (Nat.le_refl _), H1.out.trans (hbl.mono H1.out.size)⟩
      have HWB : Hid (w.heap.size ≤ w8.heap.size) := Lib.hid C0.out.low.size
      clear hown hgr hbl rl rm rz rf K1 F1 R1 H1
      go_wp2_with fail
      go_loopw [12, 13, 14, 15, 16] (fun rv av cv nv iv wr => ∃ (a : Option Addr) (l : List UInt8) (c : Nat) (D P : List UInt8) (O : List (List UInt8)) (i : Nat), rv = .slice a l.length c ∧ av = .int .i64 (flen O : Int) ∧ cv = .int .i64 (D.length : Int) ∧ nv = .int .i64 (O.length : Int) ∧ iv = .int .i64 (i : Int) ∧ i ≤ 31 ∧ Hid (i = 31 → l = []) ∧ Hid (CfAt w wr w.heap.size k g b r w8.heap.size (.slice sa (r.sizes l1).length sc) l1 a l c D P O)) (fun rv _ _ _ iv _ => lenOf rv + (31 - intOf iv).toNat)
      case atStart => exact ⟨ra, l1, rc, [], [], [], 0, rfl, rfl, rfl, rfl, rfl, by omega, Lib.hid (fun h => absurd h (by decide)), C0⟩
      case round =>
        obtain ⟨a, l, c, D, P, O, i, rfl, rfl, rfl, rfl, rfl, hi, HI31, C1⟩ := hrel
        clear C0
        have i0 : 0 ≤ (i : Int) := by omega
        have HA := Lib.hid C1.out.alls
        by_cases h0 : l = []
        · as_aux_lemma =>
          subst h0
          have hD : D = l1 := by have := C1.out.all; rwa [List.append_nil] at this
          have HFD : Hid (r.fed [] l1 = (O, P)) := Lib.hid (by rw [← hD]; exact C1.out.fed)
          obtain ⟨pv, Bp, L2, k1, k2, k3, k4, k5⟩ := C1.out.ex
          obtain ⟨va, vc, rfl, -, -, -⟩ := k3.bytes
          have PE := Lib.hid (end_any k g b w8.heap.size Bp r _ L2 P wr k1 k2 k3 k4 HKB.out.1 HKB.out.2.1 HKB.out.2.2)
          have HWT := Lib.hid C1.out.want
          have HLW := Lib.hid C1.out.low
          have HK1 := Lib.hid k1
          have HBP : Hid (w8.heap.size ≤ Bp ∧ Bp ≤ wr.heap.size) := Lib.hid ⟨k4, k5⟩
          clear hD k1 k2 k3 k4 k5 C1 HI31
          have h2 : ¬ (0 : Int) < ((0 : Nat) : Int) := by omega
          go_wp2_with fail
          with_reducible refine PE.out.mono ?_
          clear PE
          rintro e w13 ⟨rfl, hk, hr3, hb3⟩
          have K13 := Lib.hid hk
          have R13 := Lib.hid hr3
          have W13 := Lib.hid (HWT.out.butF HK1.out hb3 (by decide) (by decide) (by decide))
          have L13 : Hid (Below w.heap.size w w13) := Lib.hid (HLW.out.trans ⟨hb3.os, hb3.tape, hb3.output, hb3.size, fun q hq => by
            have := HKB.out
            have := G6.out
            have := HWB.out
            have := HLW.out.size
            exact hb3.block q (by omega) (by omega) (by omega) (by omega) (Or.inl (by omega))⟩)
          have Z13 : Hid (w8.heap.size ≤ w13.heap.size) := Lib.hid (Nat.le_trans (Nat.le_trans HBP.out.1 HBP.out.2) hb3.size)
          clear hk hr3 hb3 HWT HLW HK1
          have PE2 := Lib.hid (end_any k g b w13.heap.size w13.heap.size r (.slice none 0 0) _ [] w13 K13.out fitW_new (World.ownsRow_nil _ _ _ _) (Nat.le_refl _) (Nat.lt_of_lt_of_le HKB.out.1 Z13.out) (Nat.lt_of_lt_of_le HKB.out.2.1 Z13.out) (Nat.lt_of_lt_of_le HKB.out.2.2 Z13.out))
          have S1n : (0 : Int) ≤ ((r.sizes l1).length : Int) := by omega
          have S2n : ((r.sizes l1).length : Int) ≤ 2500 := by have := HS.out; omega
          rcases r.fd_end HFD.out with ⟨hp0, hn0⟩ | ⟨hp0, hn0, hT1, hT2⟩
          · subst hp0
            have g0 : decide (0 < ([] : List UInt8).length) = false := rfl
            have HN0 := Lib.hid hn0
            have g1 : ((O.length : Int) != ((r.sizes l1).length : Int)) = false := by rw [hn0]; simp
            clear hn0
            rw [g0]
            go_wp2_with fail
            with_reducible refine PE2.out.mono ?_
            clear PE2
            rintro e w15 ⟨rfl, hk, hr3, hb3⟩
            have K15 := Lib.hid hk
            have W15 := Lib.hid (W13.out.butF K13.out hb3 (by decide) (by decide) (by decide))
            have L15 : Hid (Below w.heap.size w w15) := Lib.hid (L13.out.trans ⟨hb3.os, hb3.tape, hb3.output, hb3.size, fun q hq => by
              have := HKB.out
              have := G6.out
              have := HWB.out
              have := L13.out.size
              have := Z13.out
              exact hb3.block q (by omega) (by omega) (by omega) (by omega) (Or.inl (by omega))⟩)
            clear hk hr3 hb3 W13 L13 K13
            go_wp2_with fail
            go_roundw
            case rel => exact ⟨j + 1, _, by omega, by go_num, K15, Lib.hid fitW_new, W15, L15⟩
            case measure => simp [intOf]; omega
          · have hpl : 0 < P.length := List.length_pos_iff.2 hp0
            have g0 : decide (0 < P.length) = true := by simpa using hpl
            have hS1 : IntKind.i64.wrap (((r.sizes l1).length : Int) - 1) = (O.length : Int) := by rw [IntKind.wrap_i64]; omega
            have hT : flen O ≤ l1.length := hT1
            obtain ⟨A3, hA3, hr3⟩ := run_drop a1 l1.length n1 (flen O) hT e6
            have PA : Hid (bytesIn w13 A3 P) := Lib.hid (by
              have h := (I1.out.below L13.out (Nat.le_refl _)).mid n1 (flen O) l1.length hT (Nat.le_refl _) e6
              rw [← hA3, List.take_length] at h
              have e : l1.drop (flen O) = P := hT2
              rwa [e] at h)
            have PB : Hid (bytesIn w13 va P) := Lib.hid (by
              obtain ⟨a, c, h1, -, h3, -⟩ := R13.out.bytes
              injection h1 with h1 h2 h4
              rw [h1]; exact h3)
            have HKT : Hid (l1.length - flen O = P.length) := Lib.hid (by
              have := congrArg List.length hT2
              rw [List.length_drop] at this
              exact this)
            have T0n : (0 : Int) ≤ (flen O : Int) := by omega
            have T1n : (flen O : Int) ≤ (l1.length : Int) := by omega
            clear hT1 hT2 hn0 hpl hp0 hA3 hT R13
            rw [g0]
            go_upto_region 30 with fail
            refine wp_region_noPanic ?_
            refine wp_region_held_drew (S := fun w' => bytesIn w' va P ∧ bytesIn w' A3 P) (by kernel_rfl) ⟨PB.out, PA.out⟩ (fun hH => ?_)
            refine wpAnyH_take (i := 0) (oi := { dst := some 170, op := Op.move (Operand.tmp 15), type := 3, pos := "law.go:91", after := #[], guard := none }) (v := .int .i64 (O.length : Int)) rfl (by kernel_rfl) (by kernel_rfl) (by kernel_rfl) (fun _ _ _ h => h) (Or.inl ⟨by rfl, fun wx hS => ?_⟩) hH ?_
            · go_simp
            simp only [Act.put, List.setIfInBounds_toArray, List.set_cons_zero, List.set_cons_succ]
            refine wpAnyH_take (i := 1) (oi := { dst := some 171, op := Op.move (Operand.tmp 7), type := 43, pos := "law.go:91", after := #[], guard := none }) (v := .slice sa (r.sizes l1).length sc) rfl (by kernel_rfl) (by kernel_rfl) (by kernel_rfl) (fun _ _ _ h => h) (Or.inl ⟨by rfl, fun wx hS => ?_⟩) hH ?_
            · go_simp
            simp only [Act.put, List.setIfInBounds_toArray, List.set_cons_zero, List.set_cons_succ]
            refine wpAnyH_take (i := 2) (oi := { dst := some 172, op := Op.call { callee := Callee.builtin Builtin.len, args := #[Operand.tmp 171], argTypes := #[43] }, type := 3, pos := "law.go:91", after := #[{ on := 1, ground := Ground.data }], guard := none }) (v := .int .i64 ((r.sizes l1).length : Int)) rfl (by kernel_rfl) (by kernel_rfl) (by kernel_rfl) (fun _ _ _ h => h) (Or.inl ⟨by rfl, fun wx hS => ?_⟩) hH ?_
            · go_simp
            simp only [Act.put, List.setIfInBounds_toArray, List.set_cons_zero, List.set_cons_succ]
            refine wpAnyH_take (i := 3) (oi := { dst := some 173, op := Op.binOp BinOp.sub 3 (Operand.tmp 172) (Operand.const (Value.int IntKind.i64 1)) 3, type := 3, pos := "law.go:91", after := #[{ on := 2, ground := Ground.data }], guard := none }) (v := .int .i64 (O.length : Int)) rfl (by kernel_rfl) (by kernel_rfl) (by kernel_rfl) (fun _ _ _ h => h) (Or.inl ⟨by rfl, fun wx hS => ?_⟩) hH ?_
            · have e1 := hS1; go_simp
            simp only [Act.put, List.setIfInBounds_toArray, List.set_cons_zero, List.set_cons_succ]
            refine wpAnyH_take (i := 4) (oi := { dst := some 174, op := Op.binOp BinOp.neq 3 (Operand.tmp 170) (Operand.tmp 173) 3, type := 4, pos := "law.go:91", after := #[{ on := 0, ground := Ground.data }, { on := 3, ground := Ground.data }], guard := none }) (v := .bool false) rfl (by kernel_rfl) (by kernel_rfl) (by kernel_rfl) (fun _ _ _ h => h) (Or.inl ⟨by rfl, fun wx hS => ?_⟩) hH ?_
            · go_simp
            simp only [Act.put, List.setIfInBounds_toArray, List.set_cons_zero, List.set_cons_succ]
            refine wpAnyH_take (i := 5) (oi := { dst := some 175, op := Op.move (Operand.tmp 174), type := 4, pos := "law.go:91", after := #[{ on := 4, ground := Ground.data }], guard := none }) (v := .bool false) rfl (by kernel_rfl) (by kernel_rfl) (by kernel_rfl) (fun _ _ _ h => h) (Or.inl ⟨by rfl, fun wx hS => ?_⟩) hH ?_
            · go_simp
            simp only [Act.put, List.setIfInBounds_toArray, List.set_cons_zero, List.set_cons_succ]
            refine wpAnyH_take (i := 6) (oi := { dst := some 176, op := Op.move (Operand.tmp 20), type := 25, pos := "law.go:91", after := #[{ on := 5, ground := Ground.guard }], guard := some (5, false) }) (v := .slice va P.length vc) rfl (by kernel_rfl) (by kernel_rfl) (by kernel_rfl) (fun _ _ _ h => h) (Or.inl ⟨by rfl, fun wx hS => ?_⟩) hH ?_
            · go_simp
            simp only [Act.put, List.setIfInBounds_toArray, List.set_cons_zero, List.set_cons_succ]
            refine wpAnyH_take (i := 7) (oi := { dst := some 177, op := Op.convert 25 9 (Operand.tmp 176), type := 9, pos := "law.go:91", after := #[{ on := 6, ground := Ground.data }, { on := 5, ground := Ground.guard }], guard := some (5, false) }) (v := .string (str P)) rfl (by kernel_rfl) (by kernel_rfl) (by kernel_rfl) (fun _ _ _ h => h) (Or.inl ⟨by rfl, fun wx hS => ?_⟩) hH ?_
            · have e1 := conv_string wx va P vc hS.1; go_simp
            simp only [Act.put, List.setIfInBounds_toArray, List.set_cons_zero, List.set_cons_succ]
            refine wpAnyH_take (i := 8) (oi := { dst := some 178, op := Op.move (Operand.tmp 1), type := 25, pos := "law.go:91", after := #[{ on := 5, ground := Ground.guard }], guard := some (5, false) }) (v := .slice a1 l1.length n1) rfl (by kernel_rfl) (by kernel_rfl) (by kernel_rfl) (fun _ _ _ h => h) (Or.inl ⟨by rfl, fun wx hS => ?_⟩) hH ?_
            · go_simp
            simp only [Act.put, List.setIfInBounds_toArray, List.set_cons_zero, List.set_cons_succ]
            refine wpAnyH_take (i := 9) (oi := { dst := some 179, op := Op.move (Operand.tmp 13), type := 3, pos := "law.go:91", after := #[{ on := 5, ground := Ground.guard }], guard := some (5, false) }) (v := .int .i64 (flen O : Int)) rfl (by kernel_rfl) (by kernel_rfl) (by kernel_rfl) (fun _ _ _ h => h) (Or.inl ⟨by rfl, fun wx hS => ?_⟩) hH ?_
            · go_simp
            simp only [Act.put, List.setIfInBounds_toArray, List.set_cons_zero, List.set_cons_succ]
            refine wpAnyH_take (i := 10) (oi := { dst := some 180, op := Op.slice 25 (Operand.tmp 178) (some (Operand.tmp 179)) none none, type := 25, pos := "law.go:91", after := #[{ on := 8, ground := Ground.data }, { on := 9, ground := Ground.data }, { on := 5, ground := Ground.guard }], guard := some (5, false) }) (v := .slice A3 (l1.length - flen O) (n1 - flen O)) rfl (by kernel_rfl) (by kernel_rfl) (by kernel_rfl) (fun _ _ _ h => h) (Or.inl ⟨by rfl, fun wx hS => ?_⟩) hH ?_
            · have e1 := hr3; go_simp
            simp only [Act.put, List.setIfInBounds_toArray, List.set_cons_zero, List.set_cons_succ]
            refine wpAnyH_take (i := 11) (oi := { dst := some 181, op := Op.convert 25 9 (Operand.tmp 180), type := 9, pos := "law.go:91", after := #[{ on := 10, ground := Ground.data }, { on := 5, ground := Ground.guard }], guard := some (5, false) }) (v := .string (str P)) rfl (by kernel_rfl) (by kernel_rfl) (by kernel_rfl) (fun _ _ _ h => h) (Or.inl ⟨by rfl, fun wx hS => ?_⟩) hH ?_
            · have e1 := conv_string wx A3 P (n1 - flen O) hS.2; rw [← HKT.out] at e1; go_simp
            simp only [Act.put, List.setIfInBounds_toArray, List.set_cons_zero, List.set_cons_succ]
            refine wpAnyH_take (i := 12) (oi := { dst := some 182, op := Op.binOp BinOp.neq 9 (Operand.tmp 177) (Operand.tmp 181) 9, type := 4, pos := "law.go:91", after := #[{ on := 7, ground := Ground.data }, { on := 11, ground := Ground.data }, { on := 5, ground := Ground.guard }], guard := some (5, false) }) (v := .bool false) rfl (by kernel_rfl) (by kernel_rfl) (by kernel_rfl) (fun _ _ _ h => h) (Or.inl ⟨by rfl, fun wx hS => ?_⟩) hH ?_
            · go_simp
            simp only [Act.put, List.setIfInBounds_toArray, List.set_cons_zero, List.set_cons_succ]
            refine wpAnyH_take (i := 13) (oi := { dst := some 183, op := Op.pick (Operand.tmp 175) (Operand.const (Value.bool true)) (Operand.tmp 182), type := 4, pos := "law.go:91", after := #[{ on := 5, ground := Ground.data }, { on := 12, ground := Ground.data }], guard := none }) (v := .bool false) rfl (by kernel_rfl) (by kernel_rfl) (by kernel_rfl) (fun _ _ _ h => h) (Or.inl ⟨by rfl, fun wx hS => ?_⟩) hH ?_
            · go_simp
            simp only [Act.put, List.setIfInBounds_toArray, List.set_cons_zero, List.set_cons_succ]
            refine wpAnyH_done (by kernel_rfl) ?_ _
            refine NoPanic.normal ?_
            clear hH
            clear hS1 hr3 PA PB HKT
            have K14 : Hid (KnifeAt w13.drew k g b r (.slice none 0 0) (List.replicate 64 0)) := Lib.hid (K13.out.below (Below.refl _ _).drew)
            have L14 : Hid (Below w.heap.size w w13.drew) := Lib.hid (below_drewN L13.out 1)
            have W14 : Hid (rowV w13.drew w.heap.size 3 (.slice sa (r.sizes l1).length sc) (ivals (r.sizes l1))) := W13
            have Z14 : Hid (w8.heap.size ≤ w13.drew.heap.size) := Z13
            clear K13 L13 W13 Z13 PE2
            generalize w13.drew = w14 at *
            have PE2 := Lib.hid (end_any k g b w14.heap.size w14.heap.size r (.slice none 0 0) _ [] w14 K14.out fitW_new (World.ownsRow_nil _ _ _ _) (Nat.le_refl _) (Nat.lt_of_lt_of_le HKB.out.1 Z14.out) (Nat.lt_of_lt_of_le HKB.out.2.1 Z14.out) (Nat.lt_of_lt_of_le HKB.out.2.2 Z14.out))
            go_wp2_with fail
            with_reducible refine PE2.out.mono ?_
            clear PE2
            rintro e w15 ⟨rfl, hk, hr3, hb3⟩
            have K15 := Lib.hid hk
            have W15 := Lib.hid (W14.out.butF K14.out hb3 (by decide) (by decide) (by decide))
            have L15 : Hid (Below w.heap.size w w15) := Lib.hid (L14.out.trans ⟨hb3.os, hb3.tape, hb3.output, hb3.size, fun q hq => by
              have := HKB.out
              have := G6.out
              have := HWB.out
              have := L14.out.size
              have := Z14.out
              exact hb3.block q (by omega) (by omega) (by omega) (by omega) (Or.inl (by omega))⟩)
            clear hk hr3 hb3 W14 L14 K14
            go_wp2_with fail
            go_roundw
            case rel => exact ⟨j + 1, _, by omega, by go_num, K15, Lib.hid fitW_new, W15, L15⟩
            case measure => simp [intOf]; omega
        · have h1 : 0 < l.length := List.length_pos_iff.2 h0
          have h2 : (0 : Int) < (l.length : Int) := by omega
          have hi30 : i ≤ 30 := by
            rcases Nat.lt_or_ge 30 i with h | h
            · exact absurd (HI31.out (by omega)) h0
            · exact h
          have l0 : (0 : Int) ≤ (l.length : Int) := by omega
          have l3 : (l.length : Int) ≤ 2500 := by have := HA.out; omega
          clear HI31
          rcases (show (i < N.length ∧ i < 30) ∨ (i < N.length ∧ ¬ i < 30) ∨ ¬ i < N.length by omega) with ⟨hi1, hi2⟩ | ⟨hi1, hi2⟩ | hi1
          · as_aux_lemma =>
            have j1 : (i : Int) < (N.length : Int) := by omega
            have j2 : (i : Int) < 30 := by omega
            obtain ⟨pb, po2, rfl, d1⟩ := (HI.out.below C1.out.low (Nat.le_refl _)).at i (by rw [zvals_length]; exact hi1)
            have e1 : (zvals N)[i]'(by rw [zvals_length]; exact hi1) = .int .i64 N[i] := by simp [zvals]
            rw [e1] at d1
            clear e1
            obtain ⟨C, hC, hCl⟩ := mod_part N[i] l.length (by omega)
            have HC := Lib.hid hC
            clear hC
            generalize N[i] = z at *
            go_upto_region 17 with fail
            rw [HC.out]
            have HBO9 : Hid (wo.heap.size ≤ wr.heap.size) := Lib.hid (by
              obtain ⟨_, _, _, _, _, _, h4, h5⟩ := C1.out.ex
              exact Nat.le_trans HBO.out (Nat.le_trans h4 h5))
            have C0n : (0 : Int) ≤ (C : Int) := by omega
            have C3n : (C : Int) ≤ 2500 := by omega
            have C2n : (C : Int) ≤ (l.length : Int) := by omega
            obtain ⟨H, hH, hHC⟩ : ∃ H : Nat, (C : Int) / 2 = (H : Int) ∧ H ≤ C := ⟨C / 2, by omega, by omega⟩
            have hH2 : (C : Int).tdiv 2 = (H : Int) := by rw [Int.tdiv_eq_ediv_of_nonneg C0n]; exact hH
            obtain ⟨A2, hA2, hr2⟩ := run_mid a l.length c H C hHC (by omega) C1.out.len
            have HA2 := Lib.hid hA2
            have HH := Lib.hid hHC
            have H0n : (0 : Int) ≤ (H : Int) := by omega
            have H1n : (H : Int) ≤ (C : Int) := by omega
            have H2n : (H : Int) ≤ (l.length : Int) := by omega
            have H3n : (H : Int) ≤ (c : Int) := by have := C1.out.len; omega
            have hHw : IntKind.i64.wrap (H : Int) = (H : Int) := by rw [IntKind.wrap_i64]; omega
            clear hA2 hHC
            have PF : Hid (Calls Try.prog 17 #[.pointer (some ⟨k, 0, none⟩), .slice (some ⟨wr.heap.size, 0, none⟩) 3 3] ((wr.alloc (.cells #[.slice a H c, .slice none 0 0, .slice A2 (C - H) (c - H)] 25 (0, 0))).drew) fun e w'' => ∃ ov vs, e = .returned ov ∧ (∀ A7, A7 = (if c = C then a else a.map (fun x => x.add C)) → CfAt w w'' w.heap.size k g b r w8.heap.size (.slice sa (r.sizes l1).length sc) l1 A7 (l.drop C) (c - C) (D ++ l.take C) (r.fed P (l.take C)).2 (O ++ (r.fed P (l.take C)).1)) ∧ rowV w'' wr.heap.size 25 ov vs ∧ Pieces w'' w8.heap.size w''.heap.size vs (r.fed P (l.take C)).1) := Lib.hid (feedcf (w := wr.drew) (C1.out.below (Below.refl _ _).drew C1.out.low.size) A2 H C HH.out (by omega) HA2.out G6.out HKB.out HWB.out e5)
            refine wp_region_noPanic ?_
            refine wp_region_held_drew (S := fun _ => True) (by kernel_rfl) trivial (fun hH => ?_)
            refine wpAnyH_take (i := 0) (oi := { dst := some 83, op := Op.move (Operand.tmp 9), type := 27, pos := "law.go:75", after := #[], guard := none }) (v := .pointer (some ⟨k, 0, none⟩)) rfl (by kernel_rfl) (by kernel_rfl) (by kernel_rfl) (fun _ _ _ h => h) (Or.inl ⟨by rfl, fun wx hS => ?_⟩) hH ?_
            · go_simp
            simp only [Act.put, List.setIfInBounds_toArray, List.set_cons_zero, List.set_cons_succ]
            refine wpAnyH_take (i := 1) (oi := { dst := some 84, op := Op.move (Operand.tmp 12), type := 25, pos := "law.go:75", after := #[], guard := none }) (v := .slice a l.length c) rfl (by kernel_rfl) (by kernel_rfl) (by kernel_rfl) (fun _ _ _ h => h) (Or.inl ⟨by rfl, fun wx hS => ?_⟩) hH ?_
            · go_simp
            simp only [Act.put, List.setIfInBounds_toArray, List.set_cons_zero, List.set_cons_succ]
            refine wpAnyH_take (i := 2) (oi := { dst := some 85, op := Op.move (Operand.tmp 17), type := 3, pos := "law.go:75", after := #[], guard := none }) (v := .int .i64 (C : Int)) rfl (by kernel_rfl) (by kernel_rfl) (by kernel_rfl) (fun _ _ _ h => h) (Or.inl ⟨by rfl, fun wx hS => ?_⟩) hH ?_
            · go_simp
            simp only [Act.put, List.setIfInBounds_toArray, List.set_cons_zero, List.set_cons_succ]
            refine wpAnyH_take (i := 3) (oi := { dst := some 86, op := Op.binOp BinOp.quo 3 (Operand.tmp 85) (Operand.const (Value.int IntKind.i64 2)) 3, type := 3, pos := "law.go:75", after := #[{ on := 2, ground := Ground.data }], guard := none }) (v := .int .i64 (H : Int)) rfl (by kernel_rfl) (by kernel_rfl) (by kernel_rfl) (fun _ _ _ h => h) (Or.inl ⟨by rfl, fun wx hS => ?_⟩) hH ?_
            · go_simp
            simp only [Act.put, List.setIfInBounds_toArray, List.set_cons_zero, List.set_cons_succ]
            refine wpAnyH_take (i := 4) (oi := { dst := some 87, op := Op.slice 25 (Operand.tmp 84) none (some (Operand.tmp 86)) none, type := 25, pos := "law.go:75", after := #[{ on := 1, ground := Ground.data }, { on := 3, ground := Ground.data }], guard := none }) (v := .slice a H c) rfl (by kernel_rfl) (by kernel_rfl) (by kernel_rfl) (fun _ _ _ h => h) (Or.inl ⟨by rfl, fun wx hS => ?_⟩) hH ?_
            · go_simp
            simp only [Act.put, List.setIfInBounds_toArray, List.set_cons_zero, List.set_cons_succ]
            refine wpAnyH_take (i := 5) (oi := { dst := some 88, op := Op.move (Operand.tmp 12), type := 25, pos := "law.go:75", after := #[], guard := none }) (v := .slice a l.length c) rfl (by kernel_rfl) (by kernel_rfl) (by kernel_rfl) (fun _ _ _ h => h) (Or.inl ⟨by rfl, fun wx hS => ?_⟩) hH ?_
            · go_simp
            simp only [Act.put, List.setIfInBounds_toArray, List.set_cons_zero, List.set_cons_succ]
            refine wpAnyH_take (i := 6) (oi := { dst := some 89, op := Op.move (Operand.tmp 17), type := 3, pos := "law.go:75", after := #[], guard := none }) (v := .int .i64 (C : Int)) rfl (by kernel_rfl) (by kernel_rfl) (by kernel_rfl) (fun _ _ _ h => h) (Or.inl ⟨by rfl, fun wx hS => ?_⟩) hH ?_
            · go_simp
            simp only [Act.put, List.setIfInBounds_toArray, List.set_cons_zero, List.set_cons_succ]
            refine wpAnyH_take (i := 7) (oi := { dst := some 90, op := Op.binOp BinOp.quo 3 (Operand.tmp 89) (Operand.const (Value.int IntKind.i64 2)) 3, type := 3, pos := "law.go:75", after := #[{ on := 6, ground := Ground.data }], guard := none }) (v := .int .i64 (H : Int)) rfl (by kernel_rfl) (by kernel_rfl) (by kernel_rfl) (fun _ _ _ h => h) (Or.inl ⟨by rfl, fun wx hS => ?_⟩) hH ?_
            · go_simp
            simp only [Act.put, List.setIfInBounds_toArray, List.set_cons_zero, List.set_cons_succ]
            refine wpAnyH_take (i := 8) (oi := { dst := some 91, op := Op.move (Operand.tmp 17), type := 3, pos := "law.go:75", after := #[], guard := none }) (v := .int .i64 (C : Int)) rfl (by kernel_rfl) (by kernel_rfl) (by kernel_rfl) (fun _ _ _ h => h) (Or.inl ⟨by rfl, fun wx hS => ?_⟩) hH ?_
            · go_simp
            simp only [Act.put, List.setIfInBounds_toArray, List.set_cons_zero, List.set_cons_succ]
            refine wpAnyH_take (i := 9) (oi := { dst := some 92, op := Op.slice 25 (Operand.tmp 88) (some (Operand.tmp 90)) (some (Operand.tmp 91)) none, type := 25, pos := "law.go:75", after := #[{ on := 5, ground := Ground.data }, { on := 7, ground := Ground.data }, { on := 8, ground := Ground.data }], guard := none }) (v := .slice A2 (C - H) (c - H)) rfl (by kernel_rfl) (by kernel_rfl) (by kernel_rfl) (fun _ _ _ h => h) (Or.inl ⟨by rfl, fun wx hS => ?_⟩) hH ?_
            · go_simp
            simp only [Act.put, List.setIfInBounds_toArray, List.set_cons_zero, List.set_cons_succ]
            refine wpAnyH_ready (rs := [10]) (by kernel_rfl) (by simp) ?_
            refine AllReadyH.cons (o := { dst := some 93, op := Op.buildSlice 40 3 #[(0, Operand.tmp 87), (1, Operand.const (Value.slice none 0 0)), (2, Operand.tmp 92)], type := 40, pos := "law.go:75", after := #[{ on := 4, ground := Ground.data }, { on := 9, ground := Ground.data }], guard := none }) rfl (fun KK hKK => ?_) AllReadyH.nil
            go_simp
            refine hKK.out _ _ trivial (fun hH => ?_)
            clear hKK KK
            try simp only [Act.put, List.setIfInBounds_toArray, List.set_cons_zero, List.set_cons_succ]
            refine wpAnyH_ready (rs := [11]) (by kernel_rfl) (by simp) ?_
            refine AllReadyH.cons (o := { dst := some 94, op := Op.call { callee := Callee.value (Operand.func 17), args := #[Operand.tmp 83, Operand.tmp 93], argTypes := #[27, 40] }, type := 40, pos := "law.go:75", after := #[{ on := 0, ground := Ground.data }, { on := 10, ground := Ground.data }], guard := none }) rfl (fun KK hKK => ?_) AllReadyH.nil
            go_simp
            with_reducible refine PF.out.mono ?_
            rintro e w9 ⟨ov, vs, rfl, hc9, hr9, hp9⟩
            have C9 := Lib.hid hc9
            have R9 := Lib.hid hr9
            have P9 := Lib.hid hp9
            obtain ⟨oa, oc, rfl, ol, -, -⟩ := hr9.vals
            clear hc9 hr9 hp9 hH PF
            refine hKK.out _ _ trivial (fun hH => ?_)
            clear hKK KK
            try simp only [Act.put, List.setIfInBounds_toArray, List.set_cons_zero, List.set_cons_succ]
            refine wpAnyH_take (i := 12) (oi := { dst := some 18, op := Op.assign (Operand.tmp 94), type := 40, pos := "law.go:75", after := #[{ on := 11, ground := Ground.data }, { on := 11, ground := Ground.chain }, { on := 0, ground := Ground.phase }, { on := 1, ground := Ground.phase }, { on := 2, ground := Ground.phase }, { on := 3, ground := Ground.phase }, { on := 4, ground := Ground.phase }, { on := 5, ground := Ground.phase }, { on := 6, ground := Ground.phase }, { on := 7, ground := Ground.phase }, { on := 8, ground := Ground.phase }, { on := 9, ground := Ground.phase }, { on := 10, ground := Ground.phase }, { on := 11, ground := Ground.phase }], guard := none }) (v := .slice oa vs.length oc) rfl (by kernel_rfl) (by kernel_rfl) (by kernel_rfl) (fun _ _ _ h => h) (Or.inl ⟨by rfl, fun wx hS => ?_⟩) hH ?_
            · go_simp
            simp only [Act.put, List.setIfInBounds_toArray, List.set_cons_zero, List.set_cons_succ]
            refine wpAnyH_done (by kernel_rfl) ?_ _
            refine NoPanic.normal ?_
            clear hH
            clear hHw hH2 hH hr2 H0n H1n H2n H3n HH HA2
            obtain ⟨A7, hA7, hr7⟩ := run_drop a l.length c C (by omega) C1.out.len
            have CN := Lib.hid (C9.out A7 hA7)
            have hr7 := Lib.hid hr7
            clear hA7 C9 HA
            have HDC : Hid (D.length + C = (D ++ l.take C).length) := Lib.hid (by rw [List.length_append, List.length_take]; omega)
            have HLD : Hid ((l.drop C).length = l.length - C) := Lib.hid List.length_drop
            generalize hO' : (r.fed P (l.take C)).1 = O1 at *
            generalize hP' : (r.fed P (l.take C)).2 = P1 at *
            clear hO' hP'
            have HD5 : Hid (D.length + C ≤ 2500) := Lib.hid (by have := CN.out.alls; have := HDC.out; omega)
            have D0n : (0 : Int) ≤ (D.length : Int) := by omega
            have D1n : (D.length : Int) ≤ 2500 := by have := HD5.out; omega
            clear C1
            rename World => w10
            go_wp2_with fail
            go_loopw [13, 15, 19] (fun av nv xv wr => ∃ (x n T : Nat), x ≤ vs.length ∧ Hid (n = O.length + x) ∧ Hid (T = flen (O ++ O1.take x)) ∧ av = .int .i64 (T : Int) ∧ nv = .int .i64 (n : Int) ∧ xv = .int .i64 (x : Int) ∧ Hid (CfAt w wr w.heap.size k g b r w8.heap.size (.slice sa (r.sizes l1).length sc) l1 A7 (l.drop C) (c - C) (D ++ l.take C) P1 (O ++ O1)) ∧ Hid (rowV wr wo.heap.size 25 (.slice oa vs.length oc) vs) ∧ Hid (Pieces wr w8.heap.size wr.heap.size vs O1)) (fun _ _ xv _ => vs.length - (intOf xv).toNat)
            case atStart => exact ⟨0, O.length, flen O, Nat.zero_le _, Lib.hid rfl, Lib.hid (by simp), rfl, rfl, rfl, CN, Lib.hid (rowV.mono R9.out HBO9.out), P9⟩
            case round =>
              obtain ⟨x, n, T, hx, HN, HT, rfl, rfl, rfl, C2, R2, P2⟩ := hrel
              clear CN R9 P9
              have x0 : (0 : Int) ≤ (x : Int) := by omega
              by_cases hlt2 : x < vs.length
              · have x1 : (x : Int) < (vs.length : Int) := by omega
                have HBN : Hid ((r.sizes l1).length ≤ 2500 ∧ vs.length ≤ 2500) := Lib.hid ⟨Nat.le_trans HS.out e5, by
                  have h1 := C2.out.alls
                  have h3 : (O ++ O1).length = O.length + O1.length := List.length_append
                  have h2 := P2.out.1
                  omega⟩
                have x2 : (x : Int) ≤ 2500 := by have := HBN.out; omega
                have hx1 : x < O1.length := by rw [← P2.out.1]; exact hlt2
                obtain ⟨ob, oo, rfl, d1⟩ := ((rowV.of R2.out).2.2.1).at x hlt2
                obtain ⟨pa, pc, hve, hpl, hpin, -⟩ := (P2.out.2 x hlt2 hx1).1.bytes
                rw [hve] at d1
                obtain ⟨f1, f2, f3, f4, f5⟩ := r.fd_at2 C2.out.fed C2.out.all x n T hx1 HN.out HT.out
                obtain ⟨sb, so, rfl, d2⟩ := ((rowV.of C2.out.want).2.2.1).at n (by rw [ivals_length]; exact f1)
                have e1 : (ivals (r.sizes l1))[n]'(by rw [ivals_length]; exact f1) = .int .i64 (((r.sizes l1).getD n 0 : Nat) : Int) := by simp [ivals, f1]
                rw [e1, f2] at d2
                have HT2 := Lib.hid f5
                have PB := Lib.hid hpin
                clear e1 f2 f5 hve hpl hpin
                generalize O1[x] = s at *
                obtain ⟨K, hK⟩ : ∃ K, K = T + s.length := ⟨_, rfl⟩
                obtain ⟨A3, hA3, hr3⟩ := run_mid a1 l1.length n1 T K (by omega) (by omega) e6
                have PA : Hid (bytesIn wr A3 s) := Lib.hid (by
                  have h := (I1.out.below C2.out.low (Nat.le_refl _)).mid n1 T K (by omega) (by omega) e6
                  rw [← hA3, hK, f4] at h
                  exact h)
                have HKT : Hid (K - T = s.length) := Lib.hid (by omega)
                have T0n : (0 : Int) ≤ (T : Int) := by omega
                have K0n : (0 : Int) ≤ (K : Int) := by omega
                have TKn : (T : Int) ≤ (K : Int) := by omega
                have KLn : (K : Int) ≤ (l1.length : Int) := by omega
                have N0n : (0 : Int) ≤ (n : Int) := by omega
                have N2n : (n : Int) ≤ 2500 := by have := HBN.out; omega
                have N1n : (n : Int) < ((r.sizes l1).length : Int) := by omega
                have g1 : decide ((r.sizes l1).length ≤ n) = false := by simp; omega
                have HTK : Hid (flen (O ++ O1.take (x + 1)) = K) := Lib.hid (by rw [HT2.out, hK])
                have HKW : Hid (IntKind.i64.wrap ((T : Int) + (s.length : Int)) = (K : Int) ∧ wrap64 ((T : Int) + (s.length : Int)) = (K : Int)) := Lib.hid ⟨by rw [IntKind.wrap_i64]; omega, by unfold wrap64; omega⟩
                clear hA3 f3 f4 hK HT2
                obtain ⟨hKw, hKw2⟩ := HKW.out
                go_upto_region 22 with fail
                refine wp_region_noPanic ?_
                refine wp_region_held_drew (S := fun w' => w'.cell? ⟨ob, oo + x, none⟩ = some (.slice pa s.length pc) ∧ w'.cell? ⟨sb, so + n, none⟩ = some (.int .i64 (s.length : Int)) ∧ bytesIn w' pa s ∧ bytesIn w' A3 s) (by kernel_rfl) ⟨d1, d2, PB.out, PA.out⟩ (fun hH => ?_)
                refine wpAnyH_take (i := 0) (oi := { dst := some 104, op := Op.move (Operand.tmp 15), type := 3, pos := "law.go:78", after := #[], guard := none }) (v := .int .i64 (n : Int)) rfl (by kernel_rfl) (by kernel_rfl) (by kernel_rfl) (fun _ _ _ h => h) (Or.inl ⟨by rfl, fun wx hS => ?_⟩) hH ?_
                · go_simp
                simp only [Act.put, List.setIfInBounds_toArray, List.set_cons_zero, List.set_cons_succ]
                refine wpAnyH_take (i := 1) (oi := { dst := some 105, op := Op.move (Operand.tmp 7), type := 43, pos := "law.go:78", after := #[], guard := none }) (v := .slice (some ⟨sb, so, none⟩) (r.sizes l1).length sc) rfl (by kernel_rfl) (by kernel_rfl) (by kernel_rfl) (fun _ _ _ h => h) (Or.inl ⟨by rfl, fun wx hS => ?_⟩) hH ?_
                · go_simp
                simp only [Act.put, List.setIfInBounds_toArray, List.set_cons_zero, List.set_cons_succ]
                refine wpAnyH_take (i := 2) (oi := { dst := some 106, op := Op.call { callee := Callee.builtin Builtin.len, args := #[Operand.tmp 105], argTypes := #[43] }, type := 3, pos := "law.go:78", after := #[{ on := 1, ground := Ground.data }], guard := none }) (v := .int .i64 ((r.sizes l1).length : Int)) rfl (by kernel_rfl) (by kernel_rfl) (by kernel_rfl) (fun _ _ _ h => h) (Or.inl ⟨by rfl, fun wx hS => ?_⟩) hH ?_
                · go_simp
                simp only [Act.put, List.setIfInBounds_toArray, List.set_cons_zero, List.set_cons_succ]
                refine wpAnyH_take (i := 3) (oi := { dst := some 107, op := Op.binOp BinOp.geq 3 (Operand.tmp 104) (Operand.tmp 106) 3, type := 4, pos := "law.go:78", after := #[{ on := 0, ground := Ground.data }, { on := 2, ground := Ground.data }], guard := none }) (v := .bool false) rfl (by kernel_rfl) (by kernel_rfl) (by kernel_rfl) (fun _ _ _ h => h) (Or.inl ⟨by rfl, fun wx hS => ?_⟩) hH ?_
                · go_simp
                simp only [Act.put, List.setIfInBounds_toArray, List.set_cons_zero, List.set_cons_succ]
                refine wpAnyH_take (i := 4) (oi := { dst := some 108, op := Op.move (Operand.tmp 107), type := 4, pos := "law.go:78", after := #[{ on := 3, ground := Ground.data }], guard := none }) (v := .bool false) rfl (by kernel_rfl) (by kernel_rfl) (by kernel_rfl) (fun _ _ _ h => h) (Or.inl ⟨by rfl, fun wx hS => ?_⟩) hH ?_
                · go_simp
                simp only [Act.put, List.setIfInBounds_toArray, List.set_cons_zero, List.set_cons_succ]
                refine wpAnyH_take (i := 5) (oi := { dst := some 109, op := Op.move (Operand.tmp 18), type := 40, pos := "law.go:78", after := #[{ on := 4, ground := Ground.guard }], guard := some (4, false) }) (v := .slice (some ⟨ob, oo, none⟩) vs.length oc) rfl (by kernel_rfl) (by kernel_rfl) (by kernel_rfl) (fun _ _ _ h => h) (Or.inl ⟨by rfl, fun wx hS => ?_⟩) hH ?_
                · go_simp
                simp only [Act.put, List.setIfInBounds_toArray, List.set_cons_zero, List.set_cons_succ]
                refine wpAnyH_take (i := 6) (oi := { dst := some 110, op := Op.move (Operand.tmp 19), type := 3, pos := "law.go:78", after := #[{ on := 4, ground := Ground.guard }], guard := some (4, false) }) (v := .int .i64 (x : Int)) rfl (by kernel_rfl) (by kernel_rfl) (by kernel_rfl) (fun _ _ _ h => h) (Or.inl ⟨by rfl, fun wx hS => ?_⟩) hH ?_
                · go_simp
                simp only [Act.put, List.setIfInBounds_toArray, List.set_cons_zero, List.set_cons_succ]
                refine wpAnyH_take (i := 7) (oi := { dst := some 111, op := Op.indexAddr 40 (Operand.tmp 109) (Operand.tmp 110), type := 0, pos := "law.go:78", after := #[{ on := 5, ground := Ground.data }, { on := 6, ground := Ground.data }, { on := 4, ground := Ground.guard }], guard := some (4, false) }) (v := .pointer (some ⟨ob, oo + x, none⟩)) rfl (by kernel_rfl) (by kernel_rfl) (by kernel_rfl) (fun _ _ _ h => h) (Or.inl ⟨by rfl, fun wx hS => ?_⟩) hH ?_
                · go_simp
                simp only [Act.put, List.setIfInBounds_toArray, List.set_cons_zero, List.set_cons_succ]
                refine wpAnyH_take (i := 8) (oi := { dst := some 112, op := Op.load 25 (Operand.tmp 111), type := 25, pos := "law.go:78", after := #[{ on := 7, ground := Ground.data }, { on := 4, ground := Ground.guard }], guard := some (4, false) }) (v := .slice pa s.length pc) rfl (by kernel_rfl) (by kernel_rfl) (by kernel_rfl) (fun _ _ _ h => h) (Or.inl ⟨by rfl, fun wx hS => ?_⟩) hH ?_
                · have e1 := hS.1; go_simp
                simp only [Act.put, List.setIfInBounds_toArray, List.set_cons_zero, List.set_cons_succ]
                refine wpAnyH_take (i := 9) (oi := { dst := some 113, op := Op.call { callee := Callee.builtin Builtin.len, args := #[Operand.tmp 112], argTypes := #[25] }, type := 3, pos := "law.go:78", after := #[{ on := 8, ground := Ground.data }, { on := 4, ground := Ground.guard }], guard := some (4, false) }) (v := .int .i64 (s.length : Int)) rfl (by kernel_rfl) (by kernel_rfl) (by kernel_rfl) (fun _ _ _ h => h) (Or.inl ⟨by rfl, fun wx hS => ?_⟩) hH ?_
                · go_simp
                simp only [Act.put, List.setIfInBounds_toArray, List.set_cons_zero, List.set_cons_succ]
                refine wpAnyH_take (i := 10) (oi := { dst := some 114, op := Op.move (Operand.tmp 7), type := 43, pos := "law.go:78", after := #[{ on := 4, ground := Ground.guard }], guard := some (4, false) }) (v := .slice (some ⟨sb, so, none⟩) (r.sizes l1).length sc) rfl (by kernel_rfl) (by kernel_rfl) (by kernel_rfl) (fun _ _ _ h => h) (Or.inl ⟨by rfl, fun wx hS => ?_⟩) hH ?_
                · go_simp
                simp only [Act.put, List.setIfInBounds_toArray, List.set_cons_zero, List.set_cons_succ]
                refine wpAnyH_take (i := 11) (oi := { dst := some 115, op := Op.move (Operand.tmp 15), type := 3, pos := "law.go:78", after := #[{ on := 4, ground := Ground.guard }], guard := some (4, false) }) (v := .int .i64 (n : Int)) rfl (by kernel_rfl) (by kernel_rfl) (by kernel_rfl) (fun _ _ _ h => h) (Or.inl ⟨by rfl, fun wx hS => ?_⟩) hH ?_
                · go_simp
                simp only [Act.put, List.setIfInBounds_toArray, List.set_cons_zero, List.set_cons_succ]
                refine wpAnyH_take (i := 12) (oi := { dst := some 116, op := Op.indexAddr 43 (Operand.tmp 114) (Operand.tmp 115), type := 0, pos := "law.go:78", after := #[{ on := 10, ground := Ground.data }, { on := 11, ground := Ground.data }, { on := 4, ground := Ground.guard }], guard := some (4, false) }) (v := .pointer (some ⟨sb, so + n, none⟩)) rfl (by kernel_rfl) (by kernel_rfl) (by kernel_rfl) (fun _ _ _ h => h) (Or.inl ⟨by rfl, fun wx hS => ?_⟩) hH ?_
                · go_simp
                simp only [Act.put, List.setIfInBounds_toArray, List.set_cons_zero, List.set_cons_succ]
                refine wpAnyH_take (i := 13) (oi := { dst := some 117, op := Op.load 3 (Operand.tmp 116), type := 3, pos := "law.go:78", after := #[{ on := 12, ground := Ground.data }, { on := 4, ground := Ground.guard }], guard := some (4, false) }) (v := .int .i64 (s.length : Int)) rfl (by kernel_rfl) (by kernel_rfl) (by kernel_rfl) (fun _ _ _ h => h) (Or.inl ⟨by rfl, fun wx hS => ?_⟩) hH ?_
                · have e1 := hS.2.1; go_simp
                simp only [Act.put, List.setIfInBounds_toArray, List.set_cons_zero, List.set_cons_succ]
                refine wpAnyH_take (i := 14) (oi := { dst := some 118, op := Op.binOp BinOp.neq 3 (Operand.tmp 113) (Operand.tmp 117) 3, type := 4, pos := "law.go:78", after := #[{ on := 9, ground := Ground.data }, { on := 13, ground := Ground.data }, { on := 4, ground := Ground.guard }], guard := some (4, false) }) (v := .bool false) rfl (by kernel_rfl) (by kernel_rfl) (by kernel_rfl) (fun _ _ _ h => h) (Or.inl ⟨by rfl, fun wx hS => ?_⟩) hH ?_
                · go_simp
                simp only [Act.put, List.setIfInBounds_toArray, List.set_cons_zero, List.set_cons_succ]
                refine wpAnyH_take (i := 15) (oi := { dst := some 119, op := Op.pick (Operand.tmp 108) (Operand.const (Value.bool true)) (Operand.tmp 118), type := 4, pos := "law.go:78", after := #[{ on := 4, ground := Ground.data }, { on := 14, ground := Ground.data }], guard := none }) (v := .bool false) rfl (by kernel_rfl) (by kernel_rfl) (by kernel_rfl) (fun _ _ _ h => h) (Or.inl ⟨by rfl, fun wx hS => ?_⟩) hH ?_
                · go_simp
                simp only [Act.put, List.setIfInBounds_toArray, List.set_cons_zero, List.set_cons_succ]
                refine wpAnyH_take (i := 16) (oi := { dst := some 120, op := Op.move (Operand.tmp 119), type := 4, pos := "law.go:78", after := #[{ on := 15, ground := Ground.data }, { on := 4, ground := Ground.chain }], guard := none }) (v := .bool false) rfl (by kernel_rfl) (by kernel_rfl) (by kernel_rfl) (fun _ _ _ h => h) (Or.inl ⟨by rfl, fun wx hS => ?_⟩) hH ?_
                · go_simp
                simp only [Act.put, List.setIfInBounds_toArray, List.set_cons_zero, List.set_cons_succ]
                refine wpAnyH_take (i := 17) (oi := { dst := some 121, op := Op.move (Operand.tmp 18), type := 40, pos := "law.go:78", after := #[{ on := 16, ground := Ground.guard }], guard := some (16, false) }) (v := .slice (some ⟨ob, oo, none⟩) vs.length oc) rfl (by kernel_rfl) (by kernel_rfl) (by kernel_rfl) (fun _ _ _ h => h) (Or.inl ⟨by rfl, fun wx hS => ?_⟩) hH ?_
                · go_simp
                simp only [Act.put, List.setIfInBounds_toArray, List.set_cons_zero, List.set_cons_succ]
                refine wpAnyH_take (i := 18) (oi := { dst := some 122, op := Op.move (Operand.tmp 19), type := 3, pos := "law.go:78", after := #[{ on := 16, ground := Ground.guard }], guard := some (16, false) }) (v := .int .i64 (x : Int)) rfl (by kernel_rfl) (by kernel_rfl) (by kernel_rfl) (fun _ _ _ h => h) (Or.inl ⟨by rfl, fun wx hS => ?_⟩) hH ?_
                · go_simp
                simp only [Act.put, List.setIfInBounds_toArray, List.set_cons_zero, List.set_cons_succ]
                refine wpAnyH_take (i := 19) (oi := { dst := some 123, op := Op.indexAddr 40 (Operand.tmp 121) (Operand.tmp 122), type := 0, pos := "law.go:78", after := #[{ on := 17, ground := Ground.data }, { on := 18, ground := Ground.data }, { on := 16, ground := Ground.guard }], guard := some (16, false) }) (v := .pointer (some ⟨ob, oo + x, none⟩)) rfl (by kernel_rfl) (by kernel_rfl) (by kernel_rfl) (fun _ _ _ h => h) (Or.inl ⟨by rfl, fun wx hS => ?_⟩) hH ?_
                · go_simp
                simp only [Act.put, List.setIfInBounds_toArray, List.set_cons_zero, List.set_cons_succ]
                refine wpAnyH_take (i := 20) (oi := { dst := some 124, op := Op.load 25 (Operand.tmp 123), type := 25, pos := "law.go:78", after := #[{ on := 19, ground := Ground.data }, { on := 16, ground := Ground.guard }], guard := some (16, false) }) (v := .slice pa s.length pc) rfl (by kernel_rfl) (by kernel_rfl) (by kernel_rfl) (fun _ _ _ h => h) (Or.inl ⟨by rfl, fun wx hS => ?_⟩) hH ?_
                · have e1 := hS.1; go_simp
                simp only [Act.put, List.setIfInBounds_toArray, List.set_cons_zero, List.set_cons_succ]
                refine wpAnyH_take (i := 21) (oi := { dst := some 125, op := Op.convert 25 9 (Operand.tmp 124), type := 9, pos := "law.go:78", after := #[{ on := 20, ground := Ground.data }, { on := 16, ground := Ground.guard }], guard := some (16, false) }) (v := .string (str s)) rfl (by kernel_rfl) (by kernel_rfl) (by kernel_rfl) (fun _ _ _ h => h) (Or.inl ⟨by rfl, fun wx hS => ?_⟩) hH ?_
                · have e1 := conv_string wx pa s pc hS.2.2.1; go_simp
                simp only [Act.put, List.setIfInBounds_toArray, List.set_cons_zero, List.set_cons_succ]
                refine wpAnyH_take (i := 22) (oi := { dst := some 126, op := Op.move (Operand.tmp 1), type := 25, pos := "law.go:78", after := #[{ on := 16, ground := Ground.guard }], guard := some (16, false) }) (v := .slice a1 l1.length n1) rfl (by kernel_rfl) (by kernel_rfl) (by kernel_rfl) (fun _ _ _ h => h) (Or.inl ⟨by rfl, fun wx hS => ?_⟩) hH ?_
                · go_simp
                simp only [Act.put, List.setIfInBounds_toArray, List.set_cons_zero, List.set_cons_succ]
                refine wpAnyH_take (i := 23) (oi := { dst := some 127, op := Op.move (Operand.tmp 13), type := 3, pos := "law.go:78", after := #[{ on := 16, ground := Ground.guard }], guard := some (16, false) }) (v := .int .i64 (T : Int)) rfl (by kernel_rfl) (by kernel_rfl) (by kernel_rfl) (fun _ _ _ h => h) (Or.inl ⟨by rfl, fun wx hS => ?_⟩) hH ?_
                · go_simp
                simp only [Act.put, List.setIfInBounds_toArray, List.set_cons_zero, List.set_cons_succ]
                refine wpAnyH_take (i := 24) (oi := { dst := some 128, op := Op.move (Operand.tmp 13), type := 3, pos := "law.go:78", after := #[{ on := 16, ground := Ground.guard }], guard := some (16, false) }) (v := .int .i64 (T : Int)) rfl (by kernel_rfl) (by kernel_rfl) (by kernel_rfl) (fun _ _ _ h => h) (Or.inl ⟨by rfl, fun wx hS => ?_⟩) hH ?_
                · go_simp
                simp only [Act.put, List.setIfInBounds_toArray, List.set_cons_zero, List.set_cons_succ]
                refine wpAnyH_take (i := 25) (oi := { dst := some 129, op := Op.move (Operand.tmp 7), type := 43, pos := "law.go:78", after := #[{ on := 16, ground := Ground.guard }], guard := some (16, false) }) (v := .slice (some ⟨sb, so, none⟩) (r.sizes l1).length sc) rfl (by kernel_rfl) (by kernel_rfl) (by kernel_rfl) (fun _ _ _ h => h) (Or.inl ⟨by rfl, fun wx hS => ?_⟩) hH ?_
                · go_simp
                simp only [Act.put, List.setIfInBounds_toArray, List.set_cons_zero, List.set_cons_succ]
                refine wpAnyH_take (i := 26) (oi := { dst := some 130, op := Op.move (Operand.tmp 15), type := 3, pos := "law.go:78", after := #[{ on := 16, ground := Ground.guard }], guard := some (16, false) }) (v := .int .i64 (n : Int)) rfl (by kernel_rfl) (by kernel_rfl) (by kernel_rfl) (fun _ _ _ h => h) (Or.inl ⟨by rfl, fun wx hS => ?_⟩) hH ?_
                · go_simp
                simp only [Act.put, List.setIfInBounds_toArray, List.set_cons_zero, List.set_cons_succ]
                refine wpAnyH_take (i := 27) (oi := { dst := some 131, op := Op.indexAddr 43 (Operand.tmp 129) (Operand.tmp 130), type := 0, pos := "law.go:78", after := #[{ on := 25, ground := Ground.data }, { on := 26, ground := Ground.data }, { on := 16, ground := Ground.guard }], guard := some (16, false) }) (v := .pointer (some ⟨sb, so + n, none⟩)) rfl (by kernel_rfl) (by kernel_rfl) (by kernel_rfl) (fun _ _ _ h => h) (Or.inl ⟨by rfl, fun wx hS => ?_⟩) hH ?_
                · go_simp
                simp only [Act.put, List.setIfInBounds_toArray, List.set_cons_zero, List.set_cons_succ]
                refine wpAnyH_take (i := 28) (oi := { dst := some 132, op := Op.load 3 (Operand.tmp 131), type := 3, pos := "law.go:78", after := #[{ on := 27, ground := Ground.data }, { on := 16, ground := Ground.guard }], guard := some (16, false) }) (v := .int .i64 (s.length : Int)) rfl (by kernel_rfl) (by kernel_rfl) (by kernel_rfl) (fun _ _ _ h => h) (Or.inl ⟨by rfl, fun wx hS => ?_⟩) hH ?_
                · have e1 := hS.2.1; go_simp
                simp only [Act.put, List.setIfInBounds_toArray, List.set_cons_zero, List.set_cons_succ]
                refine wpAnyH_take (i := 29) (oi := { dst := some 133, op := Op.binOp BinOp.add 3 (Operand.tmp 128) (Operand.tmp 132) 3, type := 3, pos := "law.go:78", after := #[{ on := 24, ground := Ground.data }, { on := 28, ground := Ground.data }, { on := 16, ground := Ground.guard }], guard := some (16, false) }) (v := .int .i64 (K : Int)) rfl (by kernel_rfl) (by kernel_rfl) (by kernel_rfl) (fun _ _ _ h => h) (Or.inl ⟨by rfl, fun wx hS => ?_⟩) hH ?_
                · have e1 := hKw; go_simp
                simp only [Act.put, List.setIfInBounds_toArray, List.set_cons_zero, List.set_cons_succ]
                refine wpAnyH_take (i := 30) (oi := { dst := some 134, op := Op.slice 25 (Operand.tmp 126) (some (Operand.tmp 127)) (some (Operand.tmp 133)) none, type := 25, pos := "law.go:78", after := #[{ on := 22, ground := Ground.data }, { on := 23, ground := Ground.data }, { on := 29, ground := Ground.data }, { on := 16, ground := Ground.guard }], guard := some (16, false) }) (v := .slice A3 (K - T) (n1 - T)) rfl (by kernel_rfl) (by kernel_rfl) (by kernel_rfl) (fun _ _ _ h => h) (Or.inl ⟨by rfl, fun wx hS => ?_⟩) hH ?_
                · have e1 := hr3; go_simp
                simp only [Act.put, List.setIfInBounds_toArray, List.set_cons_zero, List.set_cons_succ]
                refine wpAnyH_take (i := 31) (oi := { dst := some 135, op := Op.convert 25 9 (Operand.tmp 134), type := 9, pos := "law.go:78", after := #[{ on := 30, ground := Ground.data }, { on := 16, ground := Ground.guard }], guard := some (16, false) }) (v := .string (str s)) rfl (by kernel_rfl) (by kernel_rfl) (by kernel_rfl) (fun _ _ _ h => h) (Or.inl ⟨by rfl, fun wx hS => ?_⟩) hH ?_
                · have e1 := conv_string wx A3 s (n1 - T) hS.2.2.2; rw [← HKT.out] at e1; go_simp
                simp only [Act.put, List.setIfInBounds_toArray, List.set_cons_zero, List.set_cons_succ]
                refine wpAnyH_take (i := 32) (oi := { dst := some 136, op := Op.binOp BinOp.neq 9 (Operand.tmp 125) (Operand.tmp 135) 9, type := 4, pos := "law.go:78", after := #[{ on := 21, ground := Ground.data }, { on := 31, ground := Ground.data }, { on := 16, ground := Ground.guard }], guard := some (16, false) }) (v := .bool false) rfl (by kernel_rfl) (by kernel_rfl) (by kernel_rfl) (fun _ _ _ h => h) (Or.inl ⟨by rfl, fun wx hS => ?_⟩) hH ?_
                · go_simp
                simp only [Act.put, List.setIfInBounds_toArray, List.set_cons_zero, List.set_cons_succ]
                refine wpAnyH_take (i := 33) (oi := { dst := some 137, op := Op.pick (Operand.tmp 120) (Operand.const (Value.bool true)) (Operand.tmp 136), type := 4, pos := "law.go:78", after := #[{ on := 16, ground := Ground.data }, { on := 32, ground := Ground.data }], guard := none }) (v := .bool false) rfl (by kernel_rfl) (by kernel_rfl) (by kernel_rfl) (fun _ _ _ h => h) (Or.inl ⟨by rfl, fun wx hS => ?_⟩) hH ?_
                · go_simp
                simp only [Act.put, List.setIfInBounds_toArray, List.set_cons_zero, List.set_cons_succ]
                refine wpAnyH_done (by kernel_rfl) ?_ _
                refine NoPanic.normal ?_
                clear hH
                have C3 := Lib.hid (C2.out.below (Below.refl _ _).drew C2.out.low.size)
                have R3 : Hid (rowV wr.drew wo.heap.size 25 (.slice (some ⟨ob, oo, none⟩) vs.length oc) vs) := R2
                have P3 : Hid (Pieces wr.drew w8.heap.size wr.drew.heap.size vs O1) := P2
                have d3 : wr.drew.cell? ⟨sb, so + n, none⟩ = some (.int .i64 (s.length : Int)) := d2
                clear d1 d2 hr3 PA PB C2 R2 P2 g1
                generalize wr.drew = w12 at *
                go_wp2_with fail
                go_roundw
                case rel => exact ⟨x + 1, n + 1, K, by omega, Lib.hid (by have := HN.out; omega), Lib.hid HTK.out.symm, rfl, by go_num, by go_num, C3, R3, P3⟩
                case measure => simp [intOf]; omega
              · obtain rfl : x = vs.length := by omega
                have HTE : Hid (T = flen (O ++ O1)) := Lib.hid (by rw [HT.out, P2.out.1, List.take_length])
                have HNE : Hid (n = (O ++ O1).length) := Lib.hid (by rw [HN.out, P2.out.1, List.length_append])
                have N0n : (0 : Int) ≤ (n : Int) := by omega
                have T0n : (0 : Int) ≤ (T : Int) := by omega
                have HSL : Hid ((r.sizes l1).length ≤ 2500) := Lib.hid (Nat.le_trans HS.out e5)
                have HAL := Lib.hid C2.out.alls
                have HTB : Hid (T ≤ 2500) := Lib.hid (by have := HAL.out; rw [HTE.out]; omega)
                have HCO := Lib.hid C2
                clear HN HT R2 P2
                by_cases hlast : n + 1 < (r.sizes l1).length
                · have hn : n < (r.sizes l1).length := by omega
                  have FN := r.fd_next HCO.out.fed HCO.out.all (by rw [← HNE.out]; exact hlast)
                  rw [← HNE.out, ← HDC.out] at FN
                  obtain ⟨sb, so, rfl, d2⟩ := ((rowV.of HCO.out.want).2.2.1).at n (by rw [ivals_length]; exact hn)
                  have e1 : (ivals (r.sizes l1))[n]'(by rw [ivals_length]; exact hn) = .int .i64 (((r.sizes l1).getD n 0 : Nat) : Int) := by simp [ivals, hn]
                  rw [e1] at d2
                  clear e1
                  have SB : Hid ((r.sizes l1).getD n 0 ≤ 2500) := Lib.hid (by
                    have h1 := sum_take (r.sizes l1) n hn
                    have h2 := sum_le (r.sizes l1) (n + 1)
                    have h3 := r.sizes_sum l1
                    omega)
                  generalize (r.sizes l1).getD n 0 = sn at *
                  have FN2 : D.length + C < T + sn := by rw [HTE.out]; exact FN
                  have S0n : (0 : Int) ≤ (sn : Int) := by omega
                  have S1n : (sn : Int) ≤ 2500 := by have := SB.out; omega
                  have T1n : (T : Int) ≤ 2500 := by have := HTB.out; omega
                  have L2n : ((r.sizes l1).length : Int) ≤ 2500 := by have := HSL.out; omega
                  have n1n : (n : Int) < ((r.sizes l1).length : Int) := by omega
                  have t1 : (n : Int) < ((r.sizes l1).length : Int) - 1 := by omega
                  have t2 : ¬ (T : Int) + (sn : Int) ≤ (D.length : Int) + (C : Int) := by omega
                  clear FN FN2 hlast hn
                  have hr8 := hr7.out
                  go_wp2_with fail
                  go_roundw
                  case rel => exact ⟨A7, l.drop C, c - C, D ++ l.take C, P1, O ++ O1, i + 1, by rw [HLD.out], by rw [HTE.out], (by rw [← HDC.out]; go_num), by rw [HNE.out], by go_num, by omega, Lib.hid (fun h => by omega), HCO⟩
                  case measure => simp [lenOf, intOf]; omega
                · have L2n : ((r.sizes l1).length : Int) ≤ 2500 := by have := HSL.out; omega
                  have L0n : (0 : Int) ≤ ((r.sizes l1).length : Int) := by omega
                  have t1 : ¬ (n : Int) < ((r.sizes l1).length : Int) - 1 := by omega
                  clear hlast
                  have hr8 := hr7.out
                  go_wp2_with fail
                  go_roundw
                  case rel => exact ⟨A7, l.drop C, c - C, D ++ l.take C, P1, O ++ O1, i + 1, by rw [HLD.out], by rw [HTE.out], (by rw [← HDC.out]; go_num), by rw [HNE.out], by go_num, by omega, Lib.hid (fun h => by omega), HCO⟩
                  case measure => simp [lenOf, intOf]; omega
          · as_aux_lemma =>
            have j1 : (i : Int) < (N.length : Int) := by omega
            have j2 : ¬ (i : Int) < 30 := by omega
            go_upto_region 17 with fail
            have HBO9 : Hid (wo.heap.size ≤ wr.heap.size) := Lib.hid (by
              obtain ⟨_, _, _, _, _, _, h4, h5⟩ := C1.out.ex
              exact Nat.le_trans HBO.out (Nat.le_trans h4 h5))
            have C0n : (0 : Int) ≤ (l.length : Int) := by omega
            have C3n : (l.length : Int) ≤ 2500 := by omega
            have C2n : (l.length : Int) ≤ (l.length : Int) := by omega
            obtain ⟨H, hH, hHC⟩ : ∃ H : Nat, (l.length : Int) / 2 = (H : Int) ∧ H ≤ l.length := ⟨l.length / 2, by omega, by omega⟩
            have hH2 : (l.length : Int).tdiv 2 = (H : Int) := by rw [Int.tdiv_eq_ediv_of_nonneg C0n]; exact hH
            obtain ⟨A2, hA2, hr2⟩ := run_mid a l.length c H l.length hHC (by omega) C1.out.len
            have HA2 := Lib.hid hA2
            have HH := Lib.hid hHC
            have H0n : (0 : Int) ≤ (H : Int) := by omega
            have H1n : (H : Int) ≤ (l.length : Int) := by omega
            have H2n : (H : Int) ≤ (l.length : Int) := by omega
            have H3n : (H : Int) ≤ (c : Int) := by have := C1.out.len; omega
            have hHw : IntKind.i64.wrap (H : Int) = (H : Int) := by rw [IntKind.wrap_i64]; omega
            clear hA2 hHC
            have PF : Hid (Calls Try.prog 17 #[.pointer (some ⟨k, 0, none⟩), .slice (some ⟨wr.heap.size, 0, none⟩) 3 3] ((wr.alloc (.cells #[.slice a H c, .slice none 0 0, .slice A2 (l.length - H) (c - H)] 25 (0, 0))).drew) fun e w'' => ∃ ov vs, e = .returned ov ∧ (∀ A7, A7 = (if c = l.length then a else a.map (fun x => x.add l.length)) → CfAt w w'' w.heap.size k g b r w8.heap.size (.slice sa (r.sizes l1).length sc) l1 A7 (l.drop l.length) (c - l.length) (D ++ l.take l.length) (r.fed P (l.take l.length)).2 (O ++ (r.fed P (l.take l.length)).1)) ∧ rowV w'' wr.heap.size 25 ov vs ∧ Pieces w'' w8.heap.size w''.heap.size vs (r.fed P (l.take l.length)).1) := Lib.hid (feedcf (w := wr.drew) (C1.out.below (Below.refl _ _).drew C1.out.low.size) A2 H l.length HH.out (by omega) HA2.out G6.out HKB.out HWB.out e5)
            refine wp_region_noPanic ?_
            refine wp_region_held_drew (S := fun _ => True) (by kernel_rfl) trivial (fun hH => ?_)
            refine wpAnyH_take (i := 0) (oi := { dst := some 83, op := Op.move (Operand.tmp 9), type := 27, pos := "law.go:75", after := #[], guard := none }) (v := .pointer (some ⟨k, 0, none⟩)) rfl (by kernel_rfl) (by kernel_rfl) (by kernel_rfl) (fun _ _ _ h => h) (Or.inl ⟨by rfl, fun wx hS => ?_⟩) hH ?_
            · go_simp
            simp only [Act.put, List.setIfInBounds_toArray, List.set_cons_zero, List.set_cons_succ]
            refine wpAnyH_take (i := 1) (oi := { dst := some 84, op := Op.move (Operand.tmp 12), type := 25, pos := "law.go:75", after := #[], guard := none }) (v := .slice a l.length c) rfl (by kernel_rfl) (by kernel_rfl) (by kernel_rfl) (fun _ _ _ h => h) (Or.inl ⟨by rfl, fun wx hS => ?_⟩) hH ?_
            · go_simp
            simp only [Act.put, List.setIfInBounds_toArray, List.set_cons_zero, List.set_cons_succ]
            refine wpAnyH_take (i := 2) (oi := { dst := some 85, op := Op.move (Operand.tmp 17), type := 3, pos := "law.go:75", after := #[], guard := none }) (v := .int .i64 (l.length : Int)) rfl (by kernel_rfl) (by kernel_rfl) (by kernel_rfl) (fun _ _ _ h => h) (Or.inl ⟨by rfl, fun wx hS => ?_⟩) hH ?_
            · go_simp
            simp only [Act.put, List.setIfInBounds_toArray, List.set_cons_zero, List.set_cons_succ]
            refine wpAnyH_take (i := 3) (oi := { dst := some 86, op := Op.binOp BinOp.quo 3 (Operand.tmp 85) (Operand.const (Value.int IntKind.i64 2)) 3, type := 3, pos := "law.go:75", after := #[{ on := 2, ground := Ground.data }], guard := none }) (v := .int .i64 (H : Int)) rfl (by kernel_rfl) (by kernel_rfl) (by kernel_rfl) (fun _ _ _ h => h) (Or.inl ⟨by rfl, fun wx hS => ?_⟩) hH ?_
            · go_simp
            simp only [Act.put, List.setIfInBounds_toArray, List.set_cons_zero, List.set_cons_succ]
            refine wpAnyH_take (i := 4) (oi := { dst := some 87, op := Op.slice 25 (Operand.tmp 84) none (some (Operand.tmp 86)) none, type := 25, pos := "law.go:75", after := #[{ on := 1, ground := Ground.data }, { on := 3, ground := Ground.data }], guard := none }) (v := .slice a H c) rfl (by kernel_rfl) (by kernel_rfl) (by kernel_rfl) (fun _ _ _ h => h) (Or.inl ⟨by rfl, fun wx hS => ?_⟩) hH ?_
            · go_simp
            simp only [Act.put, List.setIfInBounds_toArray, List.set_cons_zero, List.set_cons_succ]
            refine wpAnyH_take (i := 5) (oi := { dst := some 88, op := Op.move (Operand.tmp 12), type := 25, pos := "law.go:75", after := #[], guard := none }) (v := .slice a l.length c) rfl (by kernel_rfl) (by kernel_rfl) (by kernel_rfl) (fun _ _ _ h => h) (Or.inl ⟨by rfl, fun wx hS => ?_⟩) hH ?_
            · go_simp
            simp only [Act.put, List.setIfInBounds_toArray, List.set_cons_zero, List.set_cons_succ]
            refine wpAnyH_take (i := 6) (oi := { dst := some 89, op := Op.move (Operand.tmp 17), type := 3, pos := "law.go:75", after := #[], guard := none }) (v := .int .i64 (l.length : Int)) rfl (by kernel_rfl) (by kernel_rfl) (by kernel_rfl) (fun _ _ _ h => h) (Or.inl ⟨by rfl, fun wx hS => ?_⟩) hH ?_
            · go_simp
            simp only [Act.put, List.setIfInBounds_toArray, List.set_cons_zero, List.set_cons_succ]
            refine wpAnyH_take (i := 7) (oi := { dst := some 90, op := Op.binOp BinOp.quo 3 (Operand.tmp 89) (Operand.const (Value.int IntKind.i64 2)) 3, type := 3, pos := "law.go:75", after := #[{ on := 6, ground := Ground.data }], guard := none }) (v := .int .i64 (H : Int)) rfl (by kernel_rfl) (by kernel_rfl) (by kernel_rfl) (fun _ _ _ h => h) (Or.inl ⟨by rfl, fun wx hS => ?_⟩) hH ?_
            · go_simp
            simp only [Act.put, List.setIfInBounds_toArray, List.set_cons_zero, List.set_cons_succ]
            refine wpAnyH_take (i := 8) (oi := { dst := some 91, op := Op.move (Operand.tmp 17), type := 3, pos := "law.go:75", after := #[], guard := none }) (v := .int .i64 (l.length : Int)) rfl (by kernel_rfl) (by kernel_rfl) (by kernel_rfl) (fun _ _ _ h => h) (Or.inl ⟨by rfl, fun wx hS => ?_⟩) hH ?_
            · go_simp
            simp only [Act.put, List.setIfInBounds_toArray, List.set_cons_zero, List.set_cons_succ]
            refine wpAnyH_take (i := 9) (oi := { dst := some 92, op := Op.slice 25 (Operand.tmp 88) (some (Operand.tmp 90)) (some (Operand.tmp 91)) none, type := 25, pos := "law.go:75", after := #[{ on := 5, ground := Ground.data }, { on := 7, ground := Ground.data }, { on := 8, ground := Ground.data }], guard := none }) (v := .slice A2 (l.length - H) (c - H)) rfl (by kernel_rfl) (by kernel_rfl) (by kernel_rfl) (fun _ _ _ h => h) (Or.inl ⟨by rfl, fun wx hS => ?_⟩) hH ?_
            · go_simp
            simp only [Act.put, List.setIfInBounds_toArray, List.set_cons_zero, List.set_cons_succ]
            refine wpAnyH_ready (rs := [10]) (by kernel_rfl) (by simp) ?_
            refine AllReadyH.cons (o := { dst := some 93, op := Op.buildSlice 40 3 #[(0, Operand.tmp 87), (1, Operand.const (Value.slice none 0 0)), (2, Operand.tmp 92)], type := 40, pos := "law.go:75", after := #[{ on := 4, ground := Ground.data }, { on := 9, ground := Ground.data }], guard := none }) rfl (fun KK hKK => ?_) AllReadyH.nil
            go_simp
            refine hKK.out _ _ trivial (fun hH => ?_)
            clear hKK KK
            try simp only [Act.put, List.setIfInBounds_toArray, List.set_cons_zero, List.set_cons_succ]
            refine wpAnyH_ready (rs := [11]) (by kernel_rfl) (by simp) ?_
            refine AllReadyH.cons (o := { dst := some 94, op := Op.call { callee := Callee.value (Operand.func 17), args := #[Operand.tmp 83, Operand.tmp 93], argTypes := #[27, 40] }, type := 40, pos := "law.go:75", after := #[{ on := 0, ground := Ground.data }, { on := 10, ground := Ground.data }], guard := none }) rfl (fun KK hKK => ?_) AllReadyH.nil
            go_simp
            with_reducible refine PF.out.mono ?_
            rintro e w9 ⟨ov, vs, rfl, hc9, hr9, hp9⟩
            have C9 := Lib.hid hc9
            have R9 := Lib.hid hr9
            have P9 := Lib.hid hp9
            obtain ⟨oa, oc, rfl, ol, -, -⟩ := hr9.vals
            clear hc9 hr9 hp9 hH PF
            refine hKK.out _ _ trivial (fun hH => ?_)
            clear hKK KK
            try simp only [Act.put, List.setIfInBounds_toArray, List.set_cons_zero, List.set_cons_succ]
            refine wpAnyH_take (i := 12) (oi := { dst := some 18, op := Op.assign (Operand.tmp 94), type := 40, pos := "law.go:75", after := #[{ on := 11, ground := Ground.data }, { on := 11, ground := Ground.chain }, { on := 0, ground := Ground.phase }, { on := 1, ground := Ground.phase }, { on := 2, ground := Ground.phase }, { on := 3, ground := Ground.phase }, { on := 4, ground := Ground.phase }, { on := 5, ground := Ground.phase }, { on := 6, ground := Ground.phase }, { on := 7, ground := Ground.phase }, { on := 8, ground := Ground.phase }, { on := 9, ground := Ground.phase }, { on := 10, ground := Ground.phase }, { on := 11, ground := Ground.phase }], guard := none }) (v := .slice oa vs.length oc) rfl (by kernel_rfl) (by kernel_rfl) (by kernel_rfl) (fun _ _ _ h => h) (Or.inl ⟨by rfl, fun wx hS => ?_⟩) hH ?_
            · go_simp
            simp only [Act.put, List.setIfInBounds_toArray, List.set_cons_zero, List.set_cons_succ]
            refine wpAnyH_done (by kernel_rfl) ?_ _
            refine NoPanic.normal ?_
            clear hH
            clear hHw hH2 hH hr2 H0n H1n H2n H3n HH HA2
            obtain ⟨A7, hA7, hr7⟩ := run_drop a l.length c l.length (by omega) C1.out.len
            have CN := Lib.hid (C9.out A7 hA7)
            have hr7 := Lib.hid hr7
            clear hA7 C9 HA
            have HDC : Hid (D.length + l.length = (D ++ l.take l.length).length) := Lib.hid (by rw [List.length_append, List.length_take]; omega)
            have HLD : Hid ((l.drop l.length).length = l.length - l.length) := Lib.hid List.length_drop
            generalize hO' : (r.fed P (l.take l.length)).1 = O1 at *
            generalize hP' : (r.fed P (l.take l.length)).2 = P1 at *
            clear hO' hP'
            have HD5 : Hid (D.length + l.length ≤ 2500) := Lib.hid (by have := CN.out.alls; have := HDC.out; omega)
            have D0n : (0 : Int) ≤ (D.length : Int) := by omega
            have D1n : (D.length : Int) ≤ 2500 := by have := HD5.out; omega
            clear C1
            rename World => w10
            go_wp2_with fail
            go_loopw [13, 15, 19] (fun av nv xv wr => ∃ (x n T : Nat), x ≤ vs.length ∧ Hid (n = O.length + x) ∧ Hid (T = flen (O ++ O1.take x)) ∧ av = .int .i64 (T : Int) ∧ nv = .int .i64 (n : Int) ∧ xv = .int .i64 (x : Int) ∧ Hid (CfAt w wr w.heap.size k g b r w8.heap.size (.slice sa (r.sizes l1).length sc) l1 A7 (l.drop l.length) (c - l.length) (D ++ l.take l.length) P1 (O ++ O1)) ∧ Hid (rowV wr wo.heap.size 25 (.slice oa vs.length oc) vs) ∧ Hid (Pieces wr w8.heap.size wr.heap.size vs O1)) (fun _ _ xv _ => vs.length - (intOf xv).toNat)
            case atStart => exact ⟨0, O.length, flen O, Nat.zero_le _, Lib.hid rfl, Lib.hid (by simp), rfl, rfl, rfl, CN, Lib.hid (rowV.mono R9.out HBO9.out), P9⟩
            case round =>
              obtain ⟨x, n, T, hx, HN, HT, rfl, rfl, rfl, C2, R2, P2⟩ := hrel
              clear CN R9 P9
              have x0 : (0 : Int) ≤ (x : Int) := by omega
              by_cases hlt2 : x < vs.length
              · have x1 : (x : Int) < (vs.length : Int) := by omega
                have HBN : Hid ((r.sizes l1).length ≤ 2500 ∧ vs.length ≤ 2500) := Lib.hid ⟨Nat.le_trans HS.out e5, by
                  have h1 := C2.out.alls
                  have h3 : (O ++ O1).length = O.length + O1.length := List.length_append
                  have h2 := P2.out.1
                  omega⟩
                have x2 : (x : Int) ≤ 2500 := by have := HBN.out; omega
                have hx1 : x < O1.length := by rw [← P2.out.1]; exact hlt2
                obtain ⟨ob, oo, rfl, d1⟩ := ((rowV.of R2.out).2.2.1).at x hlt2
                obtain ⟨pa, pc, hve, hpl, hpin, -⟩ := (P2.out.2 x hlt2 hx1).1.bytes
                rw [hve] at d1
                obtain ⟨f1, f2, f3, f4, f5⟩ := r.fd_at2 C2.out.fed C2.out.all x n T hx1 HN.out HT.out
                obtain ⟨sb, so, rfl, d2⟩ := ((rowV.of C2.out.want).2.2.1).at n (by rw [ivals_length]; exact f1)
                have e1 : (ivals (r.sizes l1))[n]'(by rw [ivals_length]; exact f1) = .int .i64 (((r.sizes l1).getD n 0 : Nat) : Int) := by simp [ivals, f1]
                rw [e1, f2] at d2
                have HT2 := Lib.hid f5
                have PB := Lib.hid hpin
                clear e1 f2 f5 hve hpl hpin
                generalize O1[x] = s at *
                obtain ⟨K, hK⟩ : ∃ K, K = T + s.length := ⟨_, rfl⟩
                obtain ⟨A3, hA3, hr3⟩ := run_mid a1 l1.length n1 T K (by omega) (by omega) e6
                have PA : Hid (bytesIn wr A3 s) := Lib.hid (by
                  have h := (I1.out.below C2.out.low (Nat.le_refl _)).mid n1 T K (by omega) (by omega) e6
                  rw [← hA3, hK, f4] at h
                  exact h)
                have HKT : Hid (K - T = s.length) := Lib.hid (by omega)
                have T0n : (0 : Int) ≤ (T : Int) := by omega
                have K0n : (0 : Int) ≤ (K : Int) := by omega
                have TKn : (T : Int) ≤ (K : Int) := by omega
                have KLn : (K : Int) ≤ (l1.length : Int) := by omega
                have N0n : (0 : Int) ≤ (n : Int) := by omega
                have N2n : (n : Int) ≤ 2500 := by have := HBN.out; omega
                have N1n : (n : Int) < ((r.sizes l1).length : Int) := by omega
                have g1 : decide ((r.sizes l1).length ≤ n) = false := by simp; omega
                have HTK : Hid (flen (O ++ O1.take (x + 1)) = K) := Lib.hid (by rw [HT2.out, hK])
                have HKW : Hid (IntKind.i64.wrap ((T : Int) + (s.length : Int)) = (K : Int) ∧ wrap64 ((T : Int) + (s.length : Int)) = (K : Int)) := Lib.hid ⟨by rw [IntKind.wrap_i64]; omega, by unfold wrap64; omega⟩
                clear hA3 f3 f4 hK HT2
                obtain ⟨hKw, hKw2⟩ := HKW.out
                go_upto_region 22 with fail
                refine wp_region_noPanic ?_
                refine wp_region_held_drew (S := fun w' => w'.cell? ⟨ob, oo + x, none⟩ = some (.slice pa s.length pc) ∧ w'.cell? ⟨sb, so + n, none⟩ = some (.int .i64 (s.length : Int)) ∧ bytesIn w' pa s ∧ bytesIn w' A3 s) (by kernel_rfl) ⟨d1, d2, PB.out, PA.out⟩ (fun hH => ?_)
                refine wpAnyH_take (i := 0) (oi := { dst := some 104, op := Op.move (Operand.tmp 15), type := 3, pos := "law.go:78", after := #[], guard := none }) (v := .int .i64 (n : Int)) rfl (by kernel_rfl) (by kernel_rfl) (by kernel_rfl) (fun _ _ _ h => h) (Or.inl ⟨by rfl, fun wx hS => ?_⟩) hH ?_
                · go_simp
                simp only [Act.put, List.setIfInBounds_toArray, List.set_cons_zero, List.set_cons_succ]
                refine wpAnyH_take (i := 1) (oi := { dst := some 105, op := Op.move (Operand.tmp 7), type := 43, pos := "law.go:78", after := #[], guard := none }) (v := .slice (some ⟨sb, so, none⟩) (r.sizes l1).length sc) rfl (by kernel_rfl) (by kernel_rfl) (by kernel_rfl) (fun _ _ _ h => h) (Or.inl ⟨by rfl, fun wx hS => ?_⟩) hH ?_
                · go_simp
                simp only [Act.put, List.setIfInBounds_toArray, List.set_cons_zero, List.set_cons_succ]
                refine wpAnyH_take (i := 2) (oi := { dst := some 106, op := Op.call { callee := Callee.builtin Builtin.len, args := #[Operand.tmp 105], argTypes := #[43] }, type := 3, pos := "law.go:78", after := #[{ on := 1, ground := Ground.data }], guard := none }) (v := .int .i64 ((r.sizes l1).length : Int)) rfl (by kernel_rfl) (by kernel_rfl) (by kernel_rfl) (fun _ _ _ h => h) (Or.inl ⟨by rfl, fun wx hS => ?_⟩) hH ?_
                · go_simp
                simp only [Act.put, List.setIfInBounds_toArray, List.set_cons_zero, List.set_cons_succ]
                refine wpAnyH_take (i := 3) (oi := { dst := some 107, op := Op.binOp BinOp.geq 3 (Operand.tmp 104) (Operand.tmp 106) 3, type := 4, pos := "law.go:78", after := #[{ on := 0, ground := Ground.data }, { on := 2, ground := Ground.data }], guard := none }) (v := .bool false) rfl (by kernel_rfl) (by kernel_rfl) (by kernel_rfl) (fun _ _ _ h => h) (Or.inl ⟨by rfl, fun wx hS => ?_⟩) hH ?_
                · go_simp
                simp only [Act.put, List.setIfInBounds_toArray, List.set_cons_zero, List.set_cons_succ]
                refine wpAnyH_take (i := 4) (oi := { dst := some 108, op := Op.move (Operand.tmp 107), type := 4, pos := "law.go:78", after := #[{ on := 3, ground := Ground.data }], guard := none }) (v := .bool false) rfl (by kernel_rfl) (by kernel_rfl) (by kernel_rfl) (fun _ _ _ h => h) (Or.inl ⟨by rfl, fun wx hS => ?_⟩) hH ?_
                · go_simp
                simp only [Act.put, List.setIfInBounds_toArray, List.set_cons_zero, List.set_cons_succ]
                refine wpAnyH_take (i := 5) (oi := { dst := some 109, op := Op.move (Operand.tmp 18), type := 40, pos := "law.go:78", after := #[{ on := 4, ground := Ground.guard }], guard := some (4, false) }) (v := .slice (some ⟨ob, oo, none⟩) vs.length oc) rfl (by kernel_rfl) (by kernel_rfl) (by kernel_rfl) (fun _ _ _ h => h) (Or.inl ⟨by rfl, fun wx hS => ?_⟩) hH ?_
                · go_simp
                simp only [Act.put, List.setIfInBounds_toArray, List.set_cons_zero, List.set_cons_succ]
                refine wpAnyH_take (i := 6) (oi := { dst := some 110, op := Op.move (Operand.tmp 19), type := 3, pos := "law.go:78", after := #[{ on := 4, ground := Ground.guard }], guard := some (4, false) }) (v := .int .i64 (x : Int)) rfl (by kernel_rfl) (by kernel_rfl) (by kernel_rfl) (fun _ _ _ h => h) (Or.inl ⟨by rfl, fun wx hS => ?_⟩) hH ?_
                · go_simp
                simp only [Act.put, List.setIfInBounds_toArray, List.set_cons_zero, List.set_cons_succ]
                refine wpAnyH_take (i := 7) (oi := { dst := some 111, op := Op.indexAddr 40 (Operand.tmp 109) (Operand.tmp 110), type := 0, pos := "law.go:78", after := #[{ on := 5, ground := Ground.data }, { on := 6, ground := Ground.data }, { on := 4, ground := Ground.guard }], guard := some (4, false) }) (v := .pointer (some ⟨ob, oo + x, none⟩)) rfl (by kernel_rfl) (by kernel_rfl) (by kernel_rfl) (fun _ _ _ h => h) (Or.inl ⟨by rfl, fun wx hS => ?_⟩) hH ?_
                · go_simp
                simp only [Act.put, List.setIfInBounds_toArray, List.set_cons_zero, List.set_cons_succ]
                refine wpAnyH_take (i := 8) (oi := { dst := some 112, op := Op.load 25 (Operand.tmp 111), type := 25, pos := "law.go:78", after := #[{ on := 7, ground := Ground.data }, { on := 4, ground := Ground.guard }], guard := some (4, false) }) (v := .slice pa s.length pc) rfl (by kernel_rfl) (by kernel_rfl) (by kernel_rfl) (fun _ _ _ h => h) (Or.inl ⟨by rfl, fun wx hS => ?_⟩) hH ?_
                · have e1 := hS.1; go_simp
                simp only [Act.put, List.setIfInBounds_toArray, List.set_cons_zero, List.set_cons_succ]
                refine wpAnyH_take (i := 9) (oi := { dst := some 113, op := Op.call { callee := Callee.builtin Builtin.len, args := #[Operand.tmp 112], argTypes := #[25] }, type := 3, pos := "law.go:78", after := #[{ on := 8, ground := Ground.data }, { on := 4, ground := Ground.guard }], guard := some (4, false) }) (v := .int .i64 (s.length : Int)) rfl (by kernel_rfl) (by kernel_rfl) (by kernel_rfl) (fun _ _ _ h => h) (Or.inl ⟨by rfl, fun wx hS => ?_⟩) hH ?_
                · go_simp
                simp only [Act.put, List.setIfInBounds_toArray, List.set_cons_zero, List.set_cons_succ]
                refine wpAnyH_take (i := 10) (oi := { dst := some 114, op := Op.move (Operand.tmp 7), type := 43, pos := "law.go:78", after := #[{ on := 4, ground := Ground.guard }], guard := some (4, false) }) (v := .slice (some ⟨sb, so, none⟩) (r.sizes l1).length sc) rfl (by kernel_rfl) (by kernel_rfl) (by kernel_rfl) (fun _ _ _ h => h) (Or.inl ⟨by rfl, fun wx hS => ?_⟩) hH ?_
                · go_simp
                simp only [Act.put, List.setIfInBounds_toArray, List.set_cons_zero, List.set_cons_succ]
                refine wpAnyH_take (i := 11) (oi := { dst := some 115, op := Op.move (Operand.tmp 15), type := 3, pos := "law.go:78", after := #[{ on := 4, ground := Ground.guard }], guard := some (4, false) }) (v := .int .i64 (n : Int)) rfl (by kernel_rfl) (by kernel_rfl) (by kernel_rfl) (fun _ _ _ h => h) (Or.inl ⟨by rfl, fun wx hS => ?_⟩) hH ?_
                · go_simp
                simp only [Act.put, List.setIfInBounds_toArray, List.set_cons_zero, List.set_cons_succ]
                refine wpAnyH_take (i := 12) (oi := { dst := some 116, op := Op.indexAddr 43 (Operand.tmp 114) (Operand.tmp 115), type := 0, pos := "law.go:78", after := #[{ on := 10, ground := Ground.data }, { on := 11, ground := Ground.data }, { on := 4, ground := Ground.guard }], guard := some (4, false) }) (v := .pointer (some ⟨sb, so + n, none⟩)) rfl (by kernel_rfl) (by kernel_rfl) (by kernel_rfl) (fun _ _ _ h => h) (Or.inl ⟨by rfl, fun wx hS => ?_⟩) hH ?_
                · go_simp
                simp only [Act.put, List.setIfInBounds_toArray, List.set_cons_zero, List.set_cons_succ]
                refine wpAnyH_take (i := 13) (oi := { dst := some 117, op := Op.load 3 (Operand.tmp 116), type := 3, pos := "law.go:78", after := #[{ on := 12, ground := Ground.data }, { on := 4, ground := Ground.guard }], guard := some (4, false) }) (v := .int .i64 (s.length : Int)) rfl (by kernel_rfl) (by kernel_rfl) (by kernel_rfl) (fun _ _ _ h => h) (Or.inl ⟨by rfl, fun wx hS => ?_⟩) hH ?_
                · have e1 := hS.2.1; go_simp
                simp only [Act.put, List.setIfInBounds_toArray, List.set_cons_zero, List.set_cons_succ]
                refine wpAnyH_take (i := 14) (oi := { dst := some 118, op := Op.binOp BinOp.neq 3 (Operand.tmp 113) (Operand.tmp 117) 3, type := 4, pos := "law.go:78", after := #[{ on := 9, ground := Ground.data }, { on := 13, ground := Ground.data }, { on := 4, ground := Ground.guard }], guard := some (4, false) }) (v := .bool false) rfl (by kernel_rfl) (by kernel_rfl) (by kernel_rfl) (fun _ _ _ h => h) (Or.inl ⟨by rfl, fun wx hS => ?_⟩) hH ?_
                · go_simp
                simp only [Act.put, List.setIfInBounds_toArray, List.set_cons_zero, List.set_cons_succ]
                refine wpAnyH_take (i := 15) (oi := { dst := some 119, op := Op.pick (Operand.tmp 108) (Operand.const (Value.bool true)) (Operand.tmp 118), type := 4, pos := "law.go:78", after := #[{ on := 4, ground := Ground.data }, { on := 14, ground := Ground.data }], guard := none }) (v := .bool false) rfl (by kernel_rfl) (by kernel_rfl) (by kernel_rfl) (fun _ _ _ h => h) (Or.inl ⟨by rfl, fun wx hS => ?_⟩) hH ?_
                · go_simp
                simp only [Act.put, List.setIfInBounds_toArray, List.set_cons_zero, List.set_cons_succ]
                refine wpAnyH_take (i := 16) (oi := { dst := some 120, op := Op.move (Operand.tmp 119), type := 4, pos := "law.go:78", after := #[{ on := 15, ground := Ground.data }, { on := 4, ground := Ground.chain }], guard := none }) (v := .bool false) rfl (by kernel_rfl) (by kernel_rfl) (by kernel_rfl) (fun _ _ _ h => h) (Or.inl ⟨by rfl, fun wx hS => ?_⟩) hH ?_
                · go_simp
                simp only [Act.put, List.setIfInBounds_toArray, List.set_cons_zero, List.set_cons_succ]
                refine wpAnyH_take (i := 17) (oi := { dst := some 121, op := Op.move (Operand.tmp 18), type := 40, pos := "law.go:78", after := #[{ on := 16, ground := Ground.guard }], guard := some (16, false) }) (v := .slice (some ⟨ob, oo, none⟩) vs.length oc) rfl (by kernel_rfl) (by kernel_rfl) (by kernel_rfl) (fun _ _ _ h => h) (Or.inl ⟨by rfl, fun wx hS => ?_⟩) hH ?_
                · go_simp
                simp only [Act.put, List.setIfInBounds_toArray, List.set_cons_zero, List.set_cons_succ]
                refine wpAnyH_take (i := 18) (oi := { dst := some 122, op := Op.move (Operand.tmp 19), type := 3, pos := "law.go:78", after := #[{ on := 16, ground := Ground.guard }], guard := some (16, false) }) (v := .int .i64 (x : Int)) rfl (by kernel_rfl) (by kernel_rfl) (by kernel_rfl) (fun _ _ _ h => h) (Or.inl ⟨by rfl, fun wx hS => ?_⟩) hH ?_
                · go_simp
                simp only [Act.put, List.setIfInBounds_toArray, List.set_cons_zero, List.set_cons_succ]
                refine wpAnyH_take (i := 19) (oi := { dst := some 123, op := Op.indexAddr 40 (Operand.tmp 121) (Operand.tmp 122), type := 0, pos := "law.go:78", after := #[{ on := 17, ground := Ground.data }, { on := 18, ground := Ground.data }, { on := 16, ground := Ground.guard }], guard := some (16, false) }) (v := .pointer (some ⟨ob, oo + x, none⟩)) rfl (by kernel_rfl) (by kernel_rfl) (by kernel_rfl) (fun _ _ _ h => h) (Or.inl ⟨by rfl, fun wx hS => ?_⟩) hH ?_
                · go_simp
                simp only [Act.put, List.setIfInBounds_toArray, List.set_cons_zero, List.set_cons_succ]
                refine wpAnyH_take (i := 20) (oi := { dst := some 124, op := Op.load 25 (Operand.tmp 123), type := 25, pos := "law.go:78", after := #[{ on := 19, ground := Ground.data }, { on := 16, ground := Ground.guard }], guard := some (16, false) }) (v := .slice pa s.length pc) rfl (by kernel_rfl) (by kernel_rfl) (by kernel_rfl) (fun _ _ _ h => h) (Or.inl ⟨by rfl, fun wx hS => ?_⟩) hH ?_
                · have e1 := hS.1; go_simp
                simp only [Act.put, List.setIfInBounds_toArray, List.set_cons_zero, List.set_cons_succ]
                refine wpAnyH_take (i := 21) (oi := { dst := some 125, op := Op.convert 25 9 (Operand.tmp 124), type := 9, pos := "law.go:78", after := #[{ on := 20, ground := Ground.data }, { on := 16, ground := Ground.guard }], guard := some (16, false) }) (v := .string (str s)) rfl (by kernel_rfl) (by kernel_rfl) (by kernel_rfl) (fun _ _ _ h => h) (Or.inl ⟨by rfl, fun wx hS => ?_⟩) hH ?_
                · have e1 := conv_string wx pa s pc hS.2.2.1; go_simp
                simp only [Act.put, List.setIfInBounds_toArray, List.set_cons_zero, List.set_cons_succ]
                refine wpAnyH_take (i := 22) (oi := { dst := some 126, op := Op.move (Operand.tmp 1), type := 25, pos := "law.go:78", after := #[{ on := 16, ground := Ground.guard }], guard := some (16, false) }) (v := .slice a1 l1.length n1) rfl (by kernel_rfl) (by kernel_rfl) (by kernel_rfl) (fun _ _ _ h => h) (Or.inl ⟨by rfl, fun wx hS => ?_⟩) hH ?_
                · go_simp
                simp only [Act.put, List.setIfInBounds_toArray, List.set_cons_zero, List.set_cons_succ]
                refine wpAnyH_take (i := 23) (oi := { dst := some 127, op := Op.move (Operand.tmp 13), type := 3, pos := "law.go:78", after := #[{ on := 16, ground := Ground.guard }], guard := some (16, false) }) (v := .int .i64 (T : Int)) rfl (by kernel_rfl) (by kernel_rfl) (by kernel_rfl) (fun _ _ _ h => h) (Or.inl ⟨by rfl, fun wx hS => ?_⟩) hH ?_
                · go_simp
                simp only [Act.put, List.setIfInBounds_toArray, List.set_cons_zero, List.set_cons_succ]
                refine wpAnyH_take (i := 24) (oi := { dst := some 128, op := Op.move (Operand.tmp 13), type := 3, pos := "law.go:78", after := #[{ on := 16, ground := Ground.guard }], guard := some (16, false) }) (v := .int .i64 (T : Int)) rfl (by kernel_rfl) (by kernel_rfl) (by kernel_rfl) (fun _ _ _ h => h) (Or.inl ⟨by rfl, fun wx hS => ?_⟩) hH ?_
                · go_simp
                simp only [Act.put, List.setIfInBounds_toArray, List.set_cons_zero, List.set_cons_succ]
                refine wpAnyH_take (i := 25) (oi := { dst := some 129, op := Op.move (Operand.tmp 7), type := 43, pos := "law.go:78", after := #[{ on := 16, ground := Ground.guard }], guard := some (16, false) }) (v := .slice (some ⟨sb, so, none⟩) (r.sizes l1).length sc) rfl (by kernel_rfl) (by kernel_rfl) (by kernel_rfl) (fun _ _ _ h => h) (Or.inl ⟨by rfl, fun wx hS => ?_⟩) hH ?_
                · go_simp
                simp only [Act.put, List.setIfInBounds_toArray, List.set_cons_zero, List.set_cons_succ]
                refine wpAnyH_take (i := 26) (oi := { dst := some 130, op := Op.move (Operand.tmp 15), type := 3, pos := "law.go:78", after := #[{ on := 16, ground := Ground.guard }], guard := some (16, false) }) (v := .int .i64 (n : Int)) rfl (by kernel_rfl) (by kernel_rfl) (by kernel_rfl) (fun _ _ _ h => h) (Or.inl ⟨by rfl, fun wx hS => ?_⟩) hH ?_
                · go_simp
                simp only [Act.put, List.setIfInBounds_toArray, List.set_cons_zero, List.set_cons_succ]
                refine wpAnyH_take (i := 27) (oi := { dst := some 131, op := Op.indexAddr 43 (Operand.tmp 129) (Operand.tmp 130), type := 0, pos := "law.go:78", after := #[{ on := 25, ground := Ground.data }, { on := 26, ground := Ground.data }, { on := 16, ground := Ground.guard }], guard := some (16, false) }) (v := .pointer (some ⟨sb, so + n, none⟩)) rfl (by kernel_rfl) (by kernel_rfl) (by kernel_rfl) (fun _ _ _ h => h) (Or.inl ⟨by rfl, fun wx hS => ?_⟩) hH ?_
                · go_simp
                simp only [Act.put, List.setIfInBounds_toArray, List.set_cons_zero, List.set_cons_succ]
                refine wpAnyH_take (i := 28) (oi := { dst := some 132, op := Op.load 3 (Operand.tmp 131), type := 3, pos := "law.go:78", after := #[{ on := 27, ground := Ground.data }, { on := 16, ground := Ground.guard }], guard := some (16, false) }) (v := .int .i64 (s.length : Int)) rfl (by kernel_rfl) (by kernel_rfl) (by kernel_rfl) (fun _ _ _ h => h) (Or.inl ⟨by rfl, fun wx hS => ?_⟩) hH ?_
                · have e1 := hS.2.1; go_simp
                simp only [Act.put, List.setIfInBounds_toArray, List.set_cons_zero, List.set_cons_succ]
                refine wpAnyH_take (i := 29) (oi := { dst := some 133, op := Op.binOp BinOp.add 3 (Operand.tmp 128) (Operand.tmp 132) 3, type := 3, pos := "law.go:78", after := #[{ on := 24, ground := Ground.data }, { on := 28, ground := Ground.data }, { on := 16, ground := Ground.guard }], guard := some (16, false) }) (v := .int .i64 (K : Int)) rfl (by kernel_rfl) (by kernel_rfl) (by kernel_rfl) (fun _ _ _ h => h) (Or.inl ⟨by rfl, fun wx hS => ?_⟩) hH ?_
                · have e1 := hKw; go_simp
                simp only [Act.put, List.setIfInBounds_toArray, List.set_cons_zero, List.set_cons_succ]
                refine wpAnyH_take (i := 30) (oi := { dst := some 134, op := Op.slice 25 (Operand.tmp 126) (some (Operand.tmp 127)) (some (Operand.tmp 133)) none, type := 25, pos := "law.go:78", after := #[{ on := 22, ground := Ground.data }, { on := 23, ground := Ground.data }, { on := 29, ground := Ground.data }, { on := 16, ground := Ground.guard }], guard := some (16, false) }) (v := .slice A3 (K - T) (n1 - T)) rfl (by kernel_rfl) (by kernel_rfl) (by kernel_rfl) (fun _ _ _ h => h) (Or.inl ⟨by rfl, fun wx hS => ?_⟩) hH ?_
                · have e1 := hr3; go_simp
                simp only [Act.put, List.setIfInBounds_toArray, List.set_cons_zero, List.set_cons_succ]
                refine wpAnyH_take (i := 31) (oi := { dst := some 135, op := Op.convert 25 9 (Operand.tmp 134), type := 9, pos := "law.go:78", after := #[{ on := 30, ground := Ground.data }, { on := 16, ground := Ground.guard }], guard := some (16, false) }) (v := .string (str s)) rfl (by kernel_rfl) (by kernel_rfl) (by kernel_rfl) (fun _ _ _ h => h) (Or.inl ⟨by rfl, fun wx hS => ?_⟩) hH ?_
                · have e1 := conv_string wx A3 s (n1 - T) hS.2.2.2; rw [← HKT.out] at e1; go_simp
                simp only [Act.put, List.setIfInBounds_toArray, List.set_cons_zero, List.set_cons_succ]
                refine wpAnyH_take (i := 32) (oi := { dst := some 136, op := Op.binOp BinOp.neq 9 (Operand.tmp 125) (Operand.tmp 135) 9, type := 4, pos := "law.go:78", after := #[{ on := 21, ground := Ground.data }, { on := 31, ground := Ground.data }, { on := 16, ground := Ground.guard }], guard := some (16, false) }) (v := .bool false) rfl (by kernel_rfl) (by kernel_rfl) (by kernel_rfl) (fun _ _ _ h => h) (Or.inl ⟨by rfl, fun wx hS => ?_⟩) hH ?_
                · go_simp
                simp only [Act.put, List.setIfInBounds_toArray, List.set_cons_zero, List.set_cons_succ]
                refine wpAnyH_take (i := 33) (oi := { dst := some 137, op := Op.pick (Operand.tmp 120) (Operand.const (Value.bool true)) (Operand.tmp 136), type := 4, pos := "law.go:78", after := #[{ on := 16, ground := Ground.data }, { on := 32, ground := Ground.data }], guard := none }) (v := .bool false) rfl (by kernel_rfl) (by kernel_rfl) (by kernel_rfl) (fun _ _ _ h => h) (Or.inl ⟨by rfl, fun wx hS => ?_⟩) hH ?_
                · go_simp
                simp only [Act.put, List.setIfInBounds_toArray, List.set_cons_zero, List.set_cons_succ]
                refine wpAnyH_done (by kernel_rfl) ?_ _
                refine NoPanic.normal ?_
                clear hH
                have C3 := Lib.hid (C2.out.below (Below.refl _ _).drew C2.out.low.size)
                have R3 : Hid (rowV wr.drew wo.heap.size 25 (.slice (some ⟨ob, oo, none⟩) vs.length oc) vs) := R2
                have P3 : Hid (Pieces wr.drew w8.heap.size wr.drew.heap.size vs O1) := P2
                have d3 : wr.drew.cell? ⟨sb, so + n, none⟩ = some (.int .i64 (s.length : Int)) := d2
                clear d1 d2 hr3 PA PB C2 R2 P2 g1
                generalize wr.drew = w12 at *
                go_wp2_with fail
                go_roundw
                case rel => exact ⟨x + 1, n + 1, K, by omega, Lib.hid (by have := HN.out; omega), Lib.hid HTK.out.symm, rfl, by go_num, by go_num, C3, R3, P3⟩
                case measure => simp [intOf]; omega
              · obtain rfl : x = vs.length := by omega
                have HTE : Hid (T = flen (O ++ O1)) := Lib.hid (by rw [HT.out, P2.out.1, List.take_length])
                have HNE : Hid (n = (O ++ O1).length) := Lib.hid (by rw [HN.out, P2.out.1, List.length_append])
                have N0n : (0 : Int) ≤ (n : Int) := by omega
                have T0n : (0 : Int) ≤ (T : Int) := by omega
                have HSL : Hid ((r.sizes l1).length ≤ 2500) := Lib.hid (Nat.le_trans HS.out e5)
                have HAL := Lib.hid C2.out.alls
                have HTB : Hid (T ≤ 2500) := Lib.hid (by have := HAL.out; rw [HTE.out]; omega)
                have HCO := Lib.hid C2
                clear HN HT R2 P2
                by_cases hlast : n + 1 < (r.sizes l1).length
                · have hn : n < (r.sizes l1).length := by omega
                  have FN := r.fd_next HCO.out.fed HCO.out.all (by rw [← HNE.out]; exact hlast)
                  rw [← HNE.out, ← HDC.out] at FN
                  obtain ⟨sb, so, rfl, d2⟩ := ((rowV.of HCO.out.want).2.2.1).at n (by rw [ivals_length]; exact hn)
                  have e1 : (ivals (r.sizes l1))[n]'(by rw [ivals_length]; exact hn) = .int .i64 (((r.sizes l1).getD n 0 : Nat) : Int) := by simp [ivals, hn]
                  rw [e1] at d2
                  clear e1
                  have SB : Hid ((r.sizes l1).getD n 0 ≤ 2500) := Lib.hid (by
                    have h1 := sum_take (r.sizes l1) n hn
                    have h2 := sum_le (r.sizes l1) (n + 1)
                    have h3 := r.sizes_sum l1
                    omega)
                  generalize (r.sizes l1).getD n 0 = sn at *
                  have FN2 : D.length + l.length < T + sn := by rw [HTE.out]; exact FN
                  have S0n : (0 : Int) ≤ (sn : Int) := by omega
                  have S1n : (sn : Int) ≤ 2500 := by have := SB.out; omega
                  have T1n : (T : Int) ≤ 2500 := by have := HTB.out; omega
                  have L2n : ((r.sizes l1).length : Int) ≤ 2500 := by have := HSL.out; omega
                  have n1n : (n : Int) < ((r.sizes l1).length : Int) := by omega
                  have t1 : (n : Int) < ((r.sizes l1).length : Int) - 1 := by omega
                  have t2 : ¬ (T : Int) + (sn : Int) ≤ (D.length : Int) + (l.length : Int) := by omega
                  clear FN FN2 hlast hn
                  have hr8 := hr7.out
                  go_wp2_with fail
                  go_roundw
                  case rel => exact ⟨A7, l.drop l.length, c - l.length, D ++ l.take l.length, P1, O ++ O1, i + 1, (by rw [HLD.out]; simp), by rw [HTE.out], (by rw [← HDC.out]; go_num), by rw [HNE.out], by go_num, by omega, Lib.hid (fun h => by rw [List.drop_length]), HCO⟩
                  case measure => simp [lenOf, intOf]; omega
                · have L2n : ((r.sizes l1).length : Int) ≤ 2500 := by have := HSL.out; omega
                  have L0n : (0 : Int) ≤ ((r.sizes l1).length : Int) := by omega
                  have t1 : ¬ (n : Int) < ((r.sizes l1).length : Int) - 1 := by omega
                  clear hlast
                  have hr8 := hr7.out
                  go_wp2_with fail
                  go_roundw
                  case rel => exact ⟨A7, l.drop l.length, c - l.length, D ++ l.take l.length, P1, O ++ O1, i + 1, (by rw [HLD.out]; simp), by rw [HTE.out], (by rw [← HDC.out]; go_num), by rw [HNE.out], by go_num, by omega, Lib.hid (fun h => by rw [List.drop_length]), HCO⟩
                  case measure => simp [lenOf, intOf]; omega
          · as_aux_lemma =>
            have j1 : ¬ (i : Int) < (N.length : Int) := by omega
            go_upto_region 17 with fail
            have HBO9 : Hid (wo.heap.size ≤ wr.heap.size) := Lib.hid (by
              obtain ⟨_, _, _, _, _, _, h4, h5⟩ := C1.out.ex
              exact Nat.le_trans HBO.out (Nat.le_trans h4 h5))
            have C0n : (0 : Int) ≤ (l.length : Int) := by omega
            have C3n : (l.length : Int) ≤ 2500 := by omega
            have C2n : (l.length : Int) ≤ (l.length : Int) := by omega
            obtain ⟨H, hH, hHC⟩ : ∃ H : Nat, (l.length : Int) / 2 = (H : Int) ∧ H ≤ l.length := ⟨l.length / 2, by omega, by omega⟩
            have hH2 : (l.length : Int).tdiv 2 = (H : Int) := by rw [Int.tdiv_eq_ediv_of_nonneg C0n]; exact hH
            obtain ⟨A2, hA2, hr2⟩ := run_mid a l.length c H l.length hHC (by omega) C1.out.len
            have HA2 := Lib.hid hA2
            have HH := Lib.hid hHC
            have H0n : (0 : Int) ≤ (H : Int) := by omega
            have H1n : (H : Int) ≤ (l.length : Int) := by omega
            have H2n : (H : Int) ≤ (l.length : Int) := by omega
            have H3n : (H : Int) ≤ (c : Int) := by have := C1.out.len; omega
            have hHw : IntKind.i64.wrap (H : Int) = (H : Int) := by rw [IntKind.wrap_i64]; omega
            clear hA2 hHC
            have PF : Hid (Calls Try.prog 17 #[.pointer (some ⟨k, 0, none⟩), .slice (some ⟨wr.heap.size, 0, none⟩) 3 3] ((wr.alloc (.cells #[.slice a H c, .slice none 0 0, .slice A2 (l.length - H) (c - H)] 25 (0, 0))).drew) fun e w'' => ∃ ov vs, e = .returned ov ∧ (∀ A7, A7 = (if c = l.length then a else a.map (fun x => x.add l.length)) → CfAt w w'' w.heap.size k g b r w8.heap.size (.slice sa (r.sizes l1).length sc) l1 A7 (l.drop l.length) (c - l.length) (D ++ l.take l.length) (r.fed P (l.take l.length)).2 (O ++ (r.fed P (l.take l.length)).1)) ∧ rowV w'' wr.heap.size 25 ov vs ∧ Pieces w'' w8.heap.size w''.heap.size vs (r.fed P (l.take l.length)).1) := Lib.hid (feedcf (w := wr.drew) (C1.out.below (Below.refl _ _).drew C1.out.low.size) A2 H l.length HH.out (by omega) HA2.out G6.out HKB.out HWB.out e5)
            refine wp_region_noPanic ?_
            refine wp_region_held_drew (S := fun _ => True) (by kernel_rfl) trivial (fun hH => ?_)
            refine wpAnyH_take (i := 0) (oi := { dst := some 83, op := Op.move (Operand.tmp 9), type := 27, pos := "law.go:75", after := #[], guard := none }) (v := .pointer (some ⟨k, 0, none⟩)) rfl (by kernel_rfl) (by kernel_rfl) (by kernel_rfl) (fun _ _ _ h => h) (Or.inl ⟨by rfl, fun wx hS => ?_⟩) hH ?_
            · go_simp
            simp only [Act.put, List.setIfInBounds_toArray, List.set_cons_zero, List.set_cons_succ]
            refine wpAnyH_take (i := 1) (oi := { dst := some 84, op := Op.move (Operand.tmp 12), type := 25, pos := "law.go:75", after := #[], guard := none }) (v := .slice a l.length c) rfl (by kernel_rfl) (by kernel_rfl) (by kernel_rfl) (fun _ _ _ h => h) (Or.inl ⟨by rfl, fun wx hS => ?_⟩) hH ?_
            · go_simp
            simp only [Act.put, List.setIfInBounds_toArray, List.set_cons_zero, List.set_cons_succ]
            refine wpAnyH_take (i := 2) (oi := { dst := some 85, op := Op.move (Operand.tmp 17), type := 3, pos := "law.go:75", after := #[], guard := none }) (v := .int .i64 (l.length : Int)) rfl (by kernel_rfl) (by kernel_rfl) (by kernel_rfl) (fun _ _ _ h => h) (Or.inl ⟨by rfl, fun wx hS => ?_⟩) hH ?_
            · go_simp
            simp only [Act.put, List.setIfInBounds_toArray, List.set_cons_zero, List.set_cons_succ]
            refine wpAnyH_take (i := 3) (oi := { dst := some 86, op := Op.binOp BinOp.quo 3 (Operand.tmp 85) (Operand.const (Value.int IntKind.i64 2)) 3, type := 3, pos := "law.go:75", after := #[{ on := 2, ground := Ground.data }], guard := none }) (v := .int .i64 (H : Int)) rfl (by kernel_rfl) (by kernel_rfl) (by kernel_rfl) (fun _ _ _ h => h) (Or.inl ⟨by rfl, fun wx hS => ?_⟩) hH ?_
            · go_simp
            simp only [Act.put, List.setIfInBounds_toArray, List.set_cons_zero, List.set_cons_succ]
            refine wpAnyH_take (i := 4) (oi := { dst := some 87, op := Op.slice 25 (Operand.tmp 84) none (some (Operand.tmp 86)) none, type := 25, pos := "law.go:75", after := #[{ on := 1, ground := Ground.data }, { on := 3, ground := Ground.data }], guard := none }) (v := .slice a H c) rfl (by kernel_rfl) (by kernel_rfl) (by kernel_rfl) (fun _ _ _ h => h) (Or.inl ⟨by rfl, fun wx hS => ?_⟩) hH ?_
            · go_simp
            simp only [Act.put, List.setIfInBounds_toArray, List.set_cons_zero, List.set_cons_succ]
            refine wpAnyH_take (i := 5) (oi := { dst := some 88, op := Op.move (Operand.tmp 12), type := 25, pos := "law.go:75", after := #[], guard := none }) (v := .slice a l.length c) rfl (by kernel_rfl) (by kernel_rfl) (by kernel_rfl) (fun _ _ _ h => h) (Or.inl ⟨by rfl, fun wx hS => ?_⟩) hH ?_
            · go_simp
            simp only [Act.put, List.setIfInBounds_toArray, List.set_cons_zero, List.set_cons_succ]
            refine wpAnyH_take (i := 6) (oi := { dst := some 89, op := Op.move (Operand.tmp 17), type := 3, pos := "law.go:75", after := #[], guard := none }) (v := .int .i64 (l.length : Int)) rfl (by kernel_rfl) (by kernel_rfl) (by kernel_rfl) (fun _ _ _ h => h) (Or.inl ⟨by rfl, fun wx hS => ?_⟩) hH ?_
            · go_simp
            simp only [Act.put, List.setIfInBounds_toArray, List.set_cons_zero, List.set_cons_succ]
            refine wpAnyH_take (i := 7) (oi := { dst := some 90, op := Op.binOp BinOp.quo 3 (Operand.tmp 89) (Operand.const (Value.int IntKind.i64 2)) 3, type := 3, pos := "law.go:75", after := #[{ on := 6, ground := Ground.data }], guard := none }) (v := .int .i64 (H : Int)) rfl (by kernel_rfl) (by kernel_rfl) (by kernel_rfl) (fun _ _ _ h => h) (Or.inl ⟨by rfl, fun wx hS => ?_⟩) hH ?_
            · go_simp
            simp only [Act.put, List.setIfInBounds_toArray, List.set_cons_zero, List.set_cons_succ]
            refine wpAnyH_take (i := 8) (oi := { dst := some 91, op := Op.move (Operand.tmp 17), type := 3, pos := "law.go:75", after := #[], guard := none }) (v := .int .i64 (l.length : Int)) rfl (by kernel_rfl) (by kernel_rfl) (by kernel_rfl) (fun _ _ _ h => h) (Or.inl ⟨by rfl, fun wx hS => ?_⟩) hH ?_
            · go_simp
            simp only [Act.put, List.setIfInBounds_toArray, List.set_cons_zero, List.set_cons_succ]
            refine wpAnyH_take (i := 9) (oi := { dst := some 92, op := Op.slice 25 (Operand.tmp 88) (some (Operand.tmp 90)) (some (Operand.tmp 91)) none, type := 25, pos := "law.go:75", after := #[{ on := 5, ground := Ground.data }, { on := 7, ground := Ground.data }, { on := 8, ground := Ground.data }], guard := none }) (v := .slice A2 (l.length - H) (c - H)) rfl (by kernel_rfl) (by kernel_rfl) (by kernel_rfl) (fun _ _ _ h => h) (Or.inl ⟨by rfl, fun wx hS => ?_⟩) hH ?_
            · go_simp
            simp only [Act.put, List.setIfInBounds_toArray, List.set_cons_zero, List.set_cons_succ]
            refine wpAnyH_ready (rs := [10]) (by kernel_rfl) (by simp) ?_
            refine AllReadyH.cons (o := { dst := some 93, op := Op.buildSlice 40 3 #[(0, Operand.tmp 87), (1, Operand.const (Value.slice none 0 0)), (2, Operand.tmp 92)], type := 40, pos := "law.go:75", after := #[{ on := 4, ground := Ground.data }, { on := 9, ground := Ground.data }], guard := none }) rfl (fun KK hKK => ?_) AllReadyH.nil
            go_simp
            refine hKK.out _ _ trivial (fun hH => ?_)
            clear hKK KK
            try simp only [Act.put, List.setIfInBounds_toArray, List.set_cons_zero, List.set_cons_succ]
            refine wpAnyH_ready (rs := [11]) (by kernel_rfl) (by simp) ?_
            refine AllReadyH.cons (o := { dst := some 94, op := Op.call { callee := Callee.value (Operand.func 17), args := #[Operand.tmp 83, Operand.tmp 93], argTypes := #[27, 40] }, type := 40, pos := "law.go:75", after := #[{ on := 0, ground := Ground.data }, { on := 10, ground := Ground.data }], guard := none }) rfl (fun KK hKK => ?_) AllReadyH.nil
            go_simp
            with_reducible refine PF.out.mono ?_
            rintro e w9 ⟨ov, vs, rfl, hc9, hr9, hp9⟩
            have C9 := Lib.hid hc9
            have R9 := Lib.hid hr9
            have P9 := Lib.hid hp9
            obtain ⟨oa, oc, rfl, ol, -, -⟩ := hr9.vals
            clear hc9 hr9 hp9 hH PF
            refine hKK.out _ _ trivial (fun hH => ?_)
            clear hKK KK
            try simp only [Act.put, List.setIfInBounds_toArray, List.set_cons_zero, List.set_cons_succ]
            refine wpAnyH_take (i := 12) (oi := { dst := some 18, op := Op.assign (Operand.tmp 94), type := 40, pos := "law.go:75", after := #[{ on := 11, ground := Ground.data }, { on := 11, ground := Ground.chain }, { on := 0, ground := Ground.phase }, { on := 1, ground := Ground.phase }, { on := 2, ground := Ground.phase }, { on := 3, ground := Ground.phase }, { on := 4, ground := Ground.phase }, { on := 5, ground := Ground.phase }, { on := 6, ground := Ground.phase }, { on := 7, ground := Ground.phase }, { on := 8, ground := Ground.phase }, { on := 9, ground := Ground.phase }, { on := 10, ground := Ground.phase }, { on := 11, ground := Ground.phase }], guard := none }) (v := .slice oa vs.length oc) rfl (by kernel_rfl) (by kernel_rfl) (by kernel_rfl) (fun _ _ _ h => h) (Or.inl ⟨by rfl, fun wx hS => ?_⟩) hH ?_
            · go_simp
            simp only [Act.put, List.setIfInBounds_toArray, List.set_cons_zero, List.set_cons_succ]
            refine wpAnyH_done (by kernel_rfl) ?_ _
            refine NoPanic.normal ?_
            clear hH
            clear hHw hH2 hH hr2 H0n H1n H2n H3n HH HA2
            obtain ⟨A7, hA7, hr7⟩ := run_drop a l.length c l.length (by omega) C1.out.len
            have CN := Lib.hid (C9.out A7 hA7)
            have hr7 := Lib.hid hr7
            clear hA7 C9 HA
            have HDC : Hid (D.length + l.length = (D ++ l.take l.length).length) := Lib.hid (by rw [List.length_append, List.length_take]; omega)
            have HLD : Hid ((l.drop l.length).length = l.length - l.length) := Lib.hid List.length_drop
            generalize hO' : (r.fed P (l.take l.length)).1 = O1 at *
            generalize hP' : (r.fed P (l.take l.length)).2 = P1 at *
            clear hO' hP'
            have HD5 : Hid (D.length + l.length ≤ 2500) := Lib.hid (by have := CN.out.alls; have := HDC.out; omega)
            have D0n : (0 : Int) ≤ (D.length : Int) := by omega
            have D1n : (D.length : Int) ≤ 2500 := by have := HD5.out; omega
            clear C1
            rename World => w10
            go_wp2_with fail
            go_loopw [13, 15, 19] (fun av nv xv wr => ∃ (x n T : Nat), x ≤ vs.length ∧ Hid (n = O.length + x) ∧ Hid (T = flen (O ++ O1.take x)) ∧ av = .int .i64 (T : Int) ∧ nv = .int .i64 (n : Int) ∧ xv = .int .i64 (x : Int) ∧ Hid (CfAt w wr w.heap.size k g b r w8.heap.size (.slice sa (r.sizes l1).length sc) l1 A7 (l.drop l.length) (c - l.length) (D ++ l.take l.length) P1 (O ++ O1)) ∧ Hid (rowV wr wo.heap.size 25 (.slice oa vs.length oc) vs) ∧ Hid (Pieces wr w8.heap.size wr.heap.size vs O1)) (fun _ _ xv _ => vs.length - (intOf xv).toNat)
            case atStart => exact ⟨0, O.length, flen O, Nat.zero_le _, Lib.hid rfl, Lib.hid (by simp), rfl, rfl, rfl, CN, Lib.hid (rowV.mono R9.out HBO9.out), P9⟩
            case round =>
              obtain ⟨x, n, T, hx, HN, HT, rfl, rfl, rfl, C2, R2, P2⟩ := hrel
              clear CN R9 P9
              have x0 : (0 : Int) ≤ (x : Int) := by omega
              by_cases hlt2 : x < vs.length
              · have x1 : (x : Int) < (vs.length : Int) := by omega
                have HBN : Hid ((r.sizes l1).length ≤ 2500 ∧ vs.length ≤ 2500) := Lib.hid ⟨Nat.le_trans HS.out e5, by
                  have h1 := C2.out.alls
                  have h3 : (O ++ O1).length = O.length + O1.length := List.length_append
                  have h2 := P2.out.1
                  omega⟩
                have x2 : (x : Int) ≤ 2500 := by have := HBN.out; omega
                have hx1 : x < O1.length := by rw [← P2.out.1]; exact hlt2
                obtain ⟨ob, oo, rfl, d1⟩ := ((rowV.of R2.out).2.2.1).at x hlt2
                obtain ⟨pa, pc, hve, hpl, hpin, -⟩ := (P2.out.2 x hlt2 hx1).1.bytes
                rw [hve] at d1
                obtain ⟨f1, f2, f3, f4, f5⟩ := r.fd_at2 C2.out.fed C2.out.all x n T hx1 HN.out HT.out
                obtain ⟨sb, so, rfl, d2⟩ := ((rowV.of C2.out.want).2.2.1).at n (by rw [ivals_length]; exact f1)
                have e1 : (ivals (r.sizes l1))[n]'(by rw [ivals_length]; exact f1) = .int .i64 (((r.sizes l1).getD n 0 : Nat) : Int) := by simp [ivals, f1]
                rw [e1, f2] at d2
                have HT2 := Lib.hid f5
                have PB := Lib.hid hpin
                clear e1 f2 f5 hve hpl hpin
                generalize O1[x] = s at *
                obtain ⟨K, hK⟩ : ∃ K, K = T + s.length := ⟨_, rfl⟩
                obtain ⟨A3, hA3, hr3⟩ := run_mid a1 l1.length n1 T K (by omega) (by omega) e6
                have PA : Hid (bytesIn wr A3 s) := Lib.hid (by
                  have h := (I1.out.below C2.out.low (Nat.le_refl _)).mid n1 T K (by omega) (by omega) e6
                  rw [← hA3, hK, f4] at h
                  exact h)
                have HKT : Hid (K - T = s.length) := Lib.hid (by omega)
                have T0n : (0 : Int) ≤ (T : Int) := by omega
                have K0n : (0 : Int) ≤ (K : Int) := by omega
                have TKn : (T : Int) ≤ (K : Int) := by omega
                have KLn : (K : Int) ≤ (l1.length : Int) := by omega
                have N0n : (0 : Int) ≤ (n : Int) := by omega
                have N2n : (n : Int) ≤ 2500 := by have := HBN.out; omega
                have N1n : (n : Int) < ((r.sizes l1).length : Int) := by omega
                have g1 : decide ((r.sizes l1).length ≤ n) = false := by simp; omega
                have HTK : Hid (flen (O ++ O1.take (x + 1)) = K) := Lib.hid (by rw [HT2.out, hK])
                have HKW : Hid (IntKind.i64.wrap ((T : Int) + (s.length : Int)) = (K : Int) ∧ wrap64 ((T : Int) + (s.length : Int)) = (K : Int)) := Lib.hid ⟨by rw [IntKind.wrap_i64]; omega, by unfold wrap64; omega⟩
                clear hA3 f3 f4 hK HT2
                obtain ⟨hKw, hKw2⟩ := HKW.out
                go_upto_region 22 with fail
                refine wp_region_noPanic ?_
                refine wp_region_held_drew (S := fun w' => w'.cell? ⟨ob, oo + x, none⟩ = some (.slice pa s.length pc) ∧ w'.cell? ⟨sb, so + n, none⟩ = some (.int .i64 (s.length : Int)) ∧ bytesIn w' pa s ∧ bytesIn w' A3 s) (by kernel_rfl) ⟨d1, d2, PB.out, PA.out⟩ (fun hH => ?_)
                refine wpAnyH_take (i := 0) (oi := { dst := some 104, op := Op.move (Operand.tmp 15), type := 3, pos := "law.go:78", after := #[], guard := none }) (v := .int .i64 (n : Int)) rfl (by kernel_rfl) (by kernel_rfl) (by kernel_rfl) (fun _ _ _ h => h) (Or.inl ⟨by rfl, fun wx hS => ?_⟩) hH ?_
                · go_simp
                simp only [Act.put, List.setIfInBounds_toArray, List.set_cons_zero, List.set_cons_succ]
                refine wpAnyH_take (i := 1) (oi := { dst := some 105, op := Op.move (Operand.tmp 7), type := 43, pos := "law.go:78", after := #[], guard := none }) (v := .slice (some ⟨sb, so, none⟩) (r.sizes l1).length sc) rfl (by kernel_rfl) (by kernel_rfl) (by kernel_rfl) (fun _ _ _ h => h) (Or.inl ⟨by rfl, fun wx hS => ?_⟩) hH ?_
                · go_simp
                simp only [Act.put, List.setIfInBounds_toArray, List.set_cons_zero, List.set_cons_succ]
                refine wpAnyH_take (i := 2) (oi := { dst := some 106, op := Op.call { callee := Callee.builtin Builtin.len, args := #[Operand.tmp 105], argTypes := #[43] }, type := 3, pos := "law.go:78", after := #[{ on := 1, ground := Ground.data }], guard := none }) (v := .int .i64 ((r.sizes l1).length : Int)) rfl (by kernel_rfl) (by kernel_rfl) (by kernel_rfl) (fun _ _ _ h => h) (Or.inl ⟨by rfl, fun wx hS => ?_⟩) hH ?_
                · go_simp
                simp only [Act.put, List.setIfInBounds_toArray, List.set_cons_zero, List.set_cons_succ]
                refine wpAnyH_take (i := 3) (oi := { dst := some 107, op := Op.binOp BinOp.geq 3 (Operand.tmp 104) (Operand.tmp 106) 3, type := 4, pos := "law.go:78", after := #[{ on := 0, ground := Ground.data }, { on := 2, ground := Ground.data }], guard := none }) (v := .bool false) rfl (by kernel_rfl) (by kernel_rfl) (by kernel_rfl) (fun _ _ _ h => h) (Or.inl ⟨by rfl, fun wx hS => ?_⟩) hH ?_
                · go_simp
                simp only [Act.put, List.setIfInBounds_toArray, List.set_cons_zero, List.set_cons_succ]
                refine wpAnyH_take (i := 4) (oi := { dst := some 108, op := Op.move (Operand.tmp 107), type := 4, pos := "law.go:78", after := #[{ on := 3, ground := Ground.data }], guard := none }) (v := .bool false) rfl (by kernel_rfl) (by kernel_rfl) (by kernel_rfl) (fun _ _ _ h => h) (Or.inl ⟨by rfl, fun wx hS => ?_⟩) hH ?_
                · go_simp
                simp only [Act.put, List.setIfInBounds_toArray, List.set_cons_zero, List.set_cons_succ]
                refine wpAnyH_take (i := 5) (oi := { dst := some 109, op := Op.move (Operand.tmp 18), type := 40, pos := "law.go:78", after := #[{ on := 4, ground := Ground.guard }], guard := some (4, false) }) (v := .slice (some ⟨ob, oo, none⟩) vs.length oc) rfl (by kernel_rfl) (by kernel_rfl) (by kernel_rfl) (fun _ _ _ h => h) (Or.inl ⟨by rfl, fun wx hS => ?_⟩) hH ?_
                · go_simp
                simp only [Act.put, List.setIfInBounds_toArray, List.set_cons_zero, List.set_cons_succ]
                refine wpAnyH_take (i := 6) (oi := { dst := some 110, op := Op.move (Operand.tmp 19), type := 3, pos := "law.go:78", after := #[{ on := 4, ground := Ground.guard }], guard := some (4, false) }) (v := .int .i64 (x : Int)) rfl (by kernel_rfl) (by kernel_rfl) (by kernel_rfl) (fun _ _ _ h => h) (Or.inl ⟨by rfl, fun wx hS => ?_⟩) hH ?_
                · go_simp
                simp only [Act.put, List.setIfInBounds_toArray, List.set_cons_zero, List.set_cons_succ]
                refine wpAnyH_take (i := 7) (oi := { dst := some 111, op := Op.indexAddr 40 (Operand.tmp 109) (Operand.tmp 110), type := 0, pos := "law.go:78", after := #[{ on := 5, ground := Ground.data }, { on := 6, ground := Ground.data }, { on := 4, ground := Ground.guard }], guard := some (4, false) }) (v := .pointer (some ⟨ob, oo + x, none⟩)) rfl (by kernel_rfl) (by kernel_rfl) (by kernel_rfl) (fun _ _ _ h => h) (Or.inl ⟨by rfl, fun wx hS => ?_⟩) hH ?_
                · go_simp
                simp only [Act.put, List.setIfInBounds_toArray, List.set_cons_zero, List.set_cons_succ]
                refine wpAnyH_take (i := 8) (oi := { dst := some 112, op := Op.load 25 (Operand.tmp 111), type := 25, pos := "law.go:78", after := #[{ on := 7, ground := Ground.data }, { on := 4, ground := Ground.guard }], guard := some (4, false) }) (v := .slice pa s.length pc) rfl (by kernel_rfl) (by kernel_rfl) (by kernel_rfl) (fun _ _ _ h => h) (Or.inl ⟨by rfl, fun wx hS => ?_⟩) hH ?_
                · have e1 := hS.1; go_simp
                simp only [Act.put, List.setIfInBounds_toArray, List.set_cons_zero, List.set_cons_succ]
                refine wpAnyH_take (i := 9) (oi := { dst := some 113, op := Op.call { callee := Callee.builtin Builtin.len, args := #[Operand.tmp 112], argTypes := #[25] }, type := 3, pos := "law.go:78", after := #[{ on := 8, ground := Ground.data }, { on := 4, ground := Ground.guard }], guard := some (4, false) }) (v := .int .i64 (s.length : Int)) rfl (by kernel_rfl) (by kernel_rfl) (by kernel_rfl) (fun _ _ _ h => h) (Or.inl ⟨by rfl, fun wx hS => ?_⟩) hH ?_
                · go_simp
                simp only [Act.put, List.setIfInBounds_toArray, List.set_cons_zero, List.set_cons_succ]
                refine wpAnyH_take (i := 10) (oi := { dst := some 114, op := Op.move (Operand.tmp 7), type := 43, pos := "law.go:78", after := #[{ on := 4, ground := Ground.guard }], guard := some (4, false) }) (v := .slice (some ⟨sb, so, none⟩) (r.sizes l1).length sc) rfl (by kernel_rfl) (by kernel_rfl) (by kernel_rfl) (fun _ _ _ h => h) (Or.inl ⟨by rfl, fun wx hS => ?_⟩) hH ?_
                · go_simp
                simp only [Act.put, List.setIfInBounds_toArray, List.set_cons_zero, List.set_cons_succ]
                refine wpAnyH_take (i := 11) (oi := { dst := some 115, op := Op.move (Operand.tmp 15), type := 3, pos := "law.go:78", after := #[{ on := 4, ground := Ground.guard }], guard := some (4, false) }) (v := .int .i64 (n : Int)) rfl (by kernel_rfl) (by kernel_rfl) (by kernel_rfl) (fun _ _ _ h => h) (Or.inl ⟨by rfl, fun wx hS => ?_⟩) hH ?_
                · go_simp
                simp only [Act.put, List.setIfInBounds_toArray, List.set_cons_zero, List.set_cons_succ]
                refine wpAnyH_take (i := 12) (oi := { dst := some 116, op := Op.indexAddr 43 (Operand.tmp 114) (Operand.tmp 115), type := 0, pos := "law.go:78", after := #[{ on := 10, ground := Ground.data }, { on := 11, ground := Ground.data }, { on := 4, ground := Ground.guard }], guard := some (4, false) }) (v := .pointer (some ⟨sb, so + n, none⟩)) rfl (by kernel_rfl) (by kernel_rfl) (by kernel_rfl) (fun _ _ _ h => h) (Or.inl ⟨by rfl, fun wx hS => ?_⟩) hH ?_
                · go_simp
                simp only [Act.put, List.setIfInBounds_toArray, List.set_cons_zero, List.set_cons_succ]
                refine wpAnyH_take (i := 13) (oi := { dst := some 117, op := Op.load 3 (Operand.tmp 116), type := 3, pos := "law.go:78", after := #[{ on := 12, ground := Ground.data }, { on := 4, ground := Ground.guard }], guard := some (4, false) }) (v := .int .i64 (s.length : Int)) rfl (by kernel_rfl) (by kernel_rfl) (by kernel_rfl) (fun _ _ _ h => h) (Or.inl ⟨by rfl, fun wx hS => ?_⟩) hH ?_
                · have e1 := hS.2.1; go_simp
                simp only [Act.put, List.setIfInBounds_toArray, List.set_cons_zero, List.set_cons_succ]
                refine wpAnyH_take (i := 14) (oi := { dst := some 118, op := Op.binOp BinOp.neq 3 (Operand.tmp 113) (Operand.tmp 117) 3, type := 4, pos := "law.go:78", after := #[{ on := 9, ground := Ground.data }, { on := 13, ground := Ground.data }, { on := 4, ground := Ground.guard }], guard := some (4, false) }) (v := .bool false) rfl (by kernel_rfl) (by kernel_rfl) (by kernel_rfl) (fun _ _ _ h => h) (Or.inl ⟨by rfl, fun wx hS => ?_⟩) hH ?_
                · go_simp
                simp only [Act.put, List.setIfInBounds_toArray, List.set_cons_zero, List.set_cons_succ]
                refine wpAnyH_take (i := 15) (oi := { dst := some 119, op := Op.pick (Operand.tmp 108) (Operand.const (Value.bool true)) (Operand.tmp 118), type := 4, pos := "law.go:78", after := #[{ on := 4, ground := Ground.data }, { on := 14, ground := Ground.data }], guard := none }) (v := .bool false) rfl (by kernel_rfl) (by kernel_rfl) (by kernel_rfl) (fun _ _ _ h => h) (Or.inl ⟨by rfl, fun wx hS => ?_⟩) hH ?_
                · go_simp
                simp only [Act.put, List.setIfInBounds_toArray, List.set_cons_zero, List.set_cons_succ]
                refine wpAnyH_take (i := 16) (oi := { dst := some 120, op := Op.move (Operand.tmp 119), type := 4, pos := "law.go:78", after := #[{ on := 15, ground := Ground.data }, { on := 4, ground := Ground.chain }], guard := none }) (v := .bool false) rfl (by kernel_rfl) (by kernel_rfl) (by kernel_rfl) (fun _ _ _ h => h) (Or.inl ⟨by rfl, fun wx hS => ?_⟩) hH ?_
                · go_simp
                simp only [Act.put, List.setIfInBounds_toArray, List.set_cons_zero, List.set_cons_succ]
                refine wpAnyH_take (i := 17) (oi := { dst := some 121, op := Op.move (Operand.tmp 18), type := 40, pos := "law.go:78", after := #[{ on := 16, ground := Ground.guard }], guard := some (16, false) }) (v := .slice (some ⟨ob, oo, none⟩) vs.length oc) rfl (by kernel_rfl) (by kernel_rfl) (by kernel_rfl) (fun _ _ _ h => h) (Or.inl ⟨by rfl, fun wx hS => ?_⟩) hH ?_
                · go_simp
                simp only [Act.put, List.setIfInBounds_toArray, List.set_cons_zero, List.set_cons_succ]
                refine wpAnyH_take (i := 18) (oi := { dst := some 122, op := Op.move (Operand.tmp 19), type := 3, pos := "law.go:78", after := #[{ on := 16, ground := Ground.guard }], guard := some (16, false) }) (v := .int .i64 (x : Int)) rfl (by kernel_rfl) (by kernel_rfl) (by kernel_rfl) (fun _ _ _ h => h) (Or.inl ⟨by rfl, fun wx hS => ?_⟩) hH ?_
                · go_simp
                simp only [Act.put, List.setIfInBounds_toArray, List.set_cons_zero, List.set_cons_succ]
                refine wpAnyH_take (i := 19) (oi := { dst := some 123, op := Op.indexAddr 40 (Operand.tmp 121) (Operand.tmp 122), type := 0, pos := "law.go:78", after := #[{ on := 17, ground := Ground.data }, { on := 18, ground := Ground.data }, { on := 16, ground := Ground.guard }], guard := some (16, false) }) (v := .pointer (some ⟨ob, oo + x, none⟩)) rfl (by kernel_rfl) (by kernel_rfl) (by kernel_rfl) (fun _ _ _ h => h) (Or.inl ⟨by rfl, fun wx hS => ?_⟩) hH ?_
                · go_simp
                simp only [Act.put, List.setIfInBounds_toArray, List.set_cons_zero, List.set_cons_succ]
                refine wpAnyH_take (i := 20) (oi := { dst := some 124, op := Op.load 25 (Operand.tmp 123), type := 25, pos := "law.go:78", after := #[{ on := 19, ground := Ground.data }, { on := 16, ground := Ground.guard }], guard := some (16, false) }) (v := .slice pa s.length pc) rfl (by kernel_rfl) (by kernel_rfl) (by kernel_rfl) (fun _ _ _ h => h) (Or.inl ⟨by rfl, fun wx hS => ?_⟩) hH ?_
                · have e1 := hS.1; go_simp
                simp only [Act.put, List.setIfInBounds_toArray, List.set_cons_zero, List.set_cons_succ]
                refine wpAnyH_take (i := 21) (oi := { dst := some 125, op := Op.convert 25 9 (Operand.tmp 124), type := 9, pos := "law.go:78", after := #[{ on := 20, ground := Ground.data }, { on := 16, ground := Ground.guard }], guard := some (16, false) }) (v := .string (str s)) rfl (by kernel_rfl) (by kernel_rfl) (by kernel_rfl) (fun _ _ _ h => h) (Or.inl ⟨by rfl, fun wx hS => ?_⟩) hH ?_
                · have e1 := conv_string wx pa s pc hS.2.2.1; go_simp
                simp only [Act.put, List.setIfInBounds_toArray, List.set_cons_zero, List.set_cons_succ]
                refine wpAnyH_take (i := 22) (oi := { dst := some 126, op := Op.move (Operand.tmp 1), type := 25, pos := "law.go:78", after := #[{ on := 16, ground := Ground.guard }], guard := some (16, false) }) (v := .slice a1 l1.length n1) rfl (by kernel_rfl) (by kernel_rfl) (by kernel_rfl) (fun _ _ _ h => h) (Or.inl ⟨by rfl, fun wx hS => ?_⟩) hH ?_
                · go_simp
                simp only [Act.put, List.setIfInBounds_toArray, List.set_cons_zero, List.set_cons_succ]
                refine wpAnyH_take (i := 23) (oi := { dst := some 127, op := Op.move (Operand.tmp 13), type := 3, pos := "law.go:78", after := #[{ on := 16, ground := Ground.guard }], guard := some (16, false) }) (v := .int .i64 (T : Int)) rfl (by kernel_rfl) (by kernel_rfl) (by kernel_rfl) (fun _ _ _ h => h) (Or.inl ⟨by rfl, fun wx hS => ?_⟩) hH ?_
                · go_simp
                simp only [Act.put, List.setIfInBounds_toArray, List.set_cons_zero, List.set_cons_succ]
                refine wpAnyH_take (i := 24) (oi := { dst := some 128, op := Op.move (Operand.tmp 13), type := 3, pos := "law.go:78", after := #[{ on := 16, ground := Ground.guard }], guard := some (16, false) }) (v := .int .i64 (T : Int)) rfl (by kernel_rfl) (by kernel_rfl) (by kernel_rfl) (fun _ _ _ h => h) (Or.inl ⟨by rfl, fun wx hS => ?_⟩) hH ?_
                · go_simp
                simp only [Act.put, List.setIfInBounds_toArray, List.set_cons_zero, List.set_cons_succ]
                refine wpAnyH_take (i := 25) (oi := { dst := some 129, op := Op.move (Operand.tmp 7), type := 43, pos := "law.go:78", after := #[{ on := 16, ground := Ground.guard }], guard := some (16, false) }) (v := .slice (some ⟨sb, so, none⟩) (r.sizes l1).length sc) rfl (by kernel_rfl) (by kernel_rfl) (by kernel_rfl) (fun _ _ _ h => h) (Or.inl ⟨by rfl, fun wx hS => ?_⟩) hH ?_
                · go_simp
                simp only [Act.put, List.setIfInBounds_toArray, List.set_cons_zero, List.set_cons_succ]
                refine wpAnyH_take (i := 26) (oi := { dst := some 130, op := Op.move (Operand.tmp 15), type := 3, pos := "law.go:78", after := #[{ on := 16, ground := Ground.guard }], guard := some (16, false) }) (v := .int .i64 (n : Int)) rfl (by kernel_rfl) (by kernel_rfl) (by kernel_rfl) (fun _ _ _ h => h) (Or.inl ⟨by rfl, fun wx hS => ?_⟩) hH ?_
                · go_simp
                simp only [Act.put, List.setIfInBounds_toArray, List.set_cons_zero, List.set_cons_succ]
                refine wpAnyH_take (i := 27) (oi := { dst := some 131, op := Op.indexAddr 43 (Operand.tmp 129) (Operand.tmp 130), type := 0, pos := "law.go:78", after := #[{ on := 25, ground := Ground.data }, { on := 26, ground := Ground.data }, { on := 16, ground := Ground.guard }], guard := some (16, false) }) (v := .pointer (some ⟨sb, so + n, none⟩)) rfl (by kernel_rfl) (by kernel_rfl) (by kernel_rfl) (fun _ _ _ h => h) (Or.inl ⟨by rfl, fun wx hS => ?_⟩) hH ?_
                · go_simp
                simp only [Act.put, List.setIfInBounds_toArray, List.set_cons_zero, List.set_cons_succ]
                refine wpAnyH_take (i := 28) (oi := { dst := some 132, op := Op.load 3 (Operand.tmp 131), type := 3, pos := "law.go:78", after := #[{ on := 27, ground := Ground.data }, { on := 16, ground := Ground.guard }], guard := some (16, false) }) (v := .int .i64 (s.length : Int)) rfl (by kernel_rfl) (by kernel_rfl) (by kernel_rfl) (fun _ _ _ h => h) (Or.inl ⟨by rfl, fun wx hS => ?_⟩) hH ?_
                · have e1 := hS.2.1; go_simp
                simp only [Act.put, List.setIfInBounds_toArray, List.set_cons_zero, List.set_cons_succ]
                refine wpAnyH_take (i := 29) (oi := { dst := some 133, op := Op.binOp BinOp.add 3 (Operand.tmp 128) (Operand.tmp 132) 3, type := 3, pos := "law.go:78", after := #[{ on := 24, ground := Ground.data }, { on := 28, ground := Ground.data }, { on := 16, ground := Ground.guard }], guard := some (16, false) }) (v := .int .i64 (K : Int)) rfl (by kernel_rfl) (by kernel_rfl) (by kernel_rfl) (fun _ _ _ h => h) (Or.inl ⟨by rfl, fun wx hS => ?_⟩) hH ?_
                · have e1 := hKw; go_simp
                simp only [Act.put, List.setIfInBounds_toArray, List.set_cons_zero, List.set_cons_succ]
                refine wpAnyH_take (i := 30) (oi := { dst := some 134, op := Op.slice 25 (Operand.tmp 126) (some (Operand.tmp 127)) (some (Operand.tmp 133)) none, type := 25, pos := "law.go:78", after := #[{ on := 22, ground := Ground.data }, { on := 23, ground := Ground.data }, { on := 29, ground := Ground.data }, { on := 16, ground := Ground.guard }], guard := some (16, false) }) (v := .slice A3 (K - T) (n1 - T)) rfl (by kernel_rfl) (by kernel_rfl) (by kernel_rfl) (fun _ _ _ h => h) (Or.inl ⟨by rfl, fun wx hS => ?_⟩) hH ?_
                · have e1 := hr3; go_simp
                simp only [Act.put, List.setIfInBounds_toArray, List.set_cons_zero, List.set_cons_succ]
                refine wpAnyH_take (i := 31) (oi := { dst := some 135, op := Op.convert 25 9 (Operand.tmp 134), type := 9, pos := "law.go:78", after := #[{ on := 30, ground := Ground.data }, { on := 16, ground := Ground.guard }], guard := some (16, false) }) (v := .string (str s)) rfl (by kernel_rfl) (by kernel_rfl) (by kernel_rfl) (fun _ _ _ h => h) (Or.inl ⟨by rfl, fun wx hS => ?_⟩) hH ?_
                · have e1 := conv_string wx A3 s (n1 - T) hS.2.2.2; rw [← HKT.out] at e1; go_simp
                simp only [Act.put, List.setIfInBounds_toArray, List.set_cons_zero, List.set_cons_succ]
                refine wpAnyH_take (i := 32) (oi := { dst := some 136, op := Op.binOp BinOp.neq 9 (Operand.tmp 125) (Operand.tmp 135) 9, type := 4, pos := "law.go:78", after := #[{ on := 21, ground := Ground.data }, { on := 31, ground := Ground.data }, { on := 16, ground := Ground.guard }], guard := some (16, false) }) (v := .bool false) rfl (by kernel_rfl) (by kernel_rfl) (by kernel_rfl) (fun _ _ _ h => h) (Or.inl ⟨by rfl, fun wx hS => ?_⟩) hH ?_
                · go_simp
                simp only [Act.put, List.setIfInBounds_toArray, List.set_cons_zero, List.set_cons_succ]
                refine wpAnyH_take (i := 33) (oi := { dst := some 137, op := Op.pick (Operand.tmp 120) (Operand.const (Value.bool true)) (Operand.tmp 136), type := 4, pos := "law.go:78", after := #[{ on := 16, ground := Ground.data }, { on := 32, ground := Ground.data }], guard := none }) (v := .bool false) rfl (by kernel_rfl) (by kernel_rfl) (by kernel_rfl) (fun _ _ _ h => h) (Or.inl ⟨by rfl, fun wx hS => ?_⟩) hH ?_
                · go_simp
                simp only [Act.put, List.setIfInBounds_toArray, List.set_cons_zero, List.set_cons_succ]
                refine wpAnyH_done (by kernel_rfl) ?_ _
                refine NoPanic.normal ?_
                clear hH
                have C3 := Lib.hid (C2.out.below (Below.refl _ _).drew C2.out.low.size)
                have R3 : Hid (rowV wr.drew wo.heap.size 25 (.slice (some ⟨ob, oo, none⟩) vs.length oc) vs) := R2
                have P3 : Hid (Pieces wr.drew w8.heap.size wr.drew.heap.size vs O1) := P2
                have d3 : wr.drew.cell? ⟨sb, so + n, none⟩ = some (.int .i64 (s.length : Int)) := d2
                clear d1 d2 hr3 PA PB C2 R2 P2 g1
                generalize wr.drew = w12 at *
                go_wp2_with fail
                go_roundw
                case rel => exact ⟨x + 1, n + 1, K, by omega, Lib.hid (by have := HN.out; omega), Lib.hid HTK.out.symm, rfl, by go_num, by go_num, C3, R3, P3⟩
                case measure => simp [intOf]; omega
              · obtain rfl : x = vs.length := by omega
                have HTE : Hid (T = flen (O ++ O1)) := Lib.hid (by rw [HT.out, P2.out.1, List.take_length])
                have HNE : Hid (n = (O ++ O1).length) := Lib.hid (by rw [HN.out, P2.out.1, List.length_append])
                have N0n : (0 : Int) ≤ (n : Int) := by omega
                have T0n : (0 : Int) ≤ (T : Int) := by omega
                have HSL : Hid ((r.sizes l1).length ≤ 2500) := Lib.hid (Nat.le_trans HS.out e5)
                have HAL := Lib.hid C2.out.alls
                have HTB : Hid (T ≤ 2500) := Lib.hid (by have := HAL.out; rw [HTE.out]; omega)
                have HCO := Lib.hid C2
                clear HN HT R2 P2
                by_cases hlast : n + 1 < (r.sizes l1).length
                · have hn : n < (r.sizes l1).length := by omega
                  have FN := r.fd_next HCO.out.fed HCO.out.all (by rw [← HNE.out]; exact hlast)
                  rw [← HNE.out, ← HDC.out] at FN
                  obtain ⟨sb, so, rfl, d2⟩ := ((rowV.of HCO.out.want).2.2.1).at n (by rw [ivals_length]; exact hn)
                  have e1 : (ivals (r.sizes l1))[n]'(by rw [ivals_length]; exact hn) = .int .i64 (((r.sizes l1).getD n 0 : Nat) : Int) := by simp [ivals, hn]
                  rw [e1] at d2
                  clear e1
                  have SB : Hid ((r.sizes l1).getD n 0 ≤ 2500) := Lib.hid (by
                    have h1 := sum_take (r.sizes l1) n hn
                    have h2 := sum_le (r.sizes l1) (n + 1)
                    have h3 := r.sizes_sum l1
                    omega)
                  generalize (r.sizes l1).getD n 0 = sn at *
                  have FN2 : D.length + l.length < T + sn := by rw [HTE.out]; exact FN
                  have S0n : (0 : Int) ≤ (sn : Int) := by omega
                  have S1n : (sn : Int) ≤ 2500 := by have := SB.out; omega
                  have T1n : (T : Int) ≤ 2500 := by have := HTB.out; omega
                  have L2n : ((r.sizes l1).length : Int) ≤ 2500 := by have := HSL.out; omega
                  have n1n : (n : Int) < ((r.sizes l1).length : Int) := by omega
                  have t1 : (n : Int) < ((r.sizes l1).length : Int) - 1 := by omega
                  have t2 : ¬ (T : Int) + (sn : Int) ≤ (D.length : Int) + (l.length : Int) := by omega
                  clear FN FN2 hlast hn
                  have hr8 := hr7.out
                  go_wp2_with fail
                  go_roundw
                  case rel => exact ⟨A7, l.drop l.length, c - l.length, D ++ l.take l.length, P1, O ++ O1, i + 1, (by rw [HLD.out]; simp), by rw [HTE.out], (by rw [← HDC.out]; go_num), by rw [HNE.out], by go_num, by omega, Lib.hid (fun h => by rw [List.drop_length]), HCO⟩
                  case measure => simp [lenOf, intOf]; omega
                · have L2n : ((r.sizes l1).length : Int) ≤ 2500 := by have := HSL.out; omega
                  have L0n : (0 : Int) ≤ ((r.sizes l1).length : Int) := by omega
                  have t1 : ¬ (n : Int) < ((r.sizes l1).length : Int) - 1 := by omega
                  clear hlast
                  have hr8 := hr7.out
                  go_wp2_with fail
                  go_roundw
                  case rel => exact ⟨A7, l.drop l.length, c - l.length, D ++ l.take l.length, P1, O ++ O1, i + 1, (by rw [HLD.out]; simp), by rw [HTE.out], (by rw [← HDC.out]; go_num), by rw [HNE.out], by go_num, by omega, Lib.hid (fun h => by rw [List.drop_length]), HCO⟩
                  case measure => simp [lenOf, intOf]; omega
    · obtain rfl : j = 2 := by omega
      go_wp2_with fail
      go_ret
      exact ⟨rfl, H1.out⟩
end Go.Proofs.Ytigknaefdnejfaa
