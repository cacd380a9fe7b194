/- The laws' first question: hides. -/
import Derived.Test.YtklbbeilbpcnoaaTrn
import Derived.Laws.AppendOwnNone
import Derived.OwnWalk
namespace Go.Proofs.Ytklbbeilbpcnoaa
open Go.RowKit Sha Aes

theorem info_u8 : (Try.prog.info? 5).map (fun i => (i.zero, i.size, i.bytes)) = some (some (.int .u8 0), 1, 1) := by kernel_rfl
theorem grown_below {w w' : World} {base : Nat} {v : Value} {e : TypeId} {n : Nat} {xs : List Value} (h : w.ownsRow base e 1 v n xs) (hg : w.grownBy w' v.ownBlock) (hB : base ≤ w.heap.size) : Below base w w' :=
  (Below.refl base w).grown hg hB fun k hk => (h.lt k hk).1
/-- A row of bytes of the call's own. -/
def ownB (w : World) (base : Nat) (v : Value) (l : List UInt8) : Prop := w.ownsRow base 5 1 v l.length (byteCells l)
theorem ownB.form {w : World} {base : Nat} {v : Value} {l : List UInt8} (h : ownB w base v l) : ∃ a c, v = .slice a l.length c ∧ l.length ≤ c ∧ c ≤ 9223372036854775807 ∧ bytesIn w a l ∧ (a = none → c = 0) := by
  have hc := fun g hg => World.ownsRow.cells h (g := g) hg
  rcases h.2 with ⟨rfl, hn⟩ | ⟨g, cap, cur, rfl, _, _, hnc, hcm, _, _⟩
  · exact ⟨none, 0, by rw [hn], by omega, by decide, Or.inl (List.eq_nil_of_length_eq_zero hn), fun _ => rfl⟩
  · refine ⟨some ⟨g, 0, none⟩, cap, rfl, hnc, by unfold maxLen at hcm; omega, Or.inr ⟨g, 0, rfl, fun j hj => ?_⟩, fun h => by cases h⟩
    have := hc g rfl j (.int .u8 (V (l.getD j 0))) (byteCells_get _ _ hj)
    rwa [Addr.add_lit] at this
theorem ownB.other {w : World} {base : Nat} {v : Value} {l : List UInt8} (h : ownB w base v l) (a : Addr) (x : Value) (ha : a.block < base) : ownB (w.setCell a x) base v l := by
  refine ⟨h.1, ?_⟩
  rcases h.2 with hn | ⟨g, cap, cur, h1, h2, h3, rest⟩
  · exact .inl hn
  · exact .inr ⟨g, cap, cur, h1, h2, by rw [heap_setCell_other w a g x (by omega)]; exact h3, rest⟩
/-- The document's block, the first k places laid. -/
def fB : Nat → List UInt8
  | 0 => List.replicate 16 0
  | k + 1 => (fB k).set (k % 16) (UInt8.ofNat (17 * (k % 16)))
theorem fB_all : fB 32 = fipsBlock := by decide +kernel
theorem fB_length (k : Nat) : (fB k).length = 16 := by
  induction k with
  | zero => exact List.length_replicate
  | succ k ih => rw [fB]; simp [ih]
def fK (k : Nat) : List UInt8 := (List.range k).map UInt8.ofNat
theorem fK_all : fK 32 = fipsKey := rfl
theorem fK_length (k : Nat) : (fK k).length = k := by simp [fK]
theorem fK_succ (k : Nat) : fK (k + 1) = fK k ++ [UInt8.ofNat k] := by simp [fK, List.range_succ]
theorem byteCells_append (a b : List UInt8) : byteCells (a ++ b) = byteCells a ++ byteCells b := by simp [byteCells]
def fipsOut : List UInt8 := [0x8e, 0xa2, 0xb7, 0xca, 0x51, 0x67, 0x45, 0xbf, 0xea, 0xfc, 0x49, 0x90, 0x4b, 0x49, 0x60, 0x89]
theorem fips_first (X : World) : (Instr.index 23 (.agg (byteCells fipsOut).toArray) (.int .i64 0)).run Try.prog X = .ok (.int .u8 142) X := by kernel_rfl
theorem fips_last (X : World) : (Instr.index 23 (.agg (byteCells fipsOut).toArray) (.int .i64 15)).run Try.prog X = .ok (.int .u8 137) X := by kernel_rfl
theorem zeros_fB : zeros 16 = byteCells (fB 0) := zeros_bytes 16

set_option maxRecDepth 100000 in
set_option maxHeartbeats 4000000 in
theorem hides_any (w : World) : Calls Try.prog 11 #[] w fun e w' => e = .returned (.bool true) ∧ Below w.heap.size w w' := by
  have hz := zeroBlk
  have G0 := Lib.hid (blockIs.new w (zeros 16) 23)
  have A0 := Lib.hid (alloc_below w (.cells (zeros 16).toArray 23 (0, 0)))
  have S0 : Hid (w.heap.size + 1 ≤ (w.alloc (.cells (zeros 16).toArray 23 (0, 0))).heap.size) := Lib.hid (by simp)
  go_enter Try.func11, Try.ntmps11
  go_wp2_with fail
  generalize w.alloc (.cells (zeros 16).toArray 23 (0, 0)) = w1 at *
  rw [zeros_fB] at G0
  clear hz
  go_loopw [3, 1] (fun i v wr => ∃ k : Nat, k ≤ 32 ∧ i = .int .i64 k ∧ ownB wr (w.heap.size + 1) v (fK k) ∧ blockIs wr w.heap.size (byteCells (fB k)) 23 ∧ Below w.heap.size w wr ∧ w.heap.size + 1 ≤ wr.heap.size) (fun i _ _ => 32 - (intOf i).toNat)
  case atStart => exact ⟨0, by omega, rfl, World.ownsRow_nil _ _ _ _, G0.out, A0.out, S0.out⟩
  case round =>
    obtain ⟨k, hk, rfl, h1, h2, h3, h4⟩ := hrel
    have H1 := Lib.hid h1
    have H2 := Lib.hid h2
    have H3 := Lib.hid h3
    have H4 := Lib.hid h4
    clear h1 h2 h3 h4
    obtain ⟨i0, hi, hz0, hz1, hz2⟩ := info_parts info_u8
    have I0 := Lib.hid hi
    clear hi
    by_cases hlt : k < 32
    · have q : (k : Int) < 32 := by omega
      have e1 : IntKind.u8.wrap (k : Int) = V (UInt8.ofNat k) := by rw [IntKind.wrap_u8', V_ofNat]; omega
      obtain ⟨x, hx⟩ : ∃ x : UInt8, x = UInt8.ofNat k := ⟨_, rfl⟩
      have HX : Hid (fK (k + 1) = fK k ++ [x]) := Lib.hid (by rw [hx]; exact fK_succ k)
      rw [← hx] at e1
      clear hx
      have C1 := Lib.hid (blockIs.new wr [.int .u8 (V x)] 5)
      have O1 : Hid ((wr.alloc (.cells [.int .u8 (V x)].toArray 5 (0, 0))).ownsRow (w.heap.size + 1) 5 1 _ _ _) := Lib.hid (World.ownsRow.alloc H1.out (.cells [.int .u8 (V x)].toArray 5 (0, 0)))
      have K1 := Lib.hid (alloc_below wr (.cells [.int .u8 (V x)].toArray 5 (0, 0)))
      have NW : Hid (∀ (j : Nat) (u : Value), [Value.int .u8 (V x)][j]? = some u → (wr.alloc (.cells [.int .u8 (V x)].toArray 5 (0, 0))).cell? ((⟨wr.heap.size, 0, none⟩ : Addr).add j) = some u) := Lib.hid (fun j u hj => by rw [Addr.add_lit, Nat.zero_add, C1.out.cell]; exact hj)
      have OC : Hid (∀ u ∈ [Value.int .u8 (V x)], u.oneCell' = true) := Lib.hid (by simp [Value.oneCell'])
      go_upto_region 7 with (at_builtin; refine wpList_append_own _ rfl _ _ 28 rfl (w.heap.size + 1) 5 i0 (.int .u8 0) 1 1 Try.underlying28 I0.out hz0 hz1 hz2 rfl (by decide) _ (fK k).length (byteCells (fK k)) rfl O1.out ⟨wr.heap.size, 0, none⟩ 1 1 [.int .u8 (V x)] rfl rfl NW.out OC.out (by rw [fK_length]; unfold maxLen; omega) (by rw [fK_length]; omega) (Nat.le_trans H4.out K1.out.size) ?_; intro v' w' r1 r2 _; have O3 := Lib.hid r1; have K3 := Lib.hid (grown_below O1.out r2 (Nat.le_trans H4.out K1.out.size)); clear r1 r2)
      have O4 : Hid (ownB w' (w.heap.size + 1) v' (fK (k + 1))) := Lib.hid (by
        unfold ownB
        rw [HX.out, byteCells_append, List.length_append]
        exact O3.out)
      have K4 : Hid (Below (w.heap.size + 1) wr w') := Lib.hid ((K1.out.mono H4.out).trans K3.out)
      have H5 := Lib.hid (H2.out.below K4.out (Nat.lt_succ_self _))
      have H6 := Lib.hid (H3.out.trans (K4.out.mono (Nat.le_succ _)))
      have H7 := Lib.hid (Nat.le_trans H4.out K4.out.size)
      clear NW OC O1 O3 K1 K3 K4 C1 H1 H2 H3 H4 HX e1
      obtain ⟨m, hm⟩ : ∃ m : Nat, m = k % 16 := ⟨_, rfl⟩
      have m1 : m < 16 := by omega
      have m2 : (k : Int) % 16 = (m : Int) := by omega
      have k0 : (0 : Int) ≤ (k : Int) := by omega
      obtain ⟨y, hy⟩ : ∃ y : UInt8, y = UInt8.ofNat (17 * (k % 16)) := ⟨_, rfl⟩
      have m4 : IntKind.i64.wrap (17 * ((k : Int) % 16)) = 17 * ((k : Int) % 16) := IntWalk.i64_in _ (by omega)
      have m5 : IntKind.u8.wrap (17 * ((k : Int) % 16)) = V y := by rw [hy, IntKind.wrap_u8', V_ofNat]; omega
      have m6 : (k : Int) % 16 < 16 := by omega
      have m7 : 0 ≤ (k : Int) % 16 := by omega
      have m8 : ((k : Int) % 16).toNat = k % 16 := by omega
      have HFB : Hid (fB (k + 1) = (fB k).set (k % 16) y) := Lib.hid (by rw [hy, fB])
      clear m2 m1 hm hy
      have c1 : w'.cell? ⟨w.heap.size, k % 16, none⟩ = some _ := H5.out.at (k % 16) (by rw [byteCells_length, fB_length]; omega)
      have c2 := H5.out.free (k % 16)
      go_wp2_with fail
      go_roundw
      case rel =>
        refine ⟨k + 1, by omega, by go_num, O4.out.other _ _ (by show w.heap.size < _; omega), ?_, H6.out.setCell (Nat.le_refl _) _, ?_⟩
        · have := H5.out.set (k % 16) (.int .u8 (V y))
          rw [byteCells_set, ← HFB.out] at this
          exact this
        · simpa [World.setCell] using H7.out
      case measure => simp [intOf]; omega
    · obtain rfl : k = 32 := by omega
      rw [fK_all] at H1
      rw [fB_all] at H2
      have hf := fips
      obtain ⟨a, c, rfl, d1, d2, d3, _⟩ := H1.out.form
      have HM := Lib.hid (make_any a c fipsKey wr rfl d3)
      clear d1 d2 d3 H1
      obtain ⟨ws, hws⟩ : ∃ ws, ws = Aes.words fipsKey 60 := ⟨_, rfl⟩
      rw [← hws] at HM hf
      clear hws
      have HL : Hid (fipsBlock.length = 16) := Lib.hid rfl
      generalize fipsKey = FK at *
      generalize fipsBlock = FB at *
      have HF := Lib.hid hf
      clear hf
      go_wp2_with fail
      with_reducible refine HM.out.mono ?_
      rintro e w2 ⟨g, rfl, hg, hk, kk⟩
      have KK := Lib.hid hk
      have E2 := Lib.hid (H2.out.below kk (Nat.lt_of_lt_of_le (Nat.lt_succ_self _) H4.out))
      have B2 := Lib.hid (H3.out.trans (kk.mono H3.out.size))
      have R2 := Lib.hid (range_of E2.out)
      clear hg hk kk HM
      have HT := Lib.hid (fun X (h : blockIs X g (keyRow ws) 59) => turn_any g ws FB X HL.out h)
      rw [HF.out] at HT
      have x0 := fips_first
      have x15 := fips_last
      have HBL : Hid ((byteCells FB).length = 16) := Lib.hid (by rw [byteCells_length]; exact HL.out)
      change Hid (∀ X, blockIs X g (keyRow ws) 59 → Calls Try.prog 13 #[.pointer (some ⟨g, 0, none⟩), .agg (byteCells FB).toArray] X fun e w' => e = .returned (.agg (byteCells fipsOut).toArray) ∧ Below X.heap.size X w') at HT
      generalize byteCells FB = LB at *
      generalize (byteCells fipsOut).toArray = LO at *
      go_wp2_with (refine wpList_load_mid_if (by rfl) 23 _ rfl w.heap.size 0 rfl LB _ R2.out Try.underlying23 rfl (by rw [infoBlk, HBL.out]) ?_)
      with_reducible refine (HT.out w2 KK.out).mono ?_
      rintro e w3 ⟨rfl, kk⟩
      have K3 := Lib.hid (KK.out.below kk KK.out.lt)
      have R3 := Lib.hid (range_of (E2.out.below kk E2.out.lt))
      have B3 := Lib.hid (B2.out.trans (kk.mono B2.out.size))
      clear kk KK E2 B2 R2
      go_wp2_with (refine wpList_load_mid_if (by rfl) 23 _ rfl w.heap.size 0 rfl LB _ R3.out Try.underlying23 rfl (by rw [infoBlk, HBL.out]) ?_)
      with_reducible refine (HT.out w3 K3.out).mono ?_
      rintro e w4 ⟨rfl, kk⟩
      have B4 := Lib.hid (B3.out.trans (kk.mono B3.out.size))
      clear kk K3 B3 R3
      go_wp2_with fail
      go_ret
      exact ⟨rfl, B4.out⟩
end Go.Proofs.Ytklbbeilbpcnoaa
