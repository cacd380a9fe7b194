/- hypogeumref02.Turn: the document's AES-256. -/
import Derived.Test.YtjkhokholcchfaaDoorGl
import Derived.Deep.RegionHeld3
import Derived.Deep.DeepCutAuto
import Derived.Test.YtjkhokholcchfaaDoorGk
import Derived.Test.YtjkhokholcchfaaDoorGj
section
namespace Go.Proofs.YtjkhokholcchfaaDoor.Ci
open Go.RowKit Sha Aes

def cellsV (f : Nat → UInt8) : List Value := (List.range 16).map fun j => .int .i64 (V (f j))
theorem cellsV_length (f : Nat → UInt8) : (cellsV f).length = 16 := by simp [cellsV]
theorem cellsV_get (f : Nat → UInt8) (k : Nat) (h : k < 16) : (cellsV f)[k]? = some (.int .i64 (V (f k))) := by simp [cellsV, h]
def upto (q : Nat) (f g : Nat → UInt8) : Nat → UInt8 := fun j => if j < q then f j else g j
theorem cellsV_next (f g : Nat → UInt8) (q : Nat) (h : q < 16) : (cellsV (upto q f g)).set q (.int .i64 (V (f q))) = cellsV (upto (q + 1) f g) := by
  unfold cellsV
  rw [range_set _ _ _ h]
  apply List.map_congr_left
  intro j _
  unfold upto
  by_cases e : j = q
  · subst e; simp
  · by_cases h : j < q
    · simp [e, h, show j < q + 1 by omega]
    · simp [e, h, show ¬ j < q + 1 by omega]
theorem cellsV_all (f g : Nat → UInt8) : cellsV (upto 16 f g) = cellsV f := by
  unfold cellsV
  apply List.map_congr_left
  intro j hj
  unfold upto
  rw [if_pos (List.mem_range.1 hj)]
theorem upto_zero (f g : Nat → UInt8) : upto 0 f g = g := by funext j; simp [upto]
def fn (l : List UInt8) : Nat → UInt8 := fun j => l.getD j 0
theorem fn_range (F : Nat → UInt8) (q : Nat) (h : q < 16) : fn ((List.range 16).map F) q = F q := by simp [fn, h]
theorem sv_at {w : World} {b : Nat} {f : Nat → UInt8} {t : TypeId} (h : blockIs w b (cellsV f) t) (c r : Nat) (hq : 4 * c + r < 16) : w.cell? ⟨b, c * 4 + r, none⟩ = some (.int .i64 (V (f (4 * c + r)))) := by
  rw [h.cell, show c * 4 + r = 4 * c + r by omega, cellsV_get _ _ hq]
theorem set_keep {w : World} {b t o o' : Nat} {v x : Value} (h : b ≠ t) (hc : w.cell? ⟨b, o, none⟩ = some v) : (w.setCell ⟨t, o', none⟩ x).drew.cell? ⟨b, o, none⟩ = some v := by
  show (w.setCell ⟨t, o', none⟩ x).cell? ⟨b, o, none⟩ = some v
  rw [← hc]
  exact World.cell?_setCell_other (h := by intro e; cases e; exact h rfl) ..
theorem cellsV_one (f : Nat → UInt8) : ∀ v ∈ cellsV f, v.oneCell' = true := by
  intro v hv
  obtain ⟨j, _, rfl⟩ := List.mem_map.1 hv
  rfl
theorem zero75 (w : World) : (zeroValue 141).run Tryd.prog w = .ok (.agg (cellsV (fun _ => 0)).toArray) w := by kernel_rfl
theorem info75 : (Tryd.prog.info? 141).map (·.size) = some 16 := by kernel_rfl
theorem times_two (y : UInt8) (X : World) : Calls Tryd.prog 58 #[.int .i64 (V y), .int .i64 2] X fun e w' => e = .returned (.int .i64 (V (xt y))) ∧ X = w' := by
  have h := times_any y.toNat 2 X y.toNat_lt (by decide)
  rw [tm_two] at h
  exact h
theorem times_three (y : UInt8) (X : World) : Calls Tryd.prog 58 #[.int .i64 (V y), .int .i64 3] X fun e w' => e = .returned (.int .i64 (V (xt y ^^^ y))) ∧ X = w' := by
  have h := times_any y.toNat 3 X y.toNat_lt (by decide)
  rw [tm_three] at h
  exact h
theorem _root_.Go.Proofs.YtjkhokholcchfaaDoor.But.new {b t : Nat} {x y z : World} (h : But b x y) (k : But t y z) (ht : x.heap.size ≤ t) : But b x z :=
  ⟨k.os.trans h.os, k.tape.trans h.tape, k.output.trans h.output, Nat.le_trans h.size k.size, fun i hi hn => (k.block i (Nat.lt_of_lt_of_le hi h.size) (by omega)).trans (h.block i hi hn)⟩
/-- The document's key, ready. -/
def keyIs (w : World) (kb g : Nat) (K : List UInt8) : Prop := blockIs w kb (docKey g (keyF K 240)) 118 ∧ blockIs w g (cellsI (boxF 256) 256) 3

set_option maxRecDepth 100000 in
set_option maxHeartbeats 8000000 in
theorem docTurn_any (kb g : Nat) (K b : List UInt8) (w : World) (hb : b.length = 16) (hk : keyIs w kb g K) :
    Calls Tryd.prog 59 #[.pointer (some ⟨kb, 0, none⟩), .string (str b)] w fun e w' => e = .returned (.string (str (Aes.turn (Aes.words K 60) b))) ∧ Below w.heap.size w w' := by
  have HBL := Lib.hid hb
  have HK1 := Lib.hid hk.1
  have HK2 := Lib.hid hk.2
  have hkl : kb < w.heap.size := hk.1.lt
  have hgl : g < w.heap.size := hk.2.lt
  have HT : Hid (Aes.turn (Aes.words K 60) b = turnR (Aes.words K 60) b) := Lib.hid (turnR_eq _ b hb).symm
  clear hb hk
  have hz := zero75
  go_enter Tryd.func59, Tryd.ntmps59
  go_wp2_with fail
  have S0 := Lib.hid (blockIs.new w (cellsV (fun _ => 0)) 141)
  have A0 := Lib.hid (alloc_below w (.cells (cellsV (fun _ => 0)).toArray 141 (0, 0)))
  generalize w.alloc (.cells (cellsV (fun _ => 0)).toArray 141 (0, 0)) = w2 at *
  have K1 := Lib.hid (HK1.out.below A0.out hkl)
  have K2 := Lib.hid (HK2.out.below A0.out hgl)
  have SZ : Hid (w.heap.size < w2.heap.size) := Lib.hid S0.out.lt
  rw [← upto_zero (fn (addR (Aes.words K 60) 0 b)) (fun _ => 0)] at S0
  clear HK1 HK2
  go_loopw [6] (fun i wr => ∃ i' : Nat, i' ≤ 16 ∧ i = .int .i64 i' ∧ blockIs wr w.heap.size (cellsV (upto i' (fn (addR (Aes.words K 60) 0 b)) (fun _ => 0))) 141 ∧ But w.heap.size w2 wr) (fun i _ => (16 - intOf i).toNat)
  case atStart => exact ⟨0, by omega, rfl, S0.out, But.refl _ _⟩
  case round =>
    obtain ⟨i, hi, rfl, h1, h2⟩ := hrel
    have H1 := Lib.hid h1
    have H2 := Lib.hid h2
    clear h1 h2
    by_cases hlt : i < 16
    · have q16 : (i : Int) < 16 := by omega
      have p0 : 0 ≤ (i : Int) := by omega
      have HF : Hid (fn (addR (Aes.words K 60) 0 b) i = b.getD i 0 ^^^ lane (wd K (i / 4)) (i % 4)) := Lib.hid (by
        unfold addR; rw [fn_range _ _ hlt, show 4 * 0 + i / 4 = i / 4 by omega]; rfl)
      have HN := Lib.hid (cellsV_next (fn (addR (Aes.words K 60) 0 b)) (fun _ => 0) i hlt)
      rw [HF.out] at HN
      have R1 := Lib.hid (H2.out.is K1.out (Nat.ne_of_lt hkl))
      have c1 := key_at R1.out (i / 4) (i % 4) (by omega) (by omega) (by omega)
      have ix := fun X => index_str b i (by rw [HBL.out]; exact hlt) X
      obtain ⟨a, ha⟩ : ∃ a, a = i / 4 := ⟨_, rfl⟩
      obtain ⟨r, hr⟩ : ∃ r, r = i % 4 := ⟨_, rfl⟩
      rw [← ha, ← hr] at c1 HN
      have a1 : (i : Int) / 4 = (a : Int) := by omega
      have r1 : (i : Int) % 4 = (r : Int) := by omega
      have wa : IntKind.i64.wrap (a : Int) = (a : Int) := IntWalk.i64_in _ (by omega)
      have rt : (i : Int).tmod 4 = (r : Int) := by rw [Int.tmod_eq_emod_of_nonneg p0]; omega
      have a4 : (a : Int) < 4 := by omega
      have a60 : (a : Int) < 60 := by omega
      have r4 : (r : Int) < 4 := by omega
      have ei : i = a * 4 + r := by omega
      have f1 : wr.frozen? ⟨w.heap.size, a * 4 + r, none⟩ = false := H1.out.free _
      obtain ⟨z, f2⟩ : ∃ z, wr.cell? ⟨w.heap.size, a * 4 + r, none⟩ = some z := ⟨_, H1.out.at (a * 4 + r) (by rw [cellsV_length]; omega)⟩
      have HE := Lib.hid ei
      clear ha hr ei HF
      generalize lane (wd K a) r = y at *
      generalize b.getD i 0 = x at *
      have vx : IntKind.i64.wrap (V x) = V x := IntWalk.i64_in _ (by have := V_nonneg x; have := V_lt x; omega)
      have xy := V_xor64 x y
      generalize x ^^^ y = z1 at *
      go_wp2_with fail
      go_still_tail 21, (by kernel_rfl)
      change wpList _ _ _ _ _ wr.drew
      go_wp2_with fail
      go_roundw
      case rel =>
        refine ⟨i + 1, by omega, by go_num, ?_, (H2.out.drewN 1).setCell _ _ (Or.inl rfl)⟩
        have hs := blockIs.set (w := (wr.drewN 1)) H1.out i (.int .i64 (V z1))
        rw [HN.out] at hs
        rw [← HE.out]
        exact hs
      case measure => simp [intOf]; omega
    · have HI := Lib.hid (show i = 16 by omega)
      have q16 : ¬ (i : Int) < 16 := by omega
      rw [HI.out, cellsV_all] at H1
      clear hi hlt
      have B1 : Hid (Below w.heap.size w wr) := Lib.hid (A0.out.trans (H2.out.below (Nat.le_refl _) (Nat.le_of_lt SZ.out)))
      have K1r := Lib.hid (H2.out.is K1.out (Nat.ne_of_lt hkl))
      have K2r := Lib.hid (H2.out.is K2.out (Nat.ne_of_lt hgl))
      clear H2 K1 K2 A0 S0 SZ
      obtain ⟨wo, hwo⟩ : ∃ wo, wo = wr := ⟨_, rfl⟩
      subst hwo
      go_wp2_with fail
      go_loopw [7] (fun n wx => ∃ n' : Nat, n' ≤ 14 ∧ n = .int .i64 ((n' : Int) + 1) ∧ blockIs wx w.heap.size (cellsV (fn (roundsR (Aes.words K 60) n' (addR (Aes.words K 60) 0 b)))) 141 ∧ But w.heap.size wo wx) (fun n _ => (15 - intOf n).toNat)
      case atStart => exact ⟨0, by omega, rfl, H1.out, But.refl _ _⟩
      case round =>
        obtain ⟨n, hn, rfl, h1, h2⟩ := hrel
        have H1 := Lib.hid h1
        have H2 := Lib.hid h2
        clear h1 h2
        by_cases hln : n < 14
        · obtain ⟨L, hL⟩ : ∃ L, L = roundsR (Aes.words K 60) n (addR (Aes.words K 60) 0 b) := ⟨_, rfl⟩
          have HR : Hid (roundsR (Aes.words K 60) (n + 1) (addR (Aes.words K 60) 0 b) = addR (Aes.words K 60) (n + 1) (if n + 1 < 14 then mixR (shiftR L) else shiftR L)) := Lib.hid (by rw [hL]; rfl)
          rw [← hL] at H1
          clear hL
          have qn : (n : Int) + 1 < 15 := by omega
          go_wp2_with fail
          have T3 := Lib.hid (blockIs.new wr (cellsV (fun _ => 0)) 141)
          have S3 := Lib.hid (H1.out.alloc (.cells (cellsV (fun _ => 0)).toArray 141 (0, 0)))
          have B3 := Lib.hid (H2.out.alloc (.cells (cellsV (fun _ => 0)).toArray 141 (0, 0)))
          have TS : Hid (w.heap.size ≠ wr.heap.size) := Lib.hid (Nat.ne_of_lt H1.out.lt)
          have TL : Hid (w.heap.size < wr.heap.size) := Lib.hid H1.out.lt
          generalize wr.alloc (.cells (cellsV (fun _ => 0)).toArray 141 (0, 0)) = w3 at *
          have TX : Hid (wo.heap.size ≤ wr.heap.size) := Lib.hid H2.out.size
          generalize wr.heap.size = tb at *
          have TK : Hid (kb ≠ tb) := Lib.hid (by have := TL.out; omega)
          have TG : Hid (g ≠ tb) := Lib.hid (by have := TL.out; omega)
          have K3 := Lib.hid (B3.out.is K1r.out (Nat.ne_of_lt hkl))
          have G3 := Lib.hid (B3.out.is K2r.out (Nat.ne_of_lt hgl))
          rw [← upto_zero (fn (shiftR L)) (fun _ => 0)] at T3
          clear H1 H2
          go_loopw [9] (fun c wx => ∃ c' : Nat, c' ≤ 4 ∧ c = .int .i64 c' ∧ blockIs wx tb (cellsV (upto (4 * c') (fn (shiftR L)) (fun _ => 0))) 141 ∧ But tb w3 wx) (fun c _ => (4 - intOf c).toNat)
          case atStart => exact ⟨0, by omega, rfl, T3.out, But.refl _ _⟩
          case round =>
            obtain ⟨c, hc4, rfl, h1, h2⟩ := hrel
            have H1 := Lib.hid h1
            have H2 := Lib.hid h2
            clear h1 h2
            by_cases hlc : c < 4
            · have qc : (c : Int) < 4 := by omega
              go_wp2_with fail
              go_loopw [10] (fun r wx => ∃ r' : Nat, r' ≤ 4 ∧ r = .int .i64 r' ∧ blockIs wx tb (cellsV (upto (4 * c + r') (fn (shiftR L)) (fun _ => 0))) 141 ∧ But tb w3 wx) (fun r _ => (4 - intOf r).toNat)
              case atStart => exact ⟨0, by omega, rfl, H1.out, H2.out⟩
              case round =>
                obtain ⟨r, hr4, rfl, h1, h2⟩ := hrel
                have H1 := Lib.hid h1
                have H2 := Lib.hid h2
                clear h1 h2
                by_cases hlr : r < 4
                · have qr : (r : Int) < 4 := by omega
                  have pc : 0 ≤ (c : Int) := by omega
                  have pr : 0 ≤ (r : Int) := by omega
                  have HN := Lib.hid (cellsV_next (fn (shiftR L)) (fun _ => 0) (4 * c + r) (by omega))
                  have f1 : wr.frozen? ⟨tb, c * 4 + r, none⟩ = false := H1.out.free _
                  obtain ⟨z, f2⟩ : ∃ z, wr.cell? ⟨tb, c * 4 + r, none⟩ = some z := ⟨_, H1.out.at (c * 4 + r) (by rw [cellsV_length]; omega)⟩
                  have HF : Hid (fn (shiftR L) (4 * c + r) = sub (L.getD (4 * ((c + r) % 4) + r) 0)) := Lib.hid (by
                    unfold shiftR; rw [fn_range _ _ (by omega), show (4 * c + r) / 4 = c by omega, show (4 * c + r) % 4 = r by omega])
                  rw [HF.out] at HN
                  obtain ⟨e, he⟩ : ∃ e, e = (c + r) % 4 := ⟨_, rfl⟩
                  rw [← he] at HN
                  have e1 : ((c : Int) + (r : Int)) % 4 = (e : Int) := by omega
                  have w1 : IntKind.i64.wrap ((c : Int) + (r : Int)) = (c : Int) + (r : Int) := IntWalk.i64_in _ (by omega)
                  have p1 : 0 ≤ (c : Int) + (r : Int) := by omega
                  have et : ((c : Int) + (r : Int)).tmod 4 = (e : Int) := by rw [Int.tmod_eq_emod_of_nonneg p1]; exact e1
                  have qe : (e : Int) < 4 := by omega
                  have S3r := Lib.hid (H2.out.is S3.out TS.out)
                  have K3r := Lib.hid (H2.out.is K3.out TK.out)
                  have G3r := Lib.hid (H2.out.is G3.out TG.out)
                  have c1 := sv_at S3r.out e r (by omega)
                  rw [show fn L (4 * e + r) = L.getD (4 * e + r) 0 from rfl] at c1
                  have cb := key_box K3r.out
                  clear he HF
                  generalize L.getD (4 * e + r) 0 = y at *
                  have x1 := box_at G3r.out y
                  have n1 : (V y).toNat = y.toNat := V_natx y
                  have u1 := V_nonneg y
                  have v1 := V_lt y
                  generalize sub y = z1 at *
                  go_wp2_with fail
                  go_still_tail 18, (by kernel_rfl)
                  change wpList _ _ _ _ _ wr.drew
                  go_wp2_with fail
                  go_roundw
                  case rel =>
                    have hs := blockIs.set (w := (wr.drewN 1)) H1.out (4 * c + r) (.int .i64 (V z1))
                    rw [HN.out, show 4 * c + r = c * 4 + r by omega] at hs
                    rw [show c * 4 + r + 1 = 4 * c + (r + 1) by omega] at hs
                    refine ⟨r + 1, by omega, by go_num, ?_, ?_⟩
                    · exact hs
                    · first | exact (H2.out.drewN 1).setCell _ _ (Or.inl rfl) | exact (H2.out.setCell _ _ (Or.inl rfl)).drewN 1
                  case measure => simp [intOf]; omega
                · obtain rfl : r = 4 := by omega
                  go_wp2_with fail
                  go_roundw
                  case rel => exact ⟨c + 1, by omega, by go_num, H1.out, H2.out⟩
                  case measure => simp [intOf]; omega
            · have HC := Lib.hid (show c = 4 by omega)
              have qc : ¬ (c : Int) < 4 := by omega
              rw [HC.out, show 4 * 4 = 16 from rfl, cellsV_all] at H1
              clear hc4 hlc
              have S4 := Lib.hid (H2.out.is S3.out TS.out)
              have B4 := Lib.hid (B3.out.new H2.out TX.out)
              obtain ⟨w4, hw4⟩ : ∃ w4, w4 = wr := ⟨_, rfl⟩
              subst hw4
              clear S3 B3 T3 K3 G3 H2
              obtain ⟨T, hT⟩ : ∃ T, T = (if n + 1 < 14 then mixR (shiftR L) else shiftR L) := ⟨_, rfl⟩
              rw [← hT] at HR
              have HTT := Lib.hid hT
              clear hT
              go_upto_if 74 with fail
              go_cut [11] (fun _ wx => blockIs wx tb (cellsV (fn T)) 141 ∧ But tb w4 wx)
              case first =>
                by_cases h14 : n + 1 < 14
                · have b14 : (n : Int) + 1 < 14 := by omega
                  have HT1 : Hid (T = mixR (shiftR L)) := Lib.hid (by rw [HTT.out, if_pos h14])
                  generalize shiftR L = T0 at *
                  have R4 := Lib.hid (range_of H1.out)
                  have N5 := Lib.hid (blockIs.new w4 (cellsV (fun _ => 0)) 141)
                  have T5 := Lib.hid (H1.out.alloc (.cells (cellsV (fun _ => 0)).toArray 141 (0, 0)))
                  have B5 : Hid (But tb w4 (w4.alloc (.cells (cellsV (fun _ => 0)).toArray 141 (0, 0)))) := Lib.hid ((But.refl tb w4).alloc _)
                  have UL : Hid (tb < w4.heap.size) := Lib.hid H1.out.lt
                  go_wp2_with (first | (refine wpList_load_mid rfl 141 _ rfl tb 0 rfl (cellsV (fn T0)) _ R4.out Tryd.underlying141 rfl (by rw [info75, cellsV_length]) ?_) | (refine wpList_store_block rfl 141 _ _ rfl w4.heap.size 0 (cellsV (fn T0)) rfl rfl (cellsV (fun _ => 0)) 141 N5.out (by rw [info75, cellsV_length]) (by rw [cellsV_length, cellsV_length]; decide) (cellsV_one _) ?_))
                  intro w6 k1 k2 k3
                  have k1 := k1.out
                  rw [splice_all _ _ (by rw [cellsV_length, cellsV_length])] at k1
                  have U6 := Lib.hid k1
                  have T6 := Lib.hid (k2.out.is T5.out (Nat.ne_of_lt UL.out))
                  have B6 := Lib.hid (B5.out.new k2.out (Nat.le_refl _))
                  clear k1 k2 k3 T5 B5 N5 R4
                  have UT : Hid (w4.heap.size ≠ tb) := Lib.hid (Nat.ne_of_gt UL.out)
                  generalize w4.heap.size = ub at *
                  rw [← upto_zero (fn (mixR T0)) (fn T0)] at T6
                  clear H1 UL
                  go_wp2_with fail
                  go_loopw [12] (fun c wx => ∃ c' : Nat, c' ≤ 4 ∧ c = .int .i64 c' ∧ blockIs wx tb (cellsV (upto (4 * c') (fn (mixR T0)) (fn T0))) 141 ∧ But tb w6 wx) (fun c _ => (4 - intOf c).toNat)
                  case atStart => exact ⟨0, by omega, rfl, T6.out, But.refl _ _⟩
                  case round =>
                    obtain ⟨c, hc4, rfl, h1, h2⟩ := hrel
                    have H1 := Lib.hid h1
                    have H2 := Lib.hid h2
                    clear h1 h2
                    by_cases hlc : c < 4
                    · have qc : (c : Int) < 4 := by omega
                      go_wp2_with fail
                      go_loopw [13] (fun r wx => ∃ r' : Nat, r' ≤ 4 ∧ r = .int .i64 r' ∧ blockIs wx tb (cellsV (upto (4 * c + r') (fn (mixR T0)) (fn T0))) 141 ∧ But tb w6 wx) (fun r _ => (4 - intOf r).toNat)
                      case atStart => exact ⟨0, by omega, rfl, H1.out, H2.out⟩
                      case round =>
                        obtain ⟨r, hr4, rfl, h1, h2⟩ := hrel
                        have H1 := Lib.hid h1
                        have H2 := Lib.hid h2
                        clear h1 h2
                        by_cases hlr : r < 4
                        · have qr : (r : Int) < 4 := by omega
                          have pc : 0 ≤ (c : Int) := by omega
                          have pr : 0 ≤ (r : Int) := by omega
                          have HN := Lib.hid (cellsV_next (fn (mixR T0)) (fn T0) (4 * c + r) (by omega))
                          have f1 : wr.frozen? ⟨tb, c * 4 + r, none⟩ = false := H1.out.free _
                          obtain ⟨z, f2⟩ : ∃ z, wr.cell? ⟨tb, c * 4 + r, none⟩ = some z := ⟨_, H1.out.at (c * 4 + r) (by rw [cellsV_length]; omega)⟩
                          have HF : Hid (fn (mixR T0) (4 * c + r) = mx (T0.getD (4 * c + r) 0) (T0.getD (4 * c + (r + 1) % 4) 0) (T0.getD (4 * c + (r + 2) % 4) 0) (T0.getD (4 * c + (r + 3) % 4) 0)) := Lib.hid (by
                            unfold mixR; rw [fn_range _ _ (by omega), show (4 * c + r) / 4 = c by omega, show (4 * c + r) % 4 = r by omega])
                          rw [HF.out] at HN
                          obtain ⟨d1, hd1⟩ : ∃ e, e = (r + 1) % 4 := ⟨_, rfl⟩
                          obtain ⟨d2, hd2⟩ : ∃ e, e = (r + 2) % 4 := ⟨_, rfl⟩
                          obtain ⟨d3, hd3⟩ : ∃ e, e = (r + 3) % 4 := ⟨_, rfl⟩
                          rw [← hd1, ← hd2, ← hd3] at HN
                          have e1 : ((r : Int) + 1) % 4 = (d1 : Int) := by omega
                          have e2 : ((r : Int) + 2) % 4 = (d2 : Int) := by omega
                          have e3 : ((r : Int) + 3) % 4 = (d3 : Int) := by omega
                          have w1 : IntKind.i64.wrap ((r : Int) + 1) = (r : Int) + 1 := IntWalk.i64_in _ (by omega)
                          have w2' : IntKind.i64.wrap ((r : Int) + 2) = (r : Int) + 2 := IntWalk.i64_in _ (by omega)
                          have w3' : IntKind.i64.wrap ((r : Int) + 3) = (r : Int) + 3 := IntWalk.i64_in _ (by omega)
                          have p1 : 0 ≤ (r : Int) + 1 := by omega
                          have p2 : 0 ≤ (r : Int) + 2 := by omega
                          have p3 : 0 ≤ (r : Int) + 3 := by omega
                          have t1 : ((r : Int) + 1).tmod 4 = (d1 : Int) := by rw [Int.tmod_eq_emod_of_nonneg p1]; exact e1
                          have t2 : ((r : Int) + 2).tmod 4 = (d2 : Int) := by rw [Int.tmod_eq_emod_of_nonneg p2]; exact e2
                          have t3 : ((r : Int) + 3).tmod 4 = (d3 : Int) := by rw [Int.tmod_eq_emod_of_nonneg p3]; exact e3
                          have q1 : (d1 : Int) < 4 := by omega
                          have q2 : (d2 : Int) < 4 := by omega
                          have q3 : (d3 : Int) < 4 := by omega
                          have U6r := Lib.hid (H2.out.is U6.out UT.out)
                          have c0 := sv_at U6r.out c r (by omega)
                          have c1 := sv_at U6r.out c d1 (by omega)
                          have c2 := sv_at U6r.out c d2 (by omega)
                          have c3 := sv_at U6r.out c d3 (by omega)
                          rw [show fn T0 (4 * c + r) = T0.getD (4 * c + r) 0 from rfl] at c0
                          rw [show fn T0 (4 * c + d1) = T0.getD (4 * c + d1) 0 from rfl] at c1
                          rw [show fn T0 (4 * c + d2) = T0.getD (4 * c + d2) 0 from rfl] at c2
                          rw [show fn T0 (4 * c + d3) = T0.getD (4 * c + d3) 0 from rfl] at c3
                          clear hd1 hd2 hd3 HF
                          generalize T0.getD (4 * c + r) 0 = y0 at *
                          generalize T0.getD (4 * c + d1) 0 = y1 at *
                          generalize T0.getD (4 * c + d2) 0 = y2 at *
                          generalize T0.getD (4 * c + d3) 0 = y3 at *
                          have PA := Lib.hid (fun X => times_two y0 X)
                          have PB := Lib.hid (fun X => times_three y1 X)
                          have HM : Hid (mx y0 y1 y2 y3 = ((xt y0 ^^^ (xt y1 ^^^ y1)) ^^^ y2) ^^^ y3) := Lib.hid rfl
                          rw [HM.out] at HN
                          generalize xt y0 = a0 at *
                          generalize xt y1 ^^^ y1 = a1 at *
                          have x1 := V_xor64 a0 a1
                          generalize a0 ^^^ a1 = a2 at *
                          have x2 := V_xor64 a2 y2
                          generalize a2 ^^^ y2 = a3 at *
                          have x3 := V_xor64 a3 y3
                          generalize a3 ^^^ y3 = z1 at *
                          clear HM
                          go_wp2_with fail
                          go_region_held3 (fun w' => w'.cell? ⟨ub, c * 4 + r, none⟩ = some (.int .i64 (V y0)) ∧ w'.cell? ⟨ub, c * 4 + d1, none⟩ = some (.int .i64 (V y1)) ∧ w'.cell? ⟨ub, c * 4 + d2, none⟩ = some (.int .i64 (V y2)) ∧ w'.cell? ⟨ub, c * 4 + d3, none⟩ = some (.int .i64 (V y3)))
                            (first | exact ⟨c0, c1, c2, c3⟩ | exact ⟨set_keep UT.out c0, set_keep UT.out c1, set_keep UT.out c2, set_keep UT.out c3⟩ | go_keep)
                            (first
                            | (go_at_call 58
                               with_reducible refine (PA.out _).mono ?_
                               rintro e w' ⟨rfl, rfl⟩)
                            | (go_at_call 58
                               with_reducible refine (PB.out _).mono ?_
                               rintro e w' ⟨rfl, rfl⟩))
                          go_wp2_with fail
                          go_roundw
                          case rel =>
                            have hs := blockIs.set (w := (wr.drewN 1)) H1.out (4 * c + r) (.int .i64 (V z1))
                            rw [HN.out, show 4 * c + r = c * 4 + r by omega] at hs
                            rw [show c * 4 + r + 1 = 4 * c + (r + 1) by omega] at hs
                            refine ⟨r + 1, by omega, by go_num, ?_, ?_⟩
                            · exact hs
                            · first | exact (H2.out.drewN 1).setCell _ _ (Or.inl rfl) | exact (H2.out.setCell _ _ (Or.inl rfl)).drewN 1
                          case measure => simp [intOf]; omega
                        · obtain rfl : r = 4 := by omega
                          go_wp2_with fail
                          go_roundw
                          case rel => exact ⟨c + 1, by omega, by go_num, H1.out, H2.out⟩
                          case measure => simp [intOf]; omega
                    · have HC2 := Lib.hid (show c = 4 by omega)
                      have qc : ¬ (c : Int) < 4 := by omega
                      rw [HC2.out, show 4 * 4 = 16 from rfl, cellsV_all] at H1
                      go_wp2_with fail
                      go_meet
                      case rel => exact ⟨by rw [HT1.out]; exact H1.out, B6.out.trans H2.out⟩
                · have b14 : ¬ (n : Int) + 1 < 14 := by omega
                  have HT1 : Hid (T = shiftR L) := Lib.hid (by rw [HTT.out, if_neg h14])
                  go_wp2_with fail
                  go_meet
                  case rel => exact ⟨by rw [HT1.out]; exact H1.out, But.refl _ _⟩
              case rest =>
                obtain ⟨h1, h2⟩ := hcut
                have T7 := Lib.hid h1
                have S7 := Lib.hid (h2.is S4.out TS.out)
                have B7 := Lib.hid (B4.out.new h2 TX.out)
                have K7 := Lib.hid (B7.out.is K1r.out (Nat.ne_of_lt hkl))
                clear h1 h2 H1 S4 B4 HTT
                rw [← upto_zero (fn (addR (Aes.words K 60) (n + 1) T)) (fn L)] at S7
                obtain ⟨w7, hw7⟩ : ∃ w7, w7 = wc := ⟨_, rfl⟩
                subst hw7
                go_wp2_with fail
                go_loopw [14] (fun c wx => ∃ c' : Nat, c' ≤ 4 ∧ c = .int .i64 c' ∧ blockIs wx w.heap.size (cellsV (upto (4 * c') (fn (addR (Aes.words K 60) (n + 1) T)) (fn L))) 141 ∧ But w.heap.size w7 wx) (fun c _ => (4 - intOf c).toNat)
                case atStart => exact ⟨0, by omega, rfl, S7.out, But.refl _ _⟩
                case round =>
                  obtain ⟨c, hc4, rfl, h1, h2⟩ := hrel
                  have H1 := Lib.hid h1
                  have H2 := Lib.hid h2
                  clear h1 h2
                  by_cases hlc : c < 4
                  · have qc : (c : Int) < 4 := by omega
                    go_wp2_with fail
                    go_loopw [15] (fun r wx => ∃ r' : Nat, r' ≤ 4 ∧ r = .int .i64 r' ∧ blockIs wx w.heap.size (cellsV (upto (4 * c + r') (fn (addR (Aes.words K 60) (n + 1) T)) (fn L))) 141 ∧ But w.heap.size w7 wx) (fun r _ => (4 - intOf r).toNat)
                    case atStart => exact ⟨0, by omega, rfl, H1.out, H2.out⟩
                    case round =>
                      obtain ⟨r, hr4, rfl, h1, h2⟩ := hrel
                      have H1 := Lib.hid h1
                      have H2 := Lib.hid h2
                      clear h1 h2
                      by_cases hlr : r < 4
                      · have qr : (r : Int) < 4 := by omega
                        have pc : 0 ≤ (c : Int) := by omega
                        have pr : 0 ≤ (r : Int) := by omega
                        have HN := Lib.hid (cellsV_next (fn (addR (Aes.words K 60) (n + 1) T)) (fn L) (4 * c + r) (by omega))
                        have f1 : wr.frozen? ⟨w.heap.size, c * 4 + r, none⟩ = false := H1.out.free _
                        obtain ⟨z, f2⟩ : ∃ z, wr.cell? ⟨w.heap.size, c * 4 + r, none⟩ = some z := ⟨_, H1.out.at (c * 4 + r) (by rw [cellsV_length]; omega)⟩
                        have HF : Hid (fn (addR (Aes.words K 60) (n + 1) T) (4 * c + r) = T.getD (4 * c + r) 0 ^^^ lane (wd K (4 * (n + 1) + c)) r) := Lib.hid (by
                          unfold addR; rw [fn_range _ _ (by omega), show (4 * c + r) / 4 = c by omega, show (4 * c + r) % 4 = r by omega]; rfl)
                        rw [HF.out] at HN
                        obtain ⟨m, hm⟩ : ∃ m, m = 4 * (n + 1) + c := ⟨_, rfl⟩
                        rw [← hm] at HN
                        have w1 : IntKind.i64.wrap (4 * ((n : Int) + 1)) = 4 * ((n : Int) + 1) := IntWalk.i64_in _ (by omega)
                        have w2' : IntKind.i64.wrap (4 * ((n : Int) + 1) + (c : Int)) = (m : Int) := by rw [IntWalk.i64_in _ (by omega)]; omega
                        have qm : (m : Int) < 60 := by omega
                        have T7r := Lib.hid (H2.out.is T7.out TS.out.symm)
                        have K7r := Lib.hid (H2.out.is K7.out (Nat.ne_of_lt hkl))
                        have c1 := sv_at T7r.out c r (by omega)
                        rw [show fn T (4 * c + r) = T.getD (4 * c + r) 0 from rfl] at c1
                        have c2 := key_at K7r.out m r (by omega) (by omega) (by omega)
                        have HMM := Lib.hid hm
                        clear hm HF
                        generalize T.getD (4 * c + r) 0 = y at *
                        generalize lane (wd K m) r = y2 at *
                        have x1 := V_xor64 y y2
                        generalize y ^^^ y2 = z1 at *
                        go_wp2_with fail
                        go_still_tail 21, (by kernel_rfl)
                        change wpList _ _ _ _ _ wr.drew
                        go_wp2_with fail
                        go_roundw
                        case rel =>
                          have hs := blockIs.set (w := (wr.drewN 1)) H1.out (4 * c + r) (.int .i64 (V z1))
                          rw [HN.out, show 4 * c + r = c * 4 + r by omega] at hs
                          rw [show c * 4 + r + 1 = 4 * c + (r + 1) by omega] at hs
                          refine ⟨r + 1, by omega, by go_num, ?_, ?_⟩
                          · exact hs
                          · first | exact (H2.out.drewN 1).setCell _ _ (Or.inl rfl) | exact (H2.out.setCell _ _ (Or.inl rfl)).drewN 1
                        case measure => simp [intOf]; omega
                      · obtain rfl : r = 4 := by omega
                        go_wp2_with fail
                        go_roundw
                        case rel => exact ⟨c + 1, by omega, by go_num, H1.out, H2.out⟩
                        case measure => simp [intOf]; omega
                  · have HC3 := Lib.hid (show c = 4 by omega)
                    have qc : ¬ (c : Int) < 4 := by omega
                    rw [HC3.out, show 4 * 4 = 16 from rfl, cellsV_all] at H1
                    have vn : IntKind.i64.wrap ((n : Int) + 1 + 1) = (n : Int) + 1 + 1 := IntWalk.i64_in _ (by omega)
                    go_wp2_with fail
                    go_roundw
                    case rel => exact ⟨n + 1, by omega, by go_num, by rw [HR.out]; exact H1.out, B7.out.trans H2.out⟩
                    case measure => simp [intOf]; omega
        · obtain rfl : n = 14 := by omega
          have qn : ¬ ((14 : Nat) : Int) + 1 < 15 := by omega
          have HT2 : Hid (Aes.turn (Aes.words K 60) b = roundsR (Aes.words K 60) 14 (addR (Aes.words K 60) 0 b)) := Lib.hid (by rw [HT.out]; rfl)
          have HFL := Lib.hid (roundsR_len (Aes.words K 60) b 14)
          generalize roundsR (Aes.words K 60) 14 (addR (Aes.words K 60) 0 b) = F at *
          have B9 : Hid (Below w.heap.size w wr) := Lib.hid (B1.out.trans (H2.out.below (Nat.le_refl _) B1.out.size))
          obtain ⟨w9, hw9⟩ : ∃ w9, w9 = wr := ⟨_, rfl⟩
          subst hw9
          clear H2 B1 K1r K2r HT
          go_wp2_with fail
          go_loopw [17, 16] (fun i v wr => ∃ k : Nat, k ≤ 16 ∧ i = .int .i64 k ∧ ownB wr w9.heap.size v (F.take k) ∧ Below w9.heap.size w9 wr) (fun i _ _ => (16 - intOf i).toNat)
          case atStart => exact ⟨0, by omega, rfl, World.ownsRow_nil _ _ _ _, Below.refl _ _⟩
          case round =>
            obtain ⟨k, hk, rfl, h3, h4⟩ := hrel
            have H3 := Lib.hid h3
            have H4 := Lib.hid h4
            clear h3 h4
            obtain ⟨i0, hi, hz0, hz1, hz2⟩ := info_parts info_u8
            have I0 := Lib.hid hi
            clear hi
            by_cases hlt : k < 16
            · have q : (k : Int) < 16 := by omega
              have p0 : 0 ≤ (k : Int) := by omega
              have SB := Lib.hid (H1.out.below H4.out H1.out.lt)
              have c1 := sv_at SB.out (k / 4) (k % 4) (by omega)
              rw [show 4 * (k / 4) + k % 4 = k by omega, show fn F k = F.getD k 0 from rfl] at c1
              have HX : Hid (F.take (k + 1) = F.take k ++ [F.getD k 0]) := Lib.hid (by
                rw [List.take_add_one, List.getElem?_eq_getElem (by rw [HFL.out]; exact hlt)]
                simp [hlt, HFL.out])
              have HTK : Hid ((F.take k).length = k) := Lib.hid (by rw [List.length_take, HFL.out]; omega)
              obtain ⟨x, hx⟩ : ∃ x : UInt8, x = F.getD k 0 := ⟨_, rfl⟩
              rw [← hx] at c1 HX
              clear hx
              obtain ⟨a, ha⟩ : ∃ a, a = k / 4 := ⟨_, rfl⟩
              obtain ⟨r, hr⟩ : ∃ r, r = k % 4 := ⟨_, rfl⟩
              rw [← ha, ← hr] at c1
              have a1 : (k : Int) / 4 = (a : Int) := by omega
              have r1 : (k : Int) % 4 = (r : Int) := by omega
              have wa : IntKind.i64.wrap (a : Int) = (a : Int) := IntWalk.i64_in _ (by omega)
              have rt : (k : Int).tmod 4 = (r : Int) := by rw [Int.tmod_eq_emod_of_nonneg p0]; omega
              have a4 : (a : Int) < 4 := by omega
              have r4 : (r : Int) < 4 := by omega
              clear ha hr
              have vw := V_wrap x
              have C1 := Lib.hid (blockIs.new wr [.int .u8 (V x)] 5)
              have O1 : Hid ((wr.alloc (.cells [.int .u8 (V x)].toArray 5 (0, 0))).ownsRow w9.heap.size 5 1 _ _ _) := Lib.hid (World.ownsRow.alloc H3.out (.cells [.int .u8 (V x)].toArray 5 (0, 0)))
              have K3 := Lib.hid (alloc_below wr (.cells [.int .u8 (V x)].toArray 5 (0, 0)))
              have NW : Hid (∀ (j : Nat) (u : Value), [Value.int .u8 (V x)][j]? = some u → (wr.alloc (.cells [.int .u8 (V x)].toArray 5 (0, 0))).cell? ((⟨wr.heap.size, 0, none⟩ : Addr).add j) = some u) := Lib.hid (fun j u hj => by rw [Addr.add_lit, Nat.zero_add, C1.out.cell]; exact hj)
              have OC : Hid (∀ u ∈ [Value.int .u8 (V x)], u.oneCell' = true) := Lib.hid (by simp [Value.oneCell'])
              have LM : Hid ((F.take k).length + 1 ≤ maxLen) := Lib.hid (by rw [HTK.out]; unfold maxLen; omega)
              go_upto_region 36 with (at_builtin; refine wpList_append_own _ rfl _ _ 22 rfl w9.heap.size 5 i0 (.int .u8 0) 1 1 Tryd.underlying22 I0.out hz0 hz1 hz2 rfl (by decide) _ (F.take k).length (byteCells (F.take k)) rfl O1.out ⟨wr.heap.size, 0, none⟩ 1 1 [.int .u8 (V x)] rfl rfl NW.out OC.out (by rw [HTK.out]; unfold maxLen; omega) (by rw [HTK.out]; omega) (Nat.le_trans H4.out.size K3.out.size) ?_; intro v' w' r1 r2 _; have O3 := Lib.hid r1; have G3 := Lib.hid (grown_below O1.out r2 (Nat.le_trans H4.out.size K3.out.size)); clear r1 r2)
              have O4 : Hid (ownB w' w9.heap.size v' (F.take (k + 1))) := Lib.hid (by
                unfold ownB
                rw [HX.out, byteCells_append, List.length_append]
                exact O3.out)
              have K4 : Hid (Below w9.heap.size w9 w') := Lib.hid (H4.out.trans ((K3.out.mono H4.out.size).trans G3.out))
              clear NW OC O1 O3 K3 G3 C1 H3 H4 HX LM SB vw c1 a1 r1 wa rt
              go_wp2_with fail
              go_roundw
              case rel => exact ⟨k + 1, by omega, by go_num, O4.out, K4.out⟩
              case measure => simp [intOf]; omega
            · obtain rfl : k = 16 := by omega
              have q : ¬ ((16 : Nat) : Int) < 16 := by omega
              have h3 := H3.out
              rw [List.take_of_length_le (by rw [HFL.out]; exact Nat.le_refl _)] at h3
              obtain ⟨a, c, rfl, _, _, hin, _⟩ := h3.form
              have cv := conv_string wr a F c hin
              clear h3 hin H3
              go_wp2_with fail
              go_ret
              exact ⟨by rw [HT2.out]; rfl, B9.out.trans (H4.out.mono B9.out.size)⟩
end Go.Proofs.YtjkhokholcchfaaDoor.Ci
end
section
/- hypogeumref02.Hide: the document's flow. -/
namespace Go.Proofs.YtjkhokholcchfaaDoor.Ci
open Go.RowKit Sha Aes

theorem ownB.still {w w' : World} {base : Nat} {v : Value} {l : List UInt8} (h : ownB w base v l) (k : Below w.heap.size w w') : ownB w' base v l := by
  refine ⟨h.1, ?_⟩
  rcases h.2 with h0 | ⟨q, cap, cur, hv, hq, hc, r⟩
  · exact .inl h0
  · exact .inr ⟨q, cap, cur, hv, hq, (k.block q (Array.getElem?_eq_some_iff.1 hc).1).trans hc, r⟩
/-- The first k bytes, hidden. -/
def hideP (ws : List W) (N : List UInt8) (p : Nat) (B : List UInt8) (k : Nat) : List UInt8 := (List.range k).map fun i => B.getD i 0 ^^^ sb ws N (p + i)
theorem hideP_next (ws : List W) (N : List UInt8) (p : Nat) (B : List UInt8) (k : Nat) : hideP ws N p B (k + 1) = hideP ws N p B k ++ [B.getD k 0 ^^^ sb ws N (p + k)] := by
  simp [hideP, List.range_succ]
theorem hideP_len (ws : List W) (N : List UInt8) (p : Nat) (B : List UInt8) (k : Nat) : (hideP ws N p B k).length = k := by simp [hideP]
/-- What the document remembers of the last block. -/
def seen (ws : List W) (N : List UInt8) (S : List UInt8) (z : Int) : Prop := ∀ n : Nat, z = (n : Int) → S = Aes.turn ws (plus N n)
theorem step_app2 {w : World} {ops : Array Oper} {o : Oper} {a : Act} {K : Act → World → Prop} {Q : Exit → Act → World → Prop} {E : Prop} (hgd : o.guard = none) (s x : Operand)
    (ho : o.op = .call { callee := .builtin .append, args := #[s, x], argTypes := #[22, 22] })
    (base : Nat) (v : Value) (xs : List UInt8) (hs : a.eval s = v) (hown : ownB w base v xs) (A : Option Addr) (n c : Nat) (l : List UInt8) (hnl : n = l.length) (hx : a.eval x = .slice A n c) (hA : A = none → c = 0) (hb : bytesIn w A l)
    (hn : xs.length + l.length ≤ 1000000) (hbase : base ≤ w.heap.size)
    (h : ∀ v' w', Hid (ownB w' base v' (xs ++ l)) → Hid (Below base w w') → K (a.put o.dst v') w') : if Region.wanted o (yielded ops a.tmps) = true then Oper.wp Tryd.prog o a w K Q else E := by
  have hw : Region.wanted o (yielded ops a.tmps) = true := by simp [Region.wanted, hgd]
  rw [if_pos hw]
  obtain ⟨i0, hi, hz0, hz1, hz2⟩ := info_parts info_u8
  subst hnl
  cases A with
  | none =>
    have hl : l = [] := by
      rcases hb with h | ⟨_, _, h, _⟩
      · exact h
      · cases h
    subst hl
    have hx : a.eval x = .slice none 0 0 := by rw [hx, hA rfl]; rfl
    have hrun := run_append_owned_none (P := Tryd.prog) (w := w) base 22 o.type 5 i0 1 Tryd.underlying22 hi v xs.length (byteCells xs) hown
    unfold Oper.wp execOp
    simp only [ho, resolve, invoke, builtin, Sem.run_bind, Sem.run_pure, Result.andThen_ok, List.map_toArray, List.map_cons, List.map_nil, hs, hx, hrun]
    exact h v w (Lib.hid (by rw [List.append_nil]; exact hown)) (Lib.hid (Below.refl _ _))
  | some ad =>
    refine wp_append_own w s x 22 ho base 5 i0 (.int .u8 0) 1 1 Tryd.underlying22 hi hz0 hz1 hz2 rfl (by decide) v xs.length (byteCells xs) hs hown ad l.length c (byteCells l) hx (by rw [byteCells_length, Nat.mul_one]) (fun j u hj => ?_) (byteCells_one l) (by unfold maxLen; omega) (by omega) hbase (fun v' w' r1 r2 _ => ?_)
    · have hlt := (List.getElem?_eq_some_iff.1 hj).1
      rw [byteCells_length] at hlt
      rcases hb with h0 | ⟨bb, bo, he, hc⟩
      · rw [h0] at hlt; exact absurd hlt (Nat.not_lt_zero _)
      · obtain rfl := Option.some.inj he
        rw [Addr.add_lit, hc j hlt]
        rw [byteCells_get l j hlt] at hj
        exact hj
    · refine h v' w' (Lib.hid ?_) (Lib.hid (grown_below hown r2 hbase))
      unfold ownB
      rw [List.length_append, byteCells_append]
      exact r1
theorem keyIs.below {w w' : World} {kb g : Nat} {K : List UInt8} (h : keyIs w kb g K) (k : Below w.heap.size w w') : keyIs w' kb g K := ⟨h.1.below k h.1.lt, h.2.below k h.2.lt⟩

set_option maxRecDepth 100000 in
set_option maxHeartbeats 4000000 in
theorem docHide_any (kb g : Nat) (K N B : List UInt8) (p : Nat) (w : World) (hN : N.length = 16) (hp : p ≤ 1099511627776) (hB : B.length ≤ 1000) (hk : keyIs w kb g K) :
    Calls Tryd.prog 41 #[.pointer (some ⟨kb, 0, none⟩), .string (str N), .int .i64 p, .string (str B)] w fun e w' => e = .returned (.string (str (hideL (Aes.words K 60) N p B))) ∧ Below w.heap.size w w' := by
  have HNL := Lib.hid hN
  have HBL := Lib.hid hB
  have HPL := Lib.hid hp
  have HK := Lib.hid hk
  have hs := str_size B
  clear hN hk hB hp
  go_enter Tryd.func41, Tryd.ntmps41
  go_wp2_with fail
  go_loopw [12, 9, 10, 11] (fun i v s h wr => ∃ (k : Nat) (S : List UInt8) (z : Int), k ≤ B.length ∧ i = .int .i64 k ∧ s = .string (str S) ∧ h = .int .i64 z ∧ ownB wr w.heap.size v (hideP (Aes.words K 60) N p B k) ∧ seen (Aes.words K 60) N S z ∧ Below w.heap.size w wr) (fun i _ _ _ _ => ((B.length : Int) - intOf i).toNat)
  case atStart => exact ⟨0, [], -1, by omega, rfl, rfl, rfl, World.ownsRow_nil _ _ _ _, fun n h => by omega, Below.refl _ _⟩
  case round =>
    obtain ⟨k, SS, zz, hk, rfl, rfl, rfl, h1, h2, h3⟩ := hrel
    have H1 := Lib.hid h1
    have H2 := Lib.hid h2
    have H3 := Lib.hid h3
    clear h1 h2 h3
    by_cases hlt : k < B.length
    · have q : (k : Int) < (B.length : Int) := by omega
      have hpl := HPL.out
      have hbl := HBL.out
      obtain ⟨n, hn⟩ : ∃ n, n = (p + k) / 16 := ⟨_, rfl⟩
      obtain ⟨m, hm⟩ : ∃ m, m = (p + k) % 16 := ⟨_, rfl⟩
      have a1 : IntKind.i64.wrap ((p : Int) + (k : Int)) = (p : Int) + (k : Int) := IntWalk.i64_in _ (by omega)
      have a2 : ((p : Int) + (k : Int)) / 16 = (n : Int) := by omega
      have a3 : 0 ≤ (p : Int) + (k : Int) := by omega
      have a4 : ((p : Int) + (k : Int)).tdiv 16 = (n : Int) := by rw [Int.tdiv_eq_ediv_of_nonneg a3]; exact a2
      have a5 : IntKind.i64.wrap (n : Int) = (n : Int) := IntWalk.i64_in _ (by omega)
      have a6 : ((p : Int) + (k : Int)) % 16 = (m : Int) := by omega
      have a7 : ((p : Int) + (k : Int)).tmod 16 = (m : Int) := by rw [Int.tmod_eq_emod_of_nonneg a3]; exact a6
      have nl : n ≤ 36028797018963968 := by omega
      have ix := fun X => index_str B k hlt X
      have ml : m < 16 := by omega
      have p0 : 0 ≤ (k : Int) := by omega
      have HX := Lib.hid (hideP_next (Aes.words K 60) N p B k)
      have HSB : Hid (sb (Aes.words K 60) N (p + k) = (Aes.turn (Aes.words K 60) (plus N n)).getD m 0) := Lib.hid (by unfold sb; rw [hn, hm])
      rw [HSB.out] at HX
      have HTL := Lib.hid (turn_length (Aes.words K 60) (plus N n))
      have PP := fun X => refPlus_any N n X HNL.out nl
      have PT := fun X hX => docTurn_any kb g K (plus N n) X (by rw [plus_len, HNL.out]) hX
      have PP := Lib.hid PP
      have PT := Lib.hid PT
      have HSN : Hid (seen (Aes.words K 60) N (Aes.turn (Aes.words K 60) (plus N n)) (n : Int)) := Lib.hid (fun n' h => by rw [show n' = n by omega])
      clear hn hm
      obtain ⟨TB, hTB⟩ : ∃ TB, TB = Aes.turn (Aes.words K 60) (plus N n) := ⟨_, rfl⟩
      rw [← hTB] at HX HTL HSN
      have HTB := Lib.hid hTB.symm
      have PT : Hid (∀ X, keyIs X kb g K → Calls Tryd.prog 59 #[.pointer (some ⟨kb, 0, none⟩), .string (str (plus N n))] X fun e w' => e = .returned (.string (str TB)) ∧ Below X.heap.size X w') := Lib.hid (by rw [hTB]; exact PT.out)
      clear hTB HSB
      go_upto_if 26 with fail
      go_cut [10, 11] (fun s' h' wx => s' = .string (str TB) ∧ h' = .int .i64 (n : Int) ∧ Below wr.heap.size wr wx)
      case first =>
        by_cases he : zz = (n : Int)
        · have bn : ((n : Int) != zz) = false := by simp [he]
          have HE := Lib.hid he
          have HS2 := Lib.hid ((H2.out n he).trans HTB.out)
          clear he
          go_wp2_with fail
          go_meet
          case rel => exact ⟨by rw [HS2.out], by rw [HE.out], Below.refl _ _⟩
        · have bn : ((n : Int) != zz) = true := by simp; omega
          clear he
          go_wp2_with fail
          with_reducible refine (PP.out _).mono ?_
          rintro e w1 ⟨rfl, k1⟩
          have K1 := Lib.hid k1
          clear k1
          go_wp2_with fail
          with_reducible refine (PT.out _ (HK.out.below (H3.out.trans (K1.out.mono H3.out.size)))).mono ?_
          rintro e w2 ⟨rfl, k2⟩
          have K2 := Lib.hid k2
          clear k2
          go_wp2_with fail
          go_meet
          case rel => exact ⟨rfl, rfl, K1.out.trans (K2.out.mono K1.out.size)⟩
      case rest =>
        obtain ⟨rfl, rfl, h4⟩ := hcut
        have O4 := Lib.hid (H1.out.still h4)
        have B4 := Lib.hid (H3.out.trans (h4.mono H3.out.size))
        clear h4 H1 H3 PP PT
        have iy := fun X => index_str TB m (by rw [HTL.out]; exact ml) X
        generalize B.getD k 0 = x at *
        generalize TB.getD m 0 = y at *
        have xy := V_xor x y
        generalize x ^^^ y = z at *
        have C1 := Lib.hid (blockIs.new wc [.int .u8 (V z)] 5)
        have O5 : Hid (ownB (wc.alloc (.cells [.int .u8 (V z)].toArray 5 (0, 0))).drew w.heap.size _ (hideP (Aes.words K 60) N p B k)) := Lib.hid (O4.out.still (alloc_below wc (.cells [.int .u8 (V z)].toArray 5 (0, 0))).drew)
        have B5 : Hid (Below w.heap.size w (wc.alloc (.cells [.int .u8 (V z)].toArray 5 (0, 0))).drew) := Lib.hid (B4.out.trans ((alloc_below wc (.cells [.int .u8 (V z)].toArray 5 (0, 0))).drew.mono B4.out.size))
        have IN : Hid (bytesIn (wc.alloc (.cells [.int .u8 (V z)].toArray 5 (0, 0))).drew (some ⟨wc.heap.size, 0, none⟩) [z]) := Lib.hid (Or.inr ⟨_, _, rfl, fun j hj => by
          have : j = 0 := by simpa using hj
          subst this
          exact (C1.out.cell 0).trans rfl⟩)
        have HLL := Lib.hid (hideP_len (Aes.words K 60) N p B k)
        clear C1 O4 B4
        go_wp2_with fail
        refine wp_region_noPanic ?_
        refine wp_region_held_drew (S := fun _ => True) (by kernel_rfl) trivial (fun hH => ?_)
        refine wpAnyH_take (i := 0) (oi := { dst := some 33, op := Op.move (Operand.tmp 9), type := 22, pos := "ref.go:129", after := #[], guard := none }) (v := u9) rfl (by kernel_rfl) (by kernel_rfl) (by kernel_rfl) (fun _ _ _ h => h) (Or.inl ⟨by rfl, fun wx hS => ?_⟩) hH ?_
        · go_simp
        simp only [Act.put, List.setIfInBounds_toArray, List.set_cons_zero, List.set_cons_succ]
        refine wpAnyH_take (i := 1) (oi := { dst := some 34, op := Op.move (Operand.tmp 3), type := 9, pos := "ref.go:129", after := #[], guard := none }) (v := .string (str B)) rfl (by kernel_rfl) (by kernel_rfl) (by kernel_rfl) (fun _ _ _ h => h) (Or.inl ⟨by rfl, fun wx hS => ?_⟩) hH ?_
        · go_simp
        simp only [Act.put, List.setIfInBounds_toArray, List.set_cons_zero, List.set_cons_succ]
        refine wpAnyH_take (i := 2) (oi := { dst := some 35, op := Op.move (Operand.tmp 12), type := 3, pos := "ref.go:129", after := #[], guard := none }) (v := .int .i64 (k : Int)) rfl (by kernel_rfl) (by kernel_rfl) (by kernel_rfl) (fun _ _ _ h => h) (Or.inl ⟨by rfl, fun wx hS => ?_⟩) hH ?_
        · go_simp
        simp only [Act.put, List.setIfInBounds_toArray, List.set_cons_zero, List.set_cons_succ]
        refine wpAnyH_take (i := 3) (oi := { dst := some 36, op := Op.index 9 (Operand.tmp 34) (Operand.tmp 35), type := 5, pos := "ref.go:129", after := #[{ on := 1, ground := Ground.data }, { on := 2, ground := Ground.data }], guard := none }) (v := .int .u8 (V x)) rfl (by kernel_rfl) (by kernel_rfl) (by kernel_rfl) (fun _ _ _ h => h) (Or.inl ⟨by rfl, fun wx hS => ?_⟩) hH ?_
        · have e1 := ix wx; go_simp
        simp only [Act.put, List.setIfInBounds_toArray, List.set_cons_zero, List.set_cons_succ]
        refine wpAnyH_take (i := 4) (oi := { dst := some 37, op := Op.move (Operand.tmp 10), type := 9, pos := "ref.go:129", after := #[], guard := none }) (v := .string (str TB)) rfl (by kernel_rfl) (by kernel_rfl) (by kernel_rfl) (fun _ _ _ h => h) (Or.inl ⟨by rfl, fun wx hS => ?_⟩) hH ?_
        · go_simp
        simp only [Act.put, List.setIfInBounds_toArray, List.set_cons_zero, List.set_cons_succ]
        refine wpAnyH_take (i := 5) (oi := { dst := some 38, op := Op.move (Operand.tmp 2), type := 3, pos := "ref.go:129", after := #[], guard := none }) (v := .int .i64 (p : Int)) rfl (by kernel_rfl) (by kernel_rfl) (by kernel_rfl) (fun _ _ _ h => h) (Or.inl ⟨by rfl, fun wx hS => ?_⟩) hH ?_
        · go_simp
        simp only [Act.put, List.setIfInBounds_toArray, List.set_cons_zero, List.set_cons_succ]
        refine wpAnyH_take (i := 6) (oi := { dst := some 39, op := Op.move (Operand.tmp 12), type := 3, pos := "ref.go:129", after := #[], guard := none }) (v := .int .i64 (k : Int)) rfl (by kernel_rfl) (by kernel_rfl) (by kernel_rfl) (fun _ _ _ h => h) (Or.inl ⟨by rfl, fun wx hS => ?_⟩) hH ?_
        · go_simp
        simp only [Act.put, List.setIfInBounds_toArray, List.set_cons_zero, List.set_cons_succ]
        refine wpAnyH_take (i := 7) (oi := { dst := some 40, op := Op.binOp BinOp.add 3 (Operand.tmp 38) (Operand.tmp 39) 3, type := 3, pos := "ref.go:129", after := #[{ on := 5, ground := Ground.data }, { on := 6, ground := Ground.data }], guard := none }) (v := .int .i64 ((p : Int) + (k : Int))) rfl (by kernel_rfl) (by kernel_rfl) (by kernel_rfl) (fun _ _ _ h => h) (Or.inl ⟨by rfl, fun wx hS => ?_⟩) hH ?_
        · have e1 := a1; go_simp
        simp only [Act.put, List.setIfInBounds_toArray, List.set_cons_zero, List.set_cons_succ]
        refine wpAnyH_take (i := 8) (oi := { dst := some 41, op := Op.binOp BinOp.rem 3 (Operand.tmp 40) (Operand.const (Value.int IntKind.i64 16)) 3, type := 3, pos := "ref.go:129", after := #[{ on := 7, ground := Ground.data }], guard := none }) (v := .int .i64 (m : Int)) rfl (by kernel_rfl) (by kernel_rfl) (by kernel_rfl) (fun _ _ _ h => h) (Or.inl ⟨by rfl, fun wx hS => ?_⟩) hH ?_
        · have e1 := a6; have e2 := a3; go_simp
        simp only [Act.put, List.setIfInBounds_toArray, List.set_cons_zero, List.set_cons_succ]
        refine wpAnyH_take (i := 9) (oi := { dst := some 42, op := Op.index 9 (Operand.tmp 37) (Operand.tmp 41), type := 5, pos := "ref.go:129", after := #[{ on := 4, ground := Ground.data }, { on := 8, ground := Ground.data }], guard := none }) (v := .int .u8 (V y)) rfl (by kernel_rfl) (by kernel_rfl) (by kernel_rfl) (fun _ _ _ h => h) (Or.inl ⟨by rfl, fun wx hS => ?_⟩) hH ?_
        · have e1 := iy wx; go_simp
        simp only [Act.put, List.setIfInBounds_toArray, List.set_cons_zero, List.set_cons_succ]
        refine wpAnyH_take (i := 10) (oi := { dst := some 43, op := Op.binOp BinOp.xor 5 (Operand.tmp 36) (Operand.tmp 42) 5, type := 5, pos := "ref.go:129", after := #[{ on := 3, ground := Ground.data }, { on := 9, ground := Ground.data }], guard := none }) (v := .int .u8 (V z)) rfl (by kernel_rfl) (by kernel_rfl) (by kernel_rfl) (fun _ _ _ h => h) (Or.inl ⟨by rfl, fun wx hS => ?_⟩) hH ?_
        · have e1 := xy; go_simp
        simp only [Act.put, List.setIfInBounds_toArray, List.set_cons_zero, List.set_cons_succ]
        refine wpAnyH_ready (rs := [11]) (by kernel_rfl) (by simp) ?_
        refine AllReadyH.cons (o := { dst := some 44, op := Op.buildSlice 22 1 #[(0, Operand.tmp 43)], type := 22, pos := "ref.go:129", after := #[{ on := 10, ground := Ground.data }], guard := none }) rfl (fun KK hKK => ?_) AllReadyH.nil
        go_simp
        refine hKK.out _ _ trivial (fun hH => ?_)
        clear hKK KK hH
        try simp only [Act.put, List.setIfInBounds_toArray, List.set_cons_zero, List.set_cons_succ]
        refine wpAnyH_ready (rs := [12]) (by kernel_rfl) (by simp) ?_
        refine AllReadyH.cons (o := { dst := some 45, op := Op.call { callee := Callee.builtin Builtin.append, args := #[Operand.tmp 33, Operand.tmp 44], argTypes := #[22, 22] }, type := 22, pos := "ref.go:129", after := #[{ on := 0, ground := Ground.data }, { on := 11, ground := Ground.data }], guard := none }) rfl (fun KK hKK => ?_) AllReadyH.nil
        refine step_app2 rfl _ _ rfl w.heap.size u9 (hideP (Aes.words K 60) N p B k) rfl O5.out (some ⟨wc.heap.size, 0, none⟩) 1 1 [z] rfl rfl (fun h => by cases h) IN.out (by rw [HLL.out]; simp; omega) B5.out.size ?_
        intro v3 x3 r1 r2
        have r1 := r1.out
        rw [← HX.out] at r1
        have O6 := Lib.hid r1
        have B6 := Lib.hid (B5.out.trans r2.out)
        clear r1 r2 O5 B5 IN HX
        refine hKK.out _ _ trivial (fun hH => ?_)
        clear hKK KK hH
        try simp only [Act.put, List.setIfInBounds_toArray, List.set_cons_zero, List.set_cons_succ]
        refine wpAnyH_ready (rs := [13]) (by kernel_rfl) (by simp) ?_
        refine AllReadyH.cons (o := { dst := some 9, op := Op.assign (Operand.tmp 45), type := 22, pos := "ref.go:129", after := #[{ on := 12, ground := Ground.data }, { on := 12, ground := Ground.chain }, { on := 0, ground := Ground.phase }, { on := 1, ground := Ground.phase }, { on := 2, ground := Ground.phase }, { on := 3, ground := Ground.phase }, { on := 4, ground := Ground.phase }, { on := 5, ground := Ground.phase }, { on := 6, ground := Ground.phase }, { on := 7, ground := Ground.phase }, { on := 8, ground := Ground.phase }, { on := 9, ground := Ground.phase }, { on := 10, ground := Ground.phase }, { on := 11, ground := Ground.phase }, { on := 12, ground := Ground.phase }], guard := none }) rfl (fun KK hKK => ?_) AllReadyH.nil
        go_simp
        refine hKK.out _ _ trivial (fun hH => ?_)
        clear hKK KK hH
        try simp only [Act.put, List.setIfInBounds_toArray, List.set_cons_zero, List.set_cons_succ]
        refine wpAnyH_done (by kernel_rfl) ?_ _
        refine NoPanic.normal ?_
        go_wp2_with fail
        go_roundw
        case rel => exact ⟨k + 1, TB, n, by omega, by go_num, rfl, rfl, O6.out, HSN.out, B6.out⟩
        case measure => simp [intOf]; omega
    · have HKE := Lib.hid (show k = B.length by omega)
      have q : ¬ (k : Int) < (B.length : Int) := by omega
      have h1 := H1.out
      have e : hideP (Aes.words K 60) N p B k = hideL (Aes.words K 60) N p B := by rw [HKE.out]; rfl
      rw [e] at h1
      obtain ⟨a, c, rfl, _, _, hin, _⟩ := h1.form
      clear e h1 H1
      generalize hF : hideL (Aes.words K 60) N p B = F at *
      have HFE := Lib.hid hF
      clear hF
      have cv := conv_string wr a F c hin
      clear hin
      go_wp2_with fail
      go_ret
      exact ⟨by rw [HFE.out]; rfl, H3.out⟩
end Go.Proofs.YtjkhokholcchfaaDoor.Ci
end
