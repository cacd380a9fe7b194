/- The document's Decode. -/
import Derived.Test.YtjgmhaajcglpmaaDdp
namespace Go.Proofs.Ytjgmhaajcglpmaa
open Go.RowKit

def DocDecoded (w : World) (L : List UInt8) (r : Ending) (w' : World) : Prop := ((∃ v Q, r = .returned (.tuple #[v, .int .i64 0]) ∧ DecIs L (Q.map Prod.fst) ∧ ownB w' w.heap.size v Q) ∨ (r = .returned (.tuple #[.slice none 0 0, .int .i64 2]) ∧ ∀ S, ¬ DecIs L S)) ∧ Below w.heap.size w w'
theorem rn_info : (Try.prog.info? 26).map (·.size) = some 39 := by kernel_rfl
set_option maxRecDepth 100000 in
set_option maxHeartbeats 16000000 in
theorem docDecode_any (L : List UInt8) (w : World) (hl : L.length ≤ 10000) :
    Calls Try.prog 21 #[.string (str L)] w (DocDecoded w L) := by
  have PO := dopen_any 110 L w (by omega)
  unfold DOpened at PO
  have PO : Calls Try.prog 37 #[.int .u8 110, .string (str L)] w _ := PO
  have HL := Lib.hid hl
  clear hl
  have HZ := Lib.hid (zeroNd.cells_length (.slice none 0 0) rfl)
  have HZO := Lib.hid (cells_one zeroNd (.slice none 0 0) rfl)
  obtain ⟨zs, hzs⟩ : ∃ zs, zeroNd.cells (.slice none 0 0) = zs := ⟨_, rfl⟩
  rw [hzs] at HZ HZO
  have hzr : ∀ w, (zeroValue 26).run Try.prog w = .ok (.agg zs.toArray) w := fun w => by rw [← hzs]; exact zero_rn w
  have HZS := Lib.hid hzs
  clear hzs
  go_enter Try.func21, Try.ntmps21
  go_wp2_with fail
  with_reducible refine PO.mono ?_
  clear PO
  rintro r w1 ⟨k, F, e0, rfl, hwk, hr1, HO, hF, hb⟩
  have HF : Hid (F.length ≤ 100000000) := Lib.hid (by have := HL.out; omega)
  have HFL : Hid (F.length ≤ 10000) := Lib.hid (Nat.le_trans hF HL.out)
  have HWK := Lib.hid hwk
  have HKB : Hid (k < w1.heap.size) := Lib.hid (blockIs.lt hr1.out)
  have PN := dnum_any k F e0 2000 w1 hr1.out HF.out
  obtain ⟨B, hB⟩ : ∃ B, B = w1.heap.size := ⟨_, rfl⟩
  rw [← hB] at HKB
  have HWB : Hid (w.heap.size ≤ B) := Lib.hid (by have := HKB.out; omega)
  have HBB : Hid (B ≤ w1.heap.size) := Lib.hid (by omega)
  clear hF hwk hr1 hB
  go_wp2_with fail
  with_reducible refine PN.mono ?_
  clear PN
  rintro r w2 ⟨ci, L1, e1, hn, rfl, hr2, hb2⟩
  have HT := Lib.hid (rd_num hn.out)
  have HL1 := Lib.hid (Nat.le_trans hn.out.le HF.out)
  have HL10 := Lib.hid (Nat.le_trans hn.out.le HFL.out)
  have BC := HT.out.bound (by decide)
  have BL : Hid (Below w.heap.size w w2) := Lib.hid (hb.out.trans (hb2.out.below HWK.out hb.out.size))
  have HBB2 : Hid (B ≤ w2.heap.size) := Lib.hid (Nat.le_trans HBB.out hb2.out.size)
  have HI0 := Lib.hid (DocInv.start HO.out HT.out)
  clear hn hb hb2 HBB
  go_wp2_with fail
  go_loopw [7, 6] (fun i v wr => ∃ (j : Nat) (Q : List (Nd × Value)) (Lj : List UInt8) (ej : Int), (j : Int) ≤ ci ∧ i = .int .i64 j ∧ Q.length = j ∧ Hid (DAt wr k Lj ej) ∧ Hid (DocInv L L1 e1 Q Lj ej) ∧ Hid (Lj.length ≤ 100000000) ∧ Hid (ownB wr B v Q) ∧ Hid (Below w.heap.size w wr) ∧ Hid (B ≤ wr.heap.size)) (fun i _ _ => ci.toNat - (intOf i).toNat)
  case atStart => exact ⟨0, [], L1, e1, BC.1, rfl, rfl, hr2, HI0, HL1, Lib.hid (ownB.nil _ _), BL, HBB2⟩
  case round =>
    clear HI0 BL HBB2 hr2 HL1
    obtain ⟨j, Q, Lj, ej, hj, rfl, hQ, HR, HI, HLJ, HA, BL, HBB⟩ := hrel
    have p0 : 0 ≤ (j : Int) := by omega
    have c1 : wr.cell? ⟨k, 1, none⟩ = some (.int .i64 ej) := by rw [blockIs.cell HR.out]; rfl
    by_cases hlt : (j : Int) < ci ∧ ej = 0
    · obtain ⟨hlt1, rfl⟩ := hlt
      have hlt1 : (j : Int) < ci := hlt1
      have hlt1 : (Q.length : Int) < ci := by rw [hQ]; exact hlt1
      have q1 : (j : Int) < ci := by rw [← hQ]; exact hlt1
      have HOG0 := Lib.hid (HA.out.fresh (Nat.le_refl _))
      have HG : Hid (B ≤ wr.heap.size) := HBB
      go_wp2_with (first | (refine build_zero_rn (by rfl) rfl zs HZS.out ?_) | (refine store_new 26 rn_info rfl _ _ rfl zs zs rfl rfl HZ.out HZ.out HZO.out ?_))
      intro w5 h1 h2
      have HK := h1
      have HR5 := Lib.hid (DAt.below HR.out h2.out)
      have HA5 := Lib.hid (HA.out.below h2.out)
      have BL5 := Lib.hid (BL.out.trans (h2.out.mono BL.out.size))
      have HB5 := Lib.hid (Nat.le_trans HBB.out h2.out.size)
      clear h1 h2 HR HA BL HBB c1
      have HR := HR5
      have HA := HA5
      have BL := BL5
      have HBB := HB5
      clear HR5 HA5 BL5 HB5
      generalize wr.heap.size = g at *
      have HOG := HOG0
      clear HOG0
      have HGK : Hid (g ≠ k) := Lib.hid (by have := HG.out; have := HKB.out; omega)
      have HKG : Hid (k ≠ g) := Lib.hid (by have := HG.out; have := HKB.out; omega)
      have HWG : Hid (w.heap.size ≤ g) := Lib.hid (Nat.le_trans HWB.out HG.out)
      replace HK : Hid (blockIs w5 g (Nd.cells (⟨[], 0, 0, 0, 0, [], [], noughts⟩ : Nd) (.slice none 0 0)) 26) := Lib.hid (by have := HK.out; rw [← HZS.out] at this; exact this)
      have PN := dtext_any k Lj 0 255 (w5) HR.out HLJ.out
      go_wp2_with fail
      with_reducible refine PN.mono ?_
      clear PN
      rintro r w11 ⟨nt, Kt, dt, hn, rfl, HR2, hb⟩
      have T_t := Lib.hid (rd_text hn.out)
      have HL2 := Lib.hid (Nat.le_trans (Nat.le_trans (tLeft_le Kt dt nt) hn.out.le) HLJ.out)
      generalize tOut Kt dt nt = t at *
      generalize tLeft Kt dt nt = L2 at *
      generalize tErr Kt dt nt = e2 at *
      have HK2 := Lib.hid (HK.out.but hb.out HGK.out)
      have HA2 := Lib.hid (HA.out.but hb.out HKB.out)
      have BL2 := Lib.hid (BL.out.trans (hb.out.below HWK.out BL.out.size))
      have HB2 := Lib.hid (Nat.le_trans HBB.out hb.out.size)
      clear HK HR HA BL HBB hb
      have HK := HK2
      have HR := HR2
      have HA := HA2
      have BL := BL2
      have HBB := HB2
      clear HK2 HR2 HA2 BL2 HB2
      clear hn Kt dt nt
      have fI := HK.out.free 0
      have cI := HK.out.at 0 (by rw [Nd.cells_length _ _ rfl]; decide)
      have BG : But g w11 (w11.setCell ⟨g, 0, none⟩ (.string (str t))) := (But.refl g w11).setCell _ _ (Or.inl rfl)
      have HKs : Hid (blockIs (w11.setCell ⟨g, 0, none⟩ (.string (str t))) g (Nd.cells (⟨t, 0, 0, 0, 0, [], [], noughts⟩ : Nd) (.slice none 0 0)) 26) := Lib.hid (HK.out.set 0 _)
      have HRs : Hid (DAt (w11.setCell ⟨g, 0, none⟩ (.string (str t))) k _ _) := Lib.hid (blockIs.but BG HR.out HKG.out)
      have HAs : Hid (ownB (w11.setCell ⟨g, 0, none⟩ (.string (str t))) B _ Q) := Lib.hid (HA.out.grown BG.grow HOG.out)
      have BLs : Hid (Below w.heap.size w (w11.setCell ⟨g, 0, none⟩ (.string (str t)))) := Lib.hid (BL.out.trans (BG.below HWG.out BL.out.size))
      have HBs : Hid (B ≤ (w11.setCell ⟨g, 0, none⟩ (.string (str t))).heap.size) := Lib.hid (Nat.le_trans HBB.out BG.size)
      clear BG HK HR HA BL HBB
      have PN := dnum_any k L2 e2 2 (w11.setCell ⟨g, 0, none⟩ (.string (str t))) HRs.out HL2.out
      go_wp2_with fail
      with_reducible refine PN.mono ?_
      clear PN fI cI
      generalize w11.setCell ⟨g, 0, none⟩ (.string (str t)) = w12 at *
      rintro r w13 ⟨kd, L3, e3, hn, rfl, HR2, hb⟩
      have T_kd := Lib.hid (rd_num hn.out)
      have HL3 := Lib.hid (Nat.le_trans hn.out.le HL2.out)
      have HK2 := Lib.hid (HKs.out.but hb.out HGK.out)
      have HA2 := Lib.hid (HAs.out.but hb.out HKB.out)
      have BL2 := Lib.hid (BLs.out.trans (hb.out.below HWK.out BLs.out.size))
      have HB2 := Lib.hid (Nat.le_trans HBs.out hb.out.size)
      clear HKs HRs HAs BLs HBs hb
      have HK := HK2
      have HR := HR2
      have HA := HA2
      have BL := BL2
      have HBB := HB2
      clear HK2 HR2 HA2 BL2 HB2
      clear hn
      have fI := HK.out.free 1
      have cI := HK.out.at 1 (by rw [Nd.cells_length _ _ rfl]; decide)
      have BG : But g w13 (w13.setCell ⟨g, 1, none⟩ (.int .i64 kd)) := (But.refl g w13).setCell _ _ (Or.inl rfl)
      have HKs : Hid (blockIs (w13.setCell ⟨g, 1, none⟩ (.int .i64 kd)) g (Nd.cells (⟨t, kd, 0, 0, 0, [], [], noughts⟩ : Nd) (.slice none 0 0)) 26) := Lib.hid (HK.out.set 1 _)
      have HRs : Hid (DAt (w13.setCell ⟨g, 1, none⟩ (.int .i64 kd)) k _ _) := Lib.hid (blockIs.but BG HR.out HKG.out)
      have HAs : Hid (ownB (w13.setCell ⟨g, 1, none⟩ (.int .i64 kd)) B _ Q) := Lib.hid (HA.out.grown BG.grow HOG.out)
      have BLs : Hid (Below w.heap.size w (w13.setCell ⟨g, 1, none⟩ (.int .i64 kd))) := Lib.hid (BL.out.trans (BG.below HWG.out BL.out.size))
      have HBs : Hid (B ≤ (w13.setCell ⟨g, 1, none⟩ (.int .i64 kd)).heap.size) := Lib.hid (Nat.le_trans HBB.out BG.size)
      clear BG HK HR HA BL HBB
      have PN := dnum_any k L3 e3 4095 (w13.setCell ⟨g, 1, none⟩ (.int .i64 kd)) HRs.out HL3.out
      go_wp2_with fail
      with_reducible refine PN.mono ?_
      clear PN fI cI
      generalize w13.setCell ⟨g, 1, none⟩ (.int .i64 kd) = w14 at *
      rintro r w15 ⟨md, L4, e4, hn, rfl, HR2, hb⟩
      have T_md := Lib.hid (rd_num hn.out)
      have HL4 := Lib.hid (Nat.le_trans hn.out.le HL3.out)
      have HK2 := Lib.hid (HKs.out.but hb.out HGK.out)
      have HA2 := Lib.hid (HAs.out.but hb.out HKB.out)
      have BL2 := Lib.hid (BLs.out.trans (hb.out.below HWK.out BLs.out.size))
      have HB2 := Lib.hid (Nat.le_trans HBs.out hb.out.size)
      clear HKs HRs HAs BLs HBs hb
      have HK := HK2
      have HR := HR2
      have HA := HA2
      have BL := BL2
      have HBB := HB2
      clear HK2 HR2 HA2 BL2 HB2
      clear hn
      have fI := HK.out.free 2
      have cI := HK.out.at 2 (by rw [Nd.cells_length _ _ rfl]; decide)
      have BG : But g w15 (w15.setCell ⟨g, 2, none⟩ (.int .i64 md)) := (But.refl g w15).setCell _ _ (Or.inl rfl)
      have HKs : Hid (blockIs (w15.setCell ⟨g, 2, none⟩ (.int .i64 md)) g (Nd.cells (⟨t, kd, md, 0, 0, [], [], noughts⟩ : Nd) (.slice none 0 0)) 26) := Lib.hid (HK.out.set 2 _)
      have HRs : Hid (DAt (w15.setCell ⟨g, 2, none⟩ (.int .i64 md)) k _ _) := Lib.hid (blockIs.but BG HR.out HKG.out)
      have HAs : Hid (ownB (w15.setCell ⟨g, 2, none⟩ (.int .i64 md)) B _ Q) := Lib.hid (HA.out.grown BG.grow HOG.out)
      have BLs : Hid (Below w.heap.size w (w15.setCell ⟨g, 2, none⟩ (.int .i64 md))) := Lib.hid (BL.out.trans (BG.below HWG.out BL.out.size))
      have HBs : Hid (B ≤ (w15.setCell ⟨g, 2, none⟩ (.int .i64 md)).heap.size) := Lib.hid (Nat.le_trans HBB.out BG.size)
      clear BG HK HR HA BL HBB
      have PN := dnum_any k L4 e4 1099511627776 (w15.setCell ⟨g, 2, none⟩ (.int .i64 md)) HRs.out HL4.out
      go_wp2_with fail
      with_reducible refine PN.mono ?_
      clear PN fI cI
      generalize w15.setCell ⟨g, 2, none⟩ (.int .i64 md) = w16 at *
      rintro r w17 ⟨ti, L5, e5, hn, rfl, HR2, hb⟩
      have T_ti := Lib.hid (rd_num hn.out)
      have HL5 := Lib.hid (Nat.le_trans hn.out.le HL4.out)
      have HK2 := Lib.hid (HKs.out.but hb.out HGK.out)
      have HA2 := Lib.hid (HAs.out.but hb.out HKB.out)
      have BL2 := Lib.hid (BLs.out.trans (hb.out.below HWK.out BLs.out.size))
      have HB2 := Lib.hid (Nat.le_trans HBs.out hb.out.size)
      clear HKs HRs HAs BLs HBs hb
      have HK := HK2
      have HR := HR2
      have HA := HA2
      have BL := BL2
      have HBB := HB2
      clear HK2 HR2 HA2 BL2 HB2
      clear hn
      have HD := Lib.hid (hd_rd T_t.out T_kd.out T_md.out T_ti.out)
      have BK := T_kd.out.bound (by decide)
      have BKH := Lib.hid BK
      have BMH := Lib.hid (T_md.out.bound (by decide))
      have BTH := Lib.hid (T_ti.out.bound (by decide))
      have BN := Lib.hid T_t.out.tbound
      clear T_t T_kd T_md T_ti HL2 HL3 HL4 HLJ
      have fI := HK.out.free 3
      have cI := HK.out.at 3 (by rw [Nd.cells_length _ _ rfl]; decide)
      have BG : But g w17 (w17.setCell ⟨g, 3, none⟩ (.int .i64 ti)) := (But.refl g w17).setCell _ _ (Or.inl rfl)
      have HKs : Hid (blockIs (w17.setCell ⟨g, 3, none⟩ (.int .i64 ti)) g (Nd.cells (⟨t, kd, md, ti, 0, [], [], noughts⟩ : Nd) (.slice none 0 0)) 26) := Lib.hid (HK.out.set 3 _)
      have HRs : Hid (DAt (w17.setCell ⟨g, 3, none⟩ (.int .i64 ti)) k _ _) := Lib.hid (blockIs.but BG HR.out HKG.out)
      have HAs : Hid (ownB (w17.setCell ⟨g, 3, none⟩ (.int .i64 ti)) B _ Q) := Lib.hid (HA.out.grown BG.grow HOG.out)
      have BLs : Hid (Below w.heap.size w (w17.setCell ⟨g, 3, none⟩ (.int .i64 ti))) := Lib.hid (BL.out.trans (BG.below HWG.out BL.out.size))
      have HBs : Hid (B ≤ (w17.setCell ⟨g, 3, none⟩ (.int .i64 ti)).heap.size) := Lib.hid (Nat.le_trans HBB.out BG.size)
      clear BG HK HR HA BL HBB
      have c1 : (w17.setCell ⟨g, 3, none⟩ (.int .i64 ti)).cell? ⟨g, 1, none⟩ = some (.int .i64 kd) := by rw [HKs.out.cell]; rfl
      obtain rfl | rfl | rfl : kd = 0 ∨ kd = 1 ∨ kd = 2 := by omega
      · clear BK
        have PN := dnum_any k L5 e5 1048576 (w17.setCell ⟨g, 3, none⟩ (.int .i64 ti)) HRs.out HL5.out
        go_wp2_with fail
        with_reducible refine PN.mono ?_
        clear PN fI cI
        generalize w17.setCell ⟨g, 3, none⟩ (.int .i64 ti) = w18 at *
        rintro r w19 ⟨sz, L6, e6, hn, rfl, HR2, hb⟩
        have T_sz := Lib.hid (rd_num hn.out)
        have HL6 := Lib.hid (Nat.le_trans hn.out.le HL5.out)
        have HK2 := Lib.hid (HKs.out.but hb.out HGK.out)
        have HA2 := Lib.hid (HAs.out.but hb.out HKB.out)
        have BL2 := Lib.hid (BLs.out.trans (hb.out.below HWK.out BLs.out.size))
        have HB2 := Lib.hid (Nat.le_trans HBs.out hb.out.size)
        clear HKs HRs HAs BLs HBs hb
        have HK := HK2
        have HR := HR2
        have HA := HA2
        have BL := BL2
        have HBB := HB2
        clear HK2 HR2 HA2 BL2 HB2
        clear hn
        have BSH := Lib.hid (T_sz.out.bound (by decide))
        clear c1
        have fI := HK.out.free 4
        have cI := HK.out.at 4 (by rw [Nd.cells_length _ _ rfl]; decide)
        have BG : But g w19 (w19.setCell ⟨g, 4, none⟩ (.int .i64 sz)) := (But.refl g w19).setCell _ _ (Or.inl rfl)
        have HKs : Hid (blockIs (w19.setCell ⟨g, 4, none⟩ (.int .i64 sz)) g (Nd.cells (⟨t, 0, md, ti, sz, [], [], noughts⟩ : Nd) (.slice none 0 0)) 26) := Lib.hid (HK.out.set 4 _)
        have HRs : Hid (DAt (w19.setCell ⟨g, 4, none⟩ (.int .i64 sz)) k _ _) := Lib.hid (blockIs.but BG HR.out HKG.out)
        have HAs : Hid (ownB (w19.setCell ⟨g, 4, none⟩ (.int .i64 sz)) B _ Q) := Lib.hid (HA.out.grown BG.grow HOG.out)
        have BLs : Hid (Below w.heap.size w (w19.setCell ⟨g, 4, none⟩ (.int .i64 sz))) := Lib.hid (BL.out.trans (BG.below HWG.out BL.out.size))
        have HBs : Hid (B ≤ (w19.setCell ⟨g, 4, none⟩ (.int .i64 sz)).heap.size) := Lib.hid (Nat.le_trans HBB.out BG.size)
        clear BG HK HR HA BL HBB
        have PN := dnum_any k L6 e6 sz (w19.setCell ⟨g, 4, none⟩ (.int .i64 sz)) HRs.out HL6.out
        go_wp2_with fail
        with_reducible refine PN.mono ?_
        clear PN fI cI
        generalize w19.setCell ⟨g, 4, none⟩ (.int .i64 sz) = w20 at *
        rintro r w21 ⟨c, L7, e7, hn, rfl, HR2, hb⟩
        have T_c := Lib.hid (rd_num hn.out)
        have HL7 := Lib.hid (Nat.le_trans hn.out.le HL6.out)
        have HK2 := Lib.hid (HKs.out.but hb.out HGK.out)
        have HA2 := Lib.hid (HAs.out.but hb.out HKB.out)
        have BL2 := Lib.hid (BLs.out.trans (hb.out.below HWK.out BLs.out.size))
        have HB2 := Lib.hid (Nat.le_trans HBs.out hb.out.size)
        clear HKs HRs HAs BLs HBs hb
        have HK := HK2
        have HR := HR2
        have HA := HA2
        have BL := BL2
        have HBB := HB2
        clear HK2 HR2 HA2 BL2 HB2
        clear hn
        have BCH := Lib.hid (T_c.out.bound BSH.out.1)
        have HV0 := Lib.hid (IdsInv.start c L7 e7)
        have HPR0 : Hid (w21.ownsRow B 24 32 (.slice none 0 0) 0 (idcells [])) := Lib.hid (World.ownsRow_nil _ _ _ _)
        have HC9 : Hid (c ≤ 1048576) := Lib.hid (by have h1 := BSH.out; have h2 := BCH.out; omega)
        have hc0 : 0 ≤ c := BCH.out.1
        clear HL5 HL6
        go_wp2_with fail
        go_loopw [10] (fun i wr => ∃ (m : Nat) (Pl : List (List UInt8)) (pv : Value) (Lm : List UInt8) (em : Int), (m : Int) ≤ c ∧ i = .int .i64 m ∧ Pl.length = m ∧ Hid (DAt wr k Lm em) ∧ Hid (IdsInv c L7 e7 Pl Lm em) ∧ Hid (Lm.length ≤ 100000000) ∧ Hid (blockIs wr g (Nd.cells (⟨t, 0, md, ti, sz, [], Pl, noughts⟩ : Nd) pv) 26) ∧ Hid (wr.ownsRow B 24 32 pv Pl.length (idcells Pl)) ∧ Hid (Off u6 Q pv.ownBlock) ∧ Hid (ownB wr B u6 Q) ∧ Hid (Below w.heap.size w wr) ∧ Hid (B ≤ wr.heap.size)) (fun i _ => c.toNat - (intOf i).toNat)
        case atStart => exact ⟨0, [], .slice none 0 0, L7, e7, hc0, rfl, rfl, HR, HV0, HL7, HK, HPR0, Lib.hid (Off.none _ _), HA, BL, HBB⟩
        case round =>
          clear HR HV0 HL7 HK HPR0 HA BL HBB
          obtain ⟨m, Pl, pv, Lm, em, hm, rfl, hPl, HR, HV, HLM, HK, HPRW, HOFP, HA, BL, HBB⟩ := hrel
          have pm : 0 ≤ (m : Int) := by omega
          have hc9 := HC9.out
          have c1 : wr.cell? ⟨k, 1, none⟩ = some (.int .i64 em) := by rw [blockIs.cell HR.out]; rfl
          by_cases hm1 : (m : Int) < c ∧ em = 0
          · obtain ⟨hm1, rfl⟩ := hm1
            have qm : (m : Int) < c := hm1
            go_upto_region 19 with fail
            refine wp_region_noPanic ?_
            refine wp_region_held_drew (S := fun _ => True) (by kernel_rfl) trivial (fun hH => ?_)
            have HR : Hid (DAt wr.drew k Lm 0) := HR
            have HK : Hid (blockIs wr.drew g _ 26) := HK
            have HPRW : Hid (wr.drew.ownsRow B 24 32 pv Pl.length (idcells Pl)) := Lib.hid HPRW.out.drew
            have BL : Hid (Below w.heap.size w wr.drew) := Lib.hid BL.out.drew
            have HBB : Hid (B ≤ wr.drew.heap.size) := HBB
            have HA : Hid (ownB wr.drew B u6 Q) := Lib.hid (HA.out.grown (row := none) ⟨rfl, rfl, rfl, Nat.le_refl _, fun _ _ _ => rfl⟩ (Off.none _ _))
            have HRW := Lib.hid (rd_raw Lm 0 32)
            have HLM2 := Lib.hid (Nat.le_trans (tLeft_le Lm 0 32) HLM.out)
            clear c1
            generalize wr.drew = y0 at *
            have PDA : Hid (∀ W, DAt W k Lm 0 → Calls Try.prog 40 #[.pointer (some ⟨k, 0, none⟩)] W fun r w' => ∃ t, r = .returned (.agg (bvals t).toArray) ∧ t.length = 32 ∧ Hid (tErr Lm 0 32 = 0 → t = tOut Lm 0 32) ∧ Hid (DAt w' k (tLeft Lm 0 32) (tErr Lm 0 32)) ∧ Hid (But k W w')) := Lib.hid (fun W h => did_any k Lm 0 W h HLM.out)
            generalize tOut Lm 0 32 = TR at *
            generalize tLeft Lm 0 32 = Ln at *
            generalize tErr Lm 0 32 = en at *
            refine wpAnyH_take (i := 0) (oi := { dst := some 65, op := Op.fieldAddr 26 (Operand.tmp 8) 6, type := 0, pos := "ref.go:127", after := #[], guard := none }) (v := .pointer (some ⟨g, 6, none⟩)) rfl (by kernel_rfl) (by kernel_rfl) (by kernel_rfl) (fun _ _ _ h => h) (Or.inl ⟨by rfl, fun wx hS => ?_⟩) hH ?_
            · go_simp
            simp only [Act.put, List.setIfInBounds_toArray, List.set_cons_zero, List.set_cons_succ]
            refine wpAnyH_take (i := 2) (oi := { dst := some 67, op := Op.move (Operand.tmp 4), type := 69, pos := "ref.go:127", after := #[], guard := none }) (v := .pointer (some ⟨k, 0, none⟩)) rfl (by kernel_rfl) (by kernel_rfl) (by kernel_rfl) (fun _ _ _ h => h) (Or.inl ⟨by rfl, fun wx hS => ?_⟩) hH ?_
            · go_simp
            simp only [Act.put, List.setIfInBounds_toArray, List.set_cons_zero, List.set_cons_succ]
            refine wpAnyH_ready (rs := [1, 3]) (by kernel_rfl) (by simp) ?_
            refine AllReadyH.cons (o := { dst := some 66, op := Op.load 22 (Operand.tmp 65), type := 22, pos := "ref.go:127", after := #[{ on := 0, ground := Ground.data }], guard := none }) rfl (fun KK hKK => ?_) (AllReadyH.cons (o := { dst := some 68, op := Op.call { callee := Callee.value (Operand.func 40), args := #[Operand.tmp 67], argTypes := #[69] }, type := 24, pos := "ref.go:127", after := #[{ on := 2, ground := Ground.data }], guard := none }) rfl (fun KK hKK => ?_) AllReadyH.nil)
            · have c6 : y0.cell? ⟨g, 6, none⟩ = some pv := by rw [HK.out.cell]; rfl
              go_simp
              clear hH
              refine hKK.out _ _ trivial (fun hH => ?_)
              clear hKK KK
              try simp only [Act.put, List.setIfInBounds_toArray, List.set_cons_zero, List.set_cons_succ]
              clear c6
              refine wpAnyH_ready (rs := [3]) (by kernel_rfl) (by simp) ?_
              refine AllReadyH.cons (o := { dst := some 68, op := Op.call { callee := Callee.value (Operand.func 40), args := #[Operand.tmp 67], argTypes := #[69] }, type := 24, pos := "ref.go:127", after := #[{ on := 2, ground := Ground.data }], guard := none }) rfl (fun KK hKK => ?_) AllReadyH.nil
              go_simp
              refine (PDA.out y0 HR.out).mono ?_
              rintro r y1 ⟨tt, rfl, ht32, HTE, HR2, hb⟩
              have HT32 := Lib.hid ht32
              clear ht32
              clear hH
              refine hKK.out _ _ trivial (fun hH => ?_)
              clear hKK KK
              try simp only [Act.put, List.setIfInBounds_toArray, List.set_cons_zero, List.set_cons_succ]
              have HK2 := Lib.hid (HK.out.but hb.out HGK.out)
              have HP2 := Lib.hid (own_but HPRW.out hb.out HKB.out)
              have HA2 := Lib.hid (HA.out.but hb.out HKB.out)
              have BL2 := Lib.hid (BL.out.trans (hb.out.below HWK.out BL.out.size))
              have HB2 := Lib.hid (Nat.le_trans HBB.out hb.out.size)
              clear HK HR HPRW HA BL HBB hb
              have HK := HK2
              have HR := HR2
              have HPRW := HP2
              have HA := HA2
              have BL := BL2
              have HBB := HB2
              clear HK2 HR2 HP2 HA2 BL2 HB2
              refine wpAnyH_ready (rs := [4]) (by kernel_rfl) (by simp) ?_
              refine AllReadyH.cons (o := { dst := some 69, op := Op.buildSlice 22 1 #[(0, Operand.tmp 68)], type := 22, pos := "ref.go:127", after := #[{ on := 3, ground := Ground.data }], guard := none }) rfl (fun KK hKK => ?_) AllReadyH.nil
              refine step_build_id (by rfl) _ rfl (bvals tt) (by rw [bvals_length]; exact HT32.out) rfl ?_
              clear hH
              refine hKK.out _ _ trivial (fun hH => ?_)
              clear hKK KK
              try simp only [Act.put, List.setIfInBounds_toArray, List.set_cons_zero, List.set_cons_succ]
              have kb := alloc_below y1 (.cells (bvals tt).toArray 24 (0, 0))
              have HLI : Hid (blockIs (y1.alloc (.cells (bvals tt).toArray 24)) y1.heap.size (bvals tt) 24) := Lib.hid (blockIs.new y1 (bvals tt) 24)
              have HK2 : Hid (blockIs (y1.alloc (.cells (bvals tt).toArray 24)) g _ 26) := Lib.hid (HK.out.below kb HK.out.lt)
              have HR2 : Hid (DAt (y1.alloc (.cells (bvals tt).toArray 24)) k _ _) := Lib.hid (DAt.below HR.out kb)
              have HP2 : Hid ((y1.alloc (.cells (bvals tt).toArray 24)).ownsRow B 24 32 pv Pl.length (idcells Pl)) := Lib.hid (row_below HPRW.out kb)
              have HA2 : Hid (ownB (y1.alloc (.cells (bvals tt).toArray 24)) B u6 Q) := Lib.hid (HA.out.below kb)
              have BL2 : Hid (Below w.heap.size w (y1.alloc (.cells (bvals tt).toArray 24))) := Lib.hid (BL.out.trans (kb.mono BL.out.size))
              have HB2 : Hid (B ≤ (y1.alloc (.cells (bvals tt).toArray 24)).heap.size) := Lib.hid (Nat.le_trans HBB.out kb.size)
              clear HK HR HPRW HA BL HBB kb
              have HK := HK2
              have HR := HR2
              have HPRW := HP2
              have HA := HA2
              have BL := BL2
              have HBB := HB2
              clear HK2 HR2 HP2 HA2 BL2 HB2
              generalize y1.alloc (.cells (bvals tt).toArray 24) = y2 at *
              generalize y1.heap.size = gl at *
              refine wpAnyH_ready (rs := [5]) (by kernel_rfl) (by simp) ?_
              refine AllReadyH.cons (o := { dst := some 70, op := Op.call { callee := Callee.builtin Builtin.append, args := #[Operand.tmp 66, Operand.tmp 69], argTypes := #[22, 22] }, type := 22, pos := "ref.go:127", after := #[{ on := 1, ground := Ground.data }, { on := 4, ground := Ground.data }, { on := 3, ground := Ground.chain }], guard := none }) rfl (fun KK hKK => ?_) AllReadyH.nil
              refine step_push_id (by rfl) _ _ rfl B pv Pl rfl HPRW.out gl rfl tt HT32.out HLI.out (by have := HC9.out; omega) HBB.out ?_
              intro v9 y9 h1 h2 h4
              clear hH
              refine hKK.out _ _ trivial (fun hH => ?_)
              clear hKK KK
              try simp only [Act.put, List.setIfInBounds_toArray, List.set_cons_zero, List.set_cons_succ]
              have hoff9 : Off u6 Q v9.ownBlock := by
                rcases h4 with h | h
                · rw [h]; exact HOFP.out
                · rw [h]; exact HA.out.fresh (Nat.le_refl _)
              have HOF9 := Lib.hid hoff9
              have hb9 : Below B y2 y9 := own_grown HPRW.out h2 HBB.out
              have hg6 : pv.ownBlock ≠ some g := not_block HPRW.out HK.out (by decide)
              have HK2 := Lib.hid (HK.out.grown h2 hg6)
              have HR2 := Lib.hid (blockIs.grown HR.out h2 (fun e => by
                have h5 := (HPRW.out.lt k e).1
                have h6 := HKB.out
                omega))
              have HA2 := Lib.hid (HA.out.grown h2 HOFP.out)
              have BL2 := Lib.hid (BL.out.trans (hb9.mono HWB.out))
              have HB2 := Lib.hid (Nat.le_trans HBB.out hb9.size)
              have HNV := Lib.hid (HV.out.next (by omega : (Pl.length : Int) < c) HRW.out HT32.out HTE.out)
              have hl1 : (Pl ++ [tt]).length = Pl.length + 1 := by simp
              rw [hl1, hPl] at h1
              obtain ⟨g9, p9, rfl⟩ := ownsRow_succ h1
              have HP9 := Lib.hid h1
              clear HK HR HPRW HA BL HBB h1 h2 h4 hoff9 hb9 hg6 HLI
              have HK := HK2
              have HR := HR2
              have HA := HA2
              have BL := BL2
              have HBB := HB2
              clear HK2 HR2 HA2 BL2 HB2
              refine wpAnyH_take (i := 6) (oi := { dst := some 71, op := Op.fieldAddr 26 (Operand.tmp 8) 6, type := 0, pos := "ref.go:127", after := #[{ on := 0, ground := Ground.phase }, { on := 1, ground := Ground.phase }, { on := 2, ground := Ground.phase }, { on := 3, ground := Ground.phase }, { on := 4, ground := Ground.phase }, { on := 5, ground := Ground.phase }], guard := none }) (v := .pointer (some ⟨g, 6, none⟩)) rfl (by kernel_rfl) (by kernel_rfl) (by kernel_rfl) (fun _ _ _ h => h) (Or.inl ⟨by rfl, fun wx hS => ?_⟩) hH ?_
              · go_simp
              simp only [Act.put, List.setIfInBounds_toArray, List.set_cons_zero, List.set_cons_succ]
              refine wpAnyH_ready (rs := [7]) (by kernel_rfl) (by simp) ?_
              refine AllReadyH.cons (o := { dst := none, op := Op.store 22 (Operand.tmp 71) (Operand.tmp 70), type := 0, pos := "ref.go:127", after := #[{ on := 6, ground := Ground.data }, { on := 5, ground := Ground.data }, { on := 5, ground := Ground.chain }, { on := 0, ground := Ground.phase }, { on := 1, ground := Ground.phase }, { on := 2, ground := Ground.phase }, { on := 3, ground := Ground.phase }, { on := 4, ground := Ground.phase }, { on := 5, ground := Ground.phase }], guard := none }) rfl (fun KK hKK => ?_) AllReadyH.nil
              have f6 := HK.out.free 6
              have c6 : y9.cell? ⟨g, 6, none⟩ = some pv := by rw [HK.out.cell]; rfl
              have BG : But g y9 (y9.setCell ⟨g, 6, none⟩ (.slice (some ⟨g9, 0, none⟩) (m + 1) p9)) := (But.refl g y9).setCell _ _ (Or.inl rfl)
              have hn9 : (some g : Option Nat) ≠ some g9 := fun e => not_block HP9.out HK.out (by decide) (by rw [show (Value.slice (some ⟨g9, 0, none⟩) (m + 1) p9).ownBlock = some g9 from rfl, ← e])
              have HKs : Hid (blockIs (y9.setCell ⟨g, 6, none⟩ (.slice (some ⟨g9, 0, none⟩) (m + 1) p9)) g (Nd.cells (⟨t, 0, md, ti, sz, [], Pl ++ [tt], noughts⟩ : Nd) (.slice (some ⟨g9, 0, none⟩) (m + 1) p9)) 26) := Lib.hid (HK.out.set 6 _)
              have HRs : Hid (DAt (y9.setCell ⟨g, 6, none⟩ (.slice (some ⟨g9, 0, none⟩) (m + 1) p9)) k _ _) := Lib.hid (blockIs.but BG HR.out HKG.out)
              have HAs : Hid (ownB (y9.setCell ⟨g, 6, none⟩ (.slice (some ⟨g9, 0, none⟩) (m + 1) p9)) B u6 Q) := Lib.hid (HA.out.grown BG.grow HOG.out)
              have HPs : Hid ((y9.setCell ⟨g, 6, none⟩ (.slice (some ⟨g9, 0, none⟩) (m + 1) p9)).ownsRow B 24 32 (.slice (some ⟨g9, 0, none⟩) (m + 1) p9) (Pl ++ [tt]).length (idcells (Pl ++ [tt]))) := Lib.hid (by rw [hl1, hPl]; exact HP9.out.kept BG.grow (.inr (fun e => hn9 e.symm)))
              have BLs : Hid (Below w.heap.size w (y9.setCell ⟨g, 6, none⟩ (.slice (some ⟨g9, 0, none⟩) (m + 1) p9))) := Lib.hid (BL.out.trans (BG.below HWG.out BL.out.size))
              have HBs : Hid (B ≤ (y9.setCell ⟨g, 6, none⟩ (.slice (some ⟨g9, 0, none⟩) (m + 1) p9)).heap.size) := Lib.hid (Nat.le_trans HBB.out BG.size)
              have HLQ9 : Hid ((Pl ++ [tt]).length = m + 1) := Lib.hid (by rw [hl1, hPl])
              clear BG HK HR HA BL HBB HP9 hl1 hn9
              go_simp
              clear hH
              refine hKK.out _ _ trivial (fun hH => ?_)
              clear hKK KK
              try simp only [Act.put, List.setIfInBounds_toArray, List.set_cons_zero, List.set_cons_succ]
              clear f6 c6
              refine wpAnyH_done (by kernel_rfl) ?_ _
              refine NoPanic.normal ?_
              go_wp2_with fail
              go_roundw
              case rel => exact ⟨m + 1, Pl ++ [tt], _, Ln, en, by omega, by go_num, HLQ9.out, HRs, HNV, HLM2, HKs, HPs, HOF9, HAs, BLs, HBs⟩
              case measure => simp [intOf]; omega
            · go_simp
              refine (PDA.out y0 HR.out).mono ?_
              rintro r y1 ⟨tt, rfl, ht32, HTE, HR2, hb⟩
              have HT32 := Lib.hid ht32
              clear ht32
              clear hH
              refine hKK.out _ _ trivial (fun hH => ?_)
              clear hKK KK
              try simp only [Act.put, List.setIfInBounds_toArray, List.set_cons_zero, List.set_cons_succ]
              have HK2 := Lib.hid (HK.out.but hb.out HGK.out)
              have HP2 := Lib.hid (own_but HPRW.out hb.out HKB.out)
              have HA2 := Lib.hid (HA.out.but hb.out HKB.out)
              have BL2 := Lib.hid (BL.out.trans (hb.out.below HWK.out BL.out.size))
              have HB2 := Lib.hid (Nat.le_trans HBB.out hb.out.size)
              clear HK HR HPRW HA BL HBB hb
              have HK := HK2
              have HR := HR2
              have HPRW := HP2
              have HA := HA2
              have BL := BL2
              have HBB := HB2
              clear HK2 HR2 HP2 HA2 BL2 HB2
              refine wpAnyH_ready (rs := [1, 4]) (by kernel_rfl) (by simp) ?_
              refine AllReadyH.cons (o := { dst := some 66, op := Op.load 22 (Operand.tmp 65), type := 22, pos := "ref.go:127", after := #[{ on := 0, ground := Ground.data }], guard := none }) rfl (fun KK hKK => ?_) (AllReadyH.cons (o := { dst := some 69, op := Op.buildSlice 22 1 #[(0, Operand.tmp 68)], type := 22, pos := "ref.go:127", after := #[{ on := 3, ground := Ground.data }], guard := none }) rfl (fun KK hKK => ?_) AllReadyH.nil)
              · have c6 : y1.cell? ⟨g, 6, none⟩ = some pv := by rw [HK.out.cell]; rfl
                go_simp
                clear hH
                refine hKK.out _ _ trivial (fun hH => ?_)
                clear hKK KK
                try simp only [Act.put, List.setIfInBounds_toArray, List.set_cons_zero, List.set_cons_succ]
                clear c6
                refine wpAnyH_ready (rs := [4]) (by kernel_rfl) (by simp) ?_
                refine AllReadyH.cons (o := { dst := some 69, op := Op.buildSlice 22 1 #[(0, Operand.tmp 68)], type := 22, pos := "ref.go:127", after := #[{ on := 3, ground := Ground.data }], guard := none }) rfl (fun KK hKK => ?_) AllReadyH.nil
                refine step_build_id (by rfl) _ rfl (bvals tt) (by rw [bvals_length]; exact HT32.out) rfl ?_
                clear hH
                refine hKK.out _ _ trivial (fun hH => ?_)
                clear hKK KK
                try simp only [Act.put, List.setIfInBounds_toArray, List.set_cons_zero, List.set_cons_succ]
                have kb := alloc_below y1 (.cells (bvals tt).toArray 24 (0, 0))
                have HLI : Hid (blockIs (y1.alloc (.cells (bvals tt).toArray 24)) y1.heap.size (bvals tt) 24) := Lib.hid (blockIs.new y1 (bvals tt) 24)
                have HK2 : Hid (blockIs (y1.alloc (.cells (bvals tt).toArray 24)) g _ 26) := Lib.hid (HK.out.below kb HK.out.lt)
                have HR2 : Hid (DAt (y1.alloc (.cells (bvals tt).toArray 24)) k _ _) := Lib.hid (DAt.below HR.out kb)
                have HP2 : Hid ((y1.alloc (.cells (bvals tt).toArray 24)).ownsRow B 24 32 pv Pl.length (idcells Pl)) := Lib.hid (row_below HPRW.out kb)
                have HA2 : Hid (ownB (y1.alloc (.cells (bvals tt).toArray 24)) B u6 Q) := Lib.hid (HA.out.below kb)
                have BL2 : Hid (Below w.heap.size w (y1.alloc (.cells (bvals tt).toArray 24))) := Lib.hid (BL.out.trans (kb.mono BL.out.size))
                have HB2 : Hid (B ≤ (y1.alloc (.cells (bvals tt).toArray 24)).heap.size) := Lib.hid (Nat.le_trans HBB.out kb.size)
                clear HK HR HPRW HA BL HBB kb
                have HK := HK2
                have HR := HR2
                have HPRW := HP2
                have HA := HA2
                have BL := BL2
                have HBB := HB2
                clear HK2 HR2 HP2 HA2 BL2 HB2
                generalize y1.alloc (.cells (bvals tt).toArray 24) = y2 at *
                generalize y1.heap.size = gl at *
                refine wpAnyH_ready (rs := [5]) (by kernel_rfl) (by simp) ?_
                refine AllReadyH.cons (o := { dst := some 70, op := Op.call { callee := Callee.builtin Builtin.append, args := #[Operand.tmp 66, Operand.tmp 69], argTypes := #[22, 22] }, type := 22, pos := "ref.go:127", after := #[{ on := 1, ground := Ground.data }, { on := 4, ground := Ground.data }, { on := 3, ground := Ground.chain }], guard := none }) rfl (fun KK hKK => ?_) AllReadyH.nil
                refine step_push_id (by rfl) _ _ rfl B pv Pl rfl HPRW.out gl rfl tt HT32.out HLI.out (by have := HC9.out; omega) HBB.out ?_
                intro v9 y9 h1 h2 h4
                clear hH
                refine hKK.out _ _ trivial (fun hH => ?_)
                clear hKK KK
                try simp only [Act.put, List.setIfInBounds_toArray, List.set_cons_zero, List.set_cons_succ]
                have hoff9 : Off u6 Q v9.ownBlock := by
                  rcases h4 with h | h
                  · rw [h]; exact HOFP.out
                  · rw [h]; exact HA.out.fresh (Nat.le_refl _)
                have HOF9 := Lib.hid hoff9
                have hb9 : Below B y2 y9 := own_grown HPRW.out h2 HBB.out
                have hg6 : pv.ownBlock ≠ some g := not_block HPRW.out HK.out (by decide)
                have HK2 := Lib.hid (HK.out.grown h2 hg6)
                have HR2 := Lib.hid (blockIs.grown HR.out h2 (fun e => by
                  have h5 := (HPRW.out.lt k e).1
                  have h6 := HKB.out
                  omega))
                have HA2 := Lib.hid (HA.out.grown h2 HOFP.out)
                have BL2 := Lib.hid (BL.out.trans (hb9.mono HWB.out))
                have HB2 := Lib.hid (Nat.le_trans HBB.out hb9.size)
                have HNV := Lib.hid (HV.out.next (by omega : (Pl.length : Int) < c) HRW.out HT32.out HTE.out)
                have hl1 : (Pl ++ [tt]).length = Pl.length + 1 := by simp
                rw [hl1, hPl] at h1
                obtain ⟨g9, p9, rfl⟩ := ownsRow_succ h1
                have HP9 := Lib.hid h1
                clear HK HR HPRW HA BL HBB h1 h2 h4 hoff9 hb9 hg6 HLI
                have HK := HK2
                have HR := HR2
                have HA := HA2
                have BL := BL2
                have HBB := HB2
                clear HK2 HR2 HA2 BL2 HB2
                refine wpAnyH_take (i := 6) (oi := { dst := some 71, op := Op.fieldAddr 26 (Operand.tmp 8) 6, type := 0, pos := "ref.go:127", after := #[{ on := 0, ground := Ground.phase }, { on := 1, ground := Ground.phase }, { on := 2, ground := Ground.phase }, { on := 3, ground := Ground.phase }, { on := 4, ground := Ground.phase }, { on := 5, ground := Ground.phase }], guard := none }) (v := .pointer (some ⟨g, 6, none⟩)) rfl (by kernel_rfl) (by kernel_rfl) (by kernel_rfl) (fun _ _ _ h => h) (Or.inl ⟨by rfl, fun wx hS => ?_⟩) hH ?_
                · go_simp
                simp only [Act.put, List.setIfInBounds_toArray, List.set_cons_zero, List.set_cons_succ]
                refine wpAnyH_ready (rs := [7]) (by kernel_rfl) (by simp) ?_
                refine AllReadyH.cons (o := { dst := none, op := Op.store 22 (Operand.tmp 71) (Operand.tmp 70), type := 0, pos := "ref.go:127", after := #[{ on := 6, ground := Ground.data }, { on := 5, ground := Ground.data }, { on := 5, ground := Ground.chain }, { on := 0, ground := Ground.phase }, { on := 1, ground := Ground.phase }, { on := 2, ground := Ground.phase }, { on := 3, ground := Ground.phase }, { on := 4, ground := Ground.phase }, { on := 5, ground := Ground.phase }], guard := none }) rfl (fun KK hKK => ?_) AllReadyH.nil
                have f6 := HK.out.free 6
                have c6 : y9.cell? ⟨g, 6, none⟩ = some pv := by rw [HK.out.cell]; rfl
                have BG : But g y9 (y9.setCell ⟨g, 6, none⟩ (.slice (some ⟨g9, 0, none⟩) (m + 1) p9)) := (But.refl g y9).setCell _ _ (Or.inl rfl)
                have hn9 : (some g : Option Nat) ≠ some g9 := fun e => not_block HP9.out HK.out (by decide) (by rw [show (Value.slice (some ⟨g9, 0, none⟩) (m + 1) p9).ownBlock = some g9 from rfl, ← e])
                have HKs : Hid (blockIs (y9.setCell ⟨g, 6, none⟩ (.slice (some ⟨g9, 0, none⟩) (m + 1) p9)) g (Nd.cells (⟨t, 0, md, ti, sz, [], Pl ++ [tt], noughts⟩ : Nd) (.slice (some ⟨g9, 0, none⟩) (m + 1) p9)) 26) := Lib.hid (HK.out.set 6 _)
                have HRs : Hid (DAt (y9.setCell ⟨g, 6, none⟩ (.slice (some ⟨g9, 0, none⟩) (m + 1) p9)) k _ _) := Lib.hid (blockIs.but BG HR.out HKG.out)
                have HAs : Hid (ownB (y9.setCell ⟨g, 6, none⟩ (.slice (some ⟨g9, 0, none⟩) (m + 1) p9)) B u6 Q) := Lib.hid (HA.out.grown BG.grow HOG.out)
                have HPs : Hid ((y9.setCell ⟨g, 6, none⟩ (.slice (some ⟨g9, 0, none⟩) (m + 1) p9)).ownsRow B 24 32 (.slice (some ⟨g9, 0, none⟩) (m + 1) p9) (Pl ++ [tt]).length (idcells (Pl ++ [tt]))) := Lib.hid (by rw [hl1, hPl]; exact HP9.out.kept BG.grow (.inr (fun e => hn9 e.symm)))
                have BLs : Hid (Below w.heap.size w (y9.setCell ⟨g, 6, none⟩ (.slice (some ⟨g9, 0, none⟩) (m + 1) p9))) := Lib.hid (BL.out.trans (BG.below HWG.out BL.out.size))
                have HBs : Hid (B ≤ (y9.setCell ⟨g, 6, none⟩ (.slice (some ⟨g9, 0, none⟩) (m + 1) p9)).heap.size) := Lib.hid (Nat.le_trans HBB.out BG.size)
                have HLQ9 : Hid ((Pl ++ [tt]).length = m + 1) := Lib.hid (by rw [hl1, hPl])
                clear BG HK HR HA BL HBB HP9 hl1 hn9
                go_simp
                clear hH
                refine hKK.out _ _ trivial (fun hH => ?_)
                clear hKK KK
                try simp only [Act.put, List.setIfInBounds_toArray, List.set_cons_zero, List.set_cons_succ]
                clear f6 c6
                refine wpAnyH_done (by kernel_rfl) ?_ _
                refine NoPanic.normal ?_
                go_wp2_with fail
                go_roundw
                case rel => exact ⟨m + 1, Pl ++ [tt], _, Ln, en, by omega, by go_num, HLQ9.out, HRs, HNV, HLM2, HKs, HPs, HOF9, HAs, BLs, HBs⟩
                case measure => simp [intOf]; omega
              · refine step_build_id (by rfl) _ rfl (bvals tt) (by rw [bvals_length]; exact HT32.out) rfl ?_
                clear hH
                refine hKK.out _ _ trivial (fun hH => ?_)
                clear hKK KK
                try simp only [Act.put, List.setIfInBounds_toArray, List.set_cons_zero, List.set_cons_succ]
                have kb := alloc_below y1 (.cells (bvals tt).toArray 24 (0, 0))
                have HLI : Hid (blockIs (y1.alloc (.cells (bvals tt).toArray 24)) y1.heap.size (bvals tt) 24) := Lib.hid (blockIs.new y1 (bvals tt) 24)
                have HK2 : Hid (blockIs (y1.alloc (.cells (bvals tt).toArray 24)) g _ 26) := Lib.hid (HK.out.below kb HK.out.lt)
                have HR2 : Hid (DAt (y1.alloc (.cells (bvals tt).toArray 24)) k _ _) := Lib.hid (DAt.below HR.out kb)
                have HP2 : Hid ((y1.alloc (.cells (bvals tt).toArray 24)).ownsRow B 24 32 pv Pl.length (idcells Pl)) := Lib.hid (row_below HPRW.out kb)
                have HA2 : Hid (ownB (y1.alloc (.cells (bvals tt).toArray 24)) B u6 Q) := Lib.hid (HA.out.below kb)
                have BL2 : Hid (Below w.heap.size w (y1.alloc (.cells (bvals tt).toArray 24))) := Lib.hid (BL.out.trans (kb.mono BL.out.size))
                have HB2 : Hid (B ≤ (y1.alloc (.cells (bvals tt).toArray 24)).heap.size) := Lib.hid (Nat.le_trans HBB.out kb.size)
                clear HK HR HPRW HA BL HBB kb
                have HK := HK2
                have HR := HR2
                have HPRW := HP2
                have HA := HA2
                have BL := BL2
                have HBB := HB2
                clear HK2 HR2 HP2 HA2 BL2 HB2
                generalize y1.alloc (.cells (bvals tt).toArray 24) = y2 at *
                generalize y1.heap.size = gl at *
                refine wpAnyH_ready (rs := [1]) (by kernel_rfl) (by simp) ?_
                refine AllReadyH.cons (o := { dst := some 66, op := Op.load 22 (Operand.tmp 65), type := 22, pos := "ref.go:127", after := #[{ on := 0, ground := Ground.data }], guard := none }) rfl (fun KK hKK => ?_) AllReadyH.nil
                have c6 : y2.cell? ⟨g, 6, none⟩ = some pv := by rw [HK.out.cell]; rfl
                go_simp
                clear hH
                refine hKK.out _ _ trivial (fun hH => ?_)
                clear hKK KK
                try simp only [Act.put, List.setIfInBounds_toArray, List.set_cons_zero, List.set_cons_succ]
                clear c6
                refine wpAnyH_ready (rs := [5]) (by kernel_rfl) (by simp) ?_
                refine AllReadyH.cons (o := { dst := some 70, op := Op.call { callee := Callee.builtin Builtin.append, args := #[Operand.tmp 66, Operand.tmp 69], argTypes := #[22, 22] }, type := 22, pos := "ref.go:127", after := #[{ on := 1, ground := Ground.data }, { on := 4, ground := Ground.data }, { on := 3, ground := Ground.chain }], guard := none }) rfl (fun KK hKK => ?_) AllReadyH.nil
                refine step_push_id (by rfl) _ _ rfl B pv Pl rfl HPRW.out gl rfl tt HT32.out HLI.out (by have := HC9.out; omega) HBB.out ?_
                intro v9 y9 h1 h2 h4
                clear hH
                refine hKK.out _ _ trivial (fun hH => ?_)
                clear hKK KK
                try simp only [Act.put, List.setIfInBounds_toArray, List.set_cons_zero, List.set_cons_succ]
                have hoff9 : Off u6 Q v9.ownBlock := by
                  rcases h4 with h | h
                  · rw [h]; exact HOFP.out
                  · rw [h]; exact HA.out.fresh (Nat.le_refl _)
                have HOF9 := Lib.hid hoff9
                have hb9 : Below B y2 y9 := own_grown HPRW.out h2 HBB.out
                have hg6 : pv.ownBlock ≠ some g := not_block HPRW.out HK.out (by decide)
                have HK2 := Lib.hid (HK.out.grown h2 hg6)
                have HR2 := Lib.hid (blockIs.grown HR.out h2 (fun e => by
                  have h5 := (HPRW.out.lt k e).1
                  have h6 := HKB.out
                  omega))
                have HA2 := Lib.hid (HA.out.grown h2 HOFP.out)
                have BL2 := Lib.hid (BL.out.trans (hb9.mono HWB.out))
                have HB2 := Lib.hid (Nat.le_trans HBB.out hb9.size)
                have HNV := Lib.hid (HV.out.next (by omega : (Pl.length : Int) < c) HRW.out HT32.out HTE.out)
                have hl1 : (Pl ++ [tt]).length = Pl.length + 1 := by simp
                rw [hl1, hPl] at h1
                obtain ⟨g9, p9, rfl⟩ := ownsRow_succ h1
                have HP9 := Lib.hid h1
                clear HK HR HPRW HA BL HBB h1 h2 h4 hoff9 hb9 hg6 HLI
                have HK := HK2
                have HR := HR2
                have HA := HA2
                have BL := BL2
                have HBB := HB2
                clear HK2 HR2 HA2 BL2 HB2
                refine wpAnyH_take (i := 6) (oi := { dst := some 71, op := Op.fieldAddr 26 (Operand.tmp 8) 6, type := 0, pos := "ref.go:127", after := #[{ on := 0, ground := Ground.phase }, { on := 1, ground := Ground.phase }, { on := 2, ground := Ground.phase }, { on := 3, ground := Ground.phase }, { on := 4, ground := Ground.phase }, { on := 5, ground := Ground.phase }], guard := none }) (v := .pointer (some ⟨g, 6, none⟩)) rfl (by kernel_rfl) (by kernel_rfl) (by kernel_rfl) (fun _ _ _ h => h) (Or.inl ⟨by rfl, fun wx hS => ?_⟩) hH ?_
                · go_simp
                simp only [Act.put, List.setIfInBounds_toArray, List.set_cons_zero, List.set_cons_succ]
                refine wpAnyH_ready (rs := [7]) (by kernel_rfl) (by simp) ?_
                refine AllReadyH.cons (o := { dst := none, op := Op.store 22 (Operand.tmp 71) (Operand.tmp 70), type := 0, pos := "ref.go:127", after := #[{ on := 6, ground := Ground.data }, { on := 5, ground := Ground.data }, { on := 5, ground := Ground.chain }, { on := 0, ground := Ground.phase }, { on := 1, ground := Ground.phase }, { on := 2, ground := Ground.phase }, { on := 3, ground := Ground.phase }, { on := 4, ground := Ground.phase }, { on := 5, ground := Ground.phase }], guard := none }) rfl (fun KK hKK => ?_) AllReadyH.nil
                have f6 := HK.out.free 6
                have c6 : y9.cell? ⟨g, 6, none⟩ = some pv := by rw [HK.out.cell]; rfl
                have BG : But g y9 (y9.setCell ⟨g, 6, none⟩ (.slice (some ⟨g9, 0, none⟩) (m + 1) p9)) := (But.refl g y9).setCell _ _ (Or.inl rfl)
                have hn9 : (some g : Option Nat) ≠ some g9 := fun e => not_block HP9.out HK.out (by decide) (by rw [show (Value.slice (some ⟨g9, 0, none⟩) (m + 1) p9).ownBlock = some g9 from rfl, ← e])
                have HKs : Hid (blockIs (y9.setCell ⟨g, 6, none⟩ (.slice (some ⟨g9, 0, none⟩) (m + 1) p9)) g (Nd.cells (⟨t, 0, md, ti, sz, [], Pl ++ [tt], noughts⟩ : Nd) (.slice (some ⟨g9, 0, none⟩) (m + 1) p9)) 26) := Lib.hid (HK.out.set 6 _)
                have HRs : Hid (DAt (y9.setCell ⟨g, 6, none⟩ (.slice (some ⟨g9, 0, none⟩) (m + 1) p9)) k _ _) := Lib.hid (blockIs.but BG HR.out HKG.out)
                have HAs : Hid (ownB (y9.setCell ⟨g, 6, none⟩ (.slice (some ⟨g9, 0, none⟩) (m + 1) p9)) B u6 Q) := Lib.hid (HA.out.grown BG.grow HOG.out)
                have HPs : Hid ((y9.setCell ⟨g, 6, none⟩ (.slice (some ⟨g9, 0, none⟩) (m + 1) p9)).ownsRow B 24 32 (.slice (some ⟨g9, 0, none⟩) (m + 1) p9) (Pl ++ [tt]).length (idcells (Pl ++ [tt]))) := Lib.hid (by rw [hl1, hPl]; exact HP9.out.kept BG.grow (.inr (fun e => hn9 e.symm)))
                have BLs : Hid (Below w.heap.size w (y9.setCell ⟨g, 6, none⟩ (.slice (some ⟨g9, 0, none⟩) (m + 1) p9))) := Lib.hid (BL.out.trans (BG.below HWG.out BL.out.size))
                have HBs : Hid (B ≤ (y9.setCell ⟨g, 6, none⟩ (.slice (some ⟨g9, 0, none⟩) (m + 1) p9)).heap.size) := Lib.hid (Nat.le_trans HBB.out BG.size)
                have HLQ9 : Hid ((Pl ++ [tt]).length = m + 1) := Lib.hid (by rw [hl1, hPl])
                clear BG HK HR HA BL HBB HP9 hl1 hn9
                go_simp
                clear hH
                refine hKK.out _ _ trivial (fun hH => ?_)
                clear hKK KK
                try simp only [Act.put, List.setIfInBounds_toArray, List.set_cons_zero, List.set_cons_succ]
                clear f6 c6
                refine wpAnyH_done (by kernel_rfl) ?_ _
                refine NoPanic.normal ?_
                go_wp2_with fail
                go_roundw
                case rel => exact ⟨m + 1, Pl ++ [tt], _, Ln, en, by omega, by go_num, HLQ9.out, HRs, HNV, HLM2, HKs, HPs, HOF9, HAs, BLs, HBs⟩
                case measure => simp [intOf]; omega
          · have HRDF : Hid (NdRd Lj ⟨t, 0, md, ti, sz, [], Pl, noughts⟩ Lm em) := Lib.hid (doc_file HD.out rfl T_sz.out T_c.out HV.out (fun h => by
              by_cases hh : (m : Int) < c
              · exact absurd ⟨hh, h⟩ hm1
              · omega))
            have HP32 := Lib.hid HV.out.1
            obtain ⟨pa, pc, rfl⟩ := (own_ids HPRW.out HP32.out 0).1.form
            by_cases hm2 : (m : Int) < c
            · have hem : em ≠ 0 := fun h => hm1 ⟨hm2, h⟩
              have bem : (em == 0) = false := by simpa using hem
              clear hem hm1
              have HWF : Hid ((⟨t, 0, md, ti, sz, [], Pl, noughts⟩ : Nd).Wf) := Lib.hid (by
                refine ⟨rfl, ?_, ?_, ?_, lit_wf BSH.out.1 BSH.out.2 (by omega), by have h9 := BN.out; show t.length ≤ 9223372036854775807; omega, Nat.zero_le _, HP32.out⟩
                · exact lit_wf BKH.out.1 BKH.out.2 (by omega)
                · exact lit_wf BMH.out.1 BMH.out.2 (by omega)
                · exact lit_wf BTH.out.1 BTH.out.2 (by omega))
              have HNX := Lib.hid (HI.out.next HO.out HT.out hlt1 (n := ⟨t, 0, md, ti, sz, [], Pl, noughts⟩) (pv := .slice pa Pl.length pc) (HRDF.out))
              have HPR : Hid ((wr).ownsRow B 24 32 (.slice pa Pl.length pc) (⟨t, 0, md, ti, sz, [], Pl, noughts⟩ : Nd).parts.length (idcells (⟨t, 0, md, ti, sz, [], Pl, noughts⟩ : Nd).parts)) := Lib.hid HPRW.out
              have HOFF : Hid (Off u6 Q (Value.ownBlock (.slice pa Pl.length pc))) := Lib.hid HOFP.out
              have HCL := Lib.hid (Nd.cells_length (⟨t, 0, md, ti, sz, [], Pl, noughts⟩ : Nd) (.slice pa Pl.length pc) HWF.out.tree)
              have R5 := Lib.hid (block_range HK.out)
              obtain ⟨n, hn⟩ : ∃ n : Nd, n = ⟨t, 0, md, ti, sz, [], Pl, noughts⟩ := ⟨_, rfl⟩
              obtain ⟨pv, hpv⟩ : ∃ pv : Value, pv = .slice pa Pl.length pc := ⟨_, rfl⟩
              obtain ⟨cs, hcs⟩ : ∃ cs, cs = Nd.cells (⟨t, 0, md, ti, sz, [], Pl, noughts⟩ : Nd) (.slice pa Pl.length pc) := ⟨_, rfl⟩
              rw [← hcs] at HCL R5
              rw [← hn, ← hpv] at HPR HNX
              rw [← hpv] at HOFF
              rw [← hn] at HWF
              rw [← hn, ← hpv] at hcs
              have HCS := Lib.hid hcs
              clear hcs hn hpv HK
              go_wp2_with (first | (refine load_rn (by rfl) _ rfl g 0 rfl cs R5.out HCL.out ?_) | (refine build_one (by rfl) 26 29 ntR _ rfl cs HCL.out rfl ?_; refine Hid.out ?_))
              have kb := alloc_below (wr) (.cells cs.toArray 26 (0, 0))
              have HK6 : Hid (blockIs ((wr).alloc (.cells cs.toArray 26)) (wr).heap.size cs 26) := Lib.hid (blockIs.new (wr) cs 26)
              have HR6 : Hid (DAt ((wr).alloc (.cells cs.toArray 26)) k _ _) := Lib.hid (DAt.below HR.out kb)
              have HA6 : Hid (ownB ((wr).alloc (.cells cs.toArray 26)) B _ Q) := Lib.hid (HA.out.below kb)
              have HPR6 : Hid (((wr).alloc (.cells cs.toArray 26)).ownsRow B 24 32 pv n.parts.length (idcells n.parts)) := Lib.hid (row_below HPR.out kb)
              have BL6 : Hid (Below w.heap.size w ((wr).alloc (.cells cs.toArray 26))) := Lib.hid (BL.out.trans (kb.mono BL.out.size))
              have HB6 : Hid (B ≤ ((wr).alloc (.cells cs.toArray 26)).heap.size) := Lib.hid (Nat.le_trans HBB.out kb.size)
              clear kb HR HA HPR BL HBB R5
              generalize (wr).alloc (.cells cs.toArray 26) = y6 at *
              generalize (wr).heap.size = g2 at *
              refine Lib.hid ?_
              go_wp2_with (refine append_B (by rfl) _ _ rfl B _ Q rfl HA6.out g2 n pv rfl (by rw [← HCS.out]; exact HK6.out) HWF.out HPR6.out HOFF.out.2 (by omega) HB6.out ?_)
              intro v2 y7 h1 h2 h3
              have HR7 := Lib.hid (blockIs.grown HR6.out h3.out (fun e => by
                have h4 := (HA6.out.1.lt k e).1
                have h5 := HKB.out
                omega))
              have BL7 := Lib.hid (BL6.out.trans (h2.out.mono HWB.out))
              have HB7 := Lib.hid (Nat.le_trans HB6.out h2.out.size)
              have HLQ : Hid ((Q ++ [(n, pv)]).length = j + 1) := Lib.hid (by rw [List.length_append, hQ]; rfl)
              clear h2 h3 HA6 HR6 BL6 HB6 HPR6 HK6
              go_wp2_with fail
              go_roundw
              case rel => exact ⟨j + 1, Q ++ [(n, pv)], Lm, em, by omega, by go_num, HLQ.out, HR7, HNX, HLM, h1, BL7, HB7⟩
              case measure => simp [intOf]; omega
            · clear hm1
              have HWF : Hid ((⟨t, 0, md, ti, sz, [], Pl, noughts⟩ : Nd).Wf) := Lib.hid (by
                refine ⟨rfl, ?_, ?_, ?_, lit_wf BSH.out.1 BSH.out.2 (by omega), by have h9 := BN.out; show t.length ≤ 9223372036854775807; omega, Nat.zero_le _, HP32.out⟩
                · exact lit_wf BKH.out.1 BKH.out.2 (by omega)
                · exact lit_wf BMH.out.1 BMH.out.2 (by omega)
                · exact lit_wf BTH.out.1 BTH.out.2 (by omega))
              have HNX := Lib.hid (HI.out.next HO.out HT.out hlt1 (n := ⟨t, 0, md, ti, sz, [], Pl, noughts⟩) (pv := .slice pa Pl.length pc) (HRDF.out))
              have HPR : Hid ((wr).ownsRow B 24 32 (.slice pa Pl.length pc) (⟨t, 0, md, ti, sz, [], Pl, noughts⟩ : Nd).parts.length (idcells (⟨t, 0, md, ti, sz, [], Pl, noughts⟩ : Nd).parts)) := Lib.hid HPRW.out
              have HOFF : Hid (Off u6 Q (Value.ownBlock (.slice pa Pl.length pc))) := Lib.hid HOFP.out
              have HCL := Lib.hid (Nd.cells_length (⟨t, 0, md, ti, sz, [], Pl, noughts⟩ : Nd) (.slice pa Pl.length pc) HWF.out.tree)
              have R5 := Lib.hid (block_range HK.out)
              obtain ⟨n, hn⟩ : ∃ n : Nd, n = ⟨t, 0, md, ti, sz, [], Pl, noughts⟩ := ⟨_, rfl⟩
              obtain ⟨pv, hpv⟩ : ∃ pv : Value, pv = .slice pa Pl.length pc := ⟨_, rfl⟩
              obtain ⟨cs, hcs⟩ : ∃ cs, cs = Nd.cells (⟨t, 0, md, ti, sz, [], Pl, noughts⟩ : Nd) (.slice pa Pl.length pc) := ⟨_, rfl⟩
              rw [← hcs] at HCL R5
              rw [← hn, ← hpv] at HPR HNX
              rw [← hpv] at HOFF
              rw [← hn] at HWF
              rw [← hn, ← hpv] at hcs
              have HCS := Lib.hid hcs
              clear hcs hn hpv HK
              go_wp2_with (first | (refine load_rn (by rfl) _ rfl g 0 rfl cs R5.out HCL.out ?_) | (refine build_one (by rfl) 26 29 ntR _ rfl cs HCL.out rfl ?_; refine Hid.out ?_))
              have kb := alloc_below (wr) (.cells cs.toArray 26 (0, 0))
              have HK6 : Hid (blockIs ((wr).alloc (.cells cs.toArray 26)) (wr).heap.size cs 26) := Lib.hid (blockIs.new (wr) cs 26)
              have HR6 : Hid (DAt ((wr).alloc (.cells cs.toArray 26)) k _ _) := Lib.hid (DAt.below HR.out kb)
              have HA6 : Hid (ownB ((wr).alloc (.cells cs.toArray 26)) B _ Q) := Lib.hid (HA.out.below kb)
              have HPR6 : Hid (((wr).alloc (.cells cs.toArray 26)).ownsRow B 24 32 pv n.parts.length (idcells n.parts)) := Lib.hid (row_below HPR.out kb)
              have BL6 : Hid (Below w.heap.size w ((wr).alloc (.cells cs.toArray 26))) := Lib.hid (BL.out.trans (kb.mono BL.out.size))
              have HB6 : Hid (B ≤ ((wr).alloc (.cells cs.toArray 26)).heap.size) := Lib.hid (Nat.le_trans HBB.out kb.size)
              clear kb HR HA HPR BL HBB R5
              generalize (wr).alloc (.cells cs.toArray 26) = y6 at *
              generalize (wr).heap.size = g2 at *
              refine Lib.hid ?_
              go_wp2_with (refine append_B (by rfl) _ _ rfl B _ Q rfl HA6.out g2 n pv rfl (by rw [← HCS.out]; exact HK6.out) HWF.out HPR6.out HOFF.out.2 (by omega) HB6.out ?_)
              intro v2 y7 h1 h2 h3
              have HR7 := Lib.hid (blockIs.grown HR6.out h3.out (fun e => by
                have h4 := (HA6.out.1.lt k e).1
                have h5 := HKB.out
                omega))
              have BL7 := Lib.hid (BL6.out.trans (h2.out.mono HWB.out))
              have HB7 := Lib.hid (Nat.le_trans HB6.out h2.out.size)
              have HLQ : Hid ((Q ++ [(n, pv)]).length = j + 1) := Lib.hid (by rw [List.length_append, hQ]; rfl)
              clear h2 h3 HA6 HR6 BL6 HB6 HPR6 HK6
              go_wp2_with fail
              go_roundw
              case rel => exact ⟨j + 1, Q ++ [(n, pv)], Lm, em, by omega, by go_num, HLQ.out, HR7, HNX, HLM, h1, BL7, HB7⟩
              case measure => simp [intOf]; omega
      · clear BK
        have PD := did_any k L5 e5 (w17.setCell ⟨g, 3, none⟩ (.int .i64 ti)) HRs.out HL5.out
        have T5 := Lib.hid (rd_raw L5 e5 32)
        have HL6 := Lib.hid (Nat.le_trans (tLeft_le L5 e5 32) HL5.out)
        generalize tOut L5 e5 32 = TR at *
        generalize tLeft L5 e5 32 = L6 at *
        generalize tErr L5 e5 32 = e6 at *
        go_wp2_with fail
        with_reducible refine PD.mono ?_
        clear PD fI cI c1
        generalize w17.setCell ⟨g, 3, none⟩ (.int .i64 ti) = wa at *
        rintro r wb ⟨tt, rfl, ht32, HTE, HR2, hb⟩
        have HT32 := Lib.hid ht32
        clear ht32
        have HK2 := Lib.hid (HKs.out.but hb.out HGK.out)
        have HA2 := Lib.hid (HAs.out.but hb.out HKB.out)
        have BL2 := Lib.hid (BLs.out.trans (hb.out.below HWK.out BLs.out.size))
        have HB2 := Lib.hid (Nat.le_trans HBs.out hb.out.size)
        clear HKs HRs HAs BLs HBs hb
        have HK := HK2
        have HR := HR2
        have HA := HA2
        have BL := BL2
        have HBB := HB2
        clear HK2 HR2 HA2 BL2 HB2
        obtain ⟨cs, hcs⟩ : ∃ cs, cs = bvals tt := ⟨_, rfl⟩
        have HC32 : Hid (cs.length = 32) := Lib.hid (by rw [hcs, bvals_length]; exact HT32.out)
        have HCO : Hid (∀ v ∈ cs, v.oneCell' = true) := Lib.hid (by rw [hcs]; exact fun v hv => bvals_one _ v hv)
        rw [← hcs]
        have HCS0 := Lib.hid hcs
        have HIN : Hid ((Try.prog.info? 24).map (·.size) = some cs.length) := Lib.hid (by rw [HC32.out]; exact info_id1)
        have HCN := Lib.hid (Nd.cells_length (⟨t, 1, md, ti, 0, [], [], noughts⟩ : Nd) (.slice none 0 0) rfl)
        clear hcs
        go_wp2_with (refine wpList_store_block rfl 24 _ _ rfl g 7 cs rfl rfl _ 26 HK.out HIN.out (by rw [HC32.out, HCN.out]; decide) HCO.out ?_)
        intro wc k1 k2 k3
        have hk1 := k1.out
        rw [HCS0.out, splice_tree _ _ tt rfl HT32.out] at hk1
        have HK2 := Lib.hid hk1
        have HR2 := Lib.hid (blockIs.but k2.out HR.out HKG.out)
        have HA2 := Lib.hid (HA.out.grown k2.out.grow HOG.out)
        have BL2 := Lib.hid (BL.out.trans (k2.out.below HWG.out BL.out.size))
        have HB2 := Lib.hid (Nat.le_trans HBB.out k2.out.size)
        clear k1 k2 k3 hk1 HK HR HA BL HBB HIN HCN HCS0 HCO HC32
        have HK := HK2
        have HR := HR2
        have HA := HA2
        have BL := BL2
        have HBB := HB2
        clear HK2 HR2 HA2 BL2 HB2
        have HWF : Hid ((⟨t, 1, md, ti, 0, [], [], tt⟩ : Nd).Wf) := Lib.hid (by
          refine ⟨HT32.out, ?_, ?_, ?_, rfl, by have h9 := BN.out; show t.length ≤ 9223372036854775807; omega, Nat.zero_le _, (fun p hp => by cases hp)⟩
          · exact lit_wf BKH.out.1 BKH.out.2 (by omega)
          · exact lit_wf BMH.out.1 BMH.out.2 (by omega)
          · exact lit_wf BTH.out.1 BTH.out.2 (by omega))
        have HNX := Lib.hid (HI.out.next HO.out HT.out hlt1 (n := ⟨t, 1, md, ti, 0, [], [], tt⟩) (pv := .slice none 0 0) (rd_dir HD.out rfl T5.out tt HTE.out))
        have HPR : Hid ((wc).ownsRow B 24 32 (.slice none 0 0) (⟨t, 1, md, ti, 0, [], [], tt⟩ : Nd).parts.length (idcells (⟨t, 1, md, ti, 0, [], [], tt⟩ : Nd).parts)) := Lib.hid (World.ownsRow_nil _ _ _ _)
        have HOFF : Hid (Off u6 Q (Value.ownBlock (.slice none 0 0))) := Lib.hid (Off.none _ _)
        have HCL := Lib.hid (Nd.cells_length (⟨t, 1, md, ti, 0, [], [], tt⟩ : Nd) (.slice none 0 0) HWF.out.tree)
        have R5 := Lib.hid (block_range HK.out)
        obtain ⟨n, hn⟩ : ∃ n : Nd, n = ⟨t, 1, md, ti, 0, [], [], tt⟩ := ⟨_, rfl⟩
        obtain ⟨pv, hpv⟩ : ∃ pv : Value, pv = .slice none 0 0 := ⟨_, rfl⟩
        obtain ⟨cs, hcs⟩ : ∃ cs, cs = Nd.cells (⟨t, 1, md, ti, 0, [], [], tt⟩ : Nd) (.slice none 0 0) := ⟨_, rfl⟩
        rw [← hcs] at HCL R5
        rw [← hn, ← hpv] at HPR HNX
        rw [← hpv] at HOFF
        rw [← hn] at HWF
        rw [← hn, ← hpv] at hcs
        have HCS := Lib.hid hcs
        clear hcs hn hpv HK
        go_wp2_with (first | (refine load_rn (by rfl) _ rfl g 0 rfl cs R5.out HCL.out ?_) | (refine build_one (by rfl) 26 29 ntR _ rfl cs HCL.out rfl ?_; refine Hid.out ?_))
        have kb := alloc_below (wc) (.cells cs.toArray 26 (0, 0))
        have HK6 : Hid (blockIs ((wc).alloc (.cells cs.toArray 26)) (wc).heap.size cs 26) := Lib.hid (blockIs.new (wc) cs 26)
        have HR6 : Hid (DAt ((wc).alloc (.cells cs.toArray 26)) k _ _) := Lib.hid (DAt.below HR.out kb)
        have HA6 : Hid (ownB ((wc).alloc (.cells cs.toArray 26)) B _ Q) := Lib.hid (HA.out.below kb)
        have HPR6 : Hid (((wc).alloc (.cells cs.toArray 26)).ownsRow B 24 32 pv n.parts.length (idcells n.parts)) := Lib.hid (row_below HPR.out kb)
        have BL6 : Hid (Below w.heap.size w ((wc).alloc (.cells cs.toArray 26))) := Lib.hid (BL.out.trans (kb.mono BL.out.size))
        have HB6 : Hid (B ≤ ((wc).alloc (.cells cs.toArray 26)).heap.size) := Lib.hid (Nat.le_trans HBB.out kb.size)
        clear kb HR HA HPR BL HBB R5
        generalize (wc).alloc (.cells cs.toArray 26) = y6 at *
        generalize (wc).heap.size = g2 at *
        refine Lib.hid ?_
        go_wp2_with (refine append_B (by rfl) _ _ rfl B _ Q rfl HA6.out g2 n pv rfl (by rw [← HCS.out]; exact HK6.out) HWF.out HPR6.out HOFF.out.2 (by omega) HB6.out ?_)
        intro v2 y7 h1 h2 h3
        have HR7 := Lib.hid (blockIs.grown HR6.out h3.out (fun e => by
          have h4 := (HA6.out.1.lt k e).1
          have h5 := HKB.out
          omega))
        have BL7 := Lib.hid (BL6.out.trans (h2.out.mono HWB.out))
        have HB7 := Lib.hid (Nat.le_trans HB6.out h2.out.size)
        have HLQ : Hid ((Q ++ [(n, pv)]).length = j + 1) := Lib.hid (by rw [List.length_append, hQ]; rfl)
        clear h2 h3 HA6 HR6 BL6 HB6 HPR6 HK6
        go_wp2_with fail
        go_roundw
        case rel => exact ⟨j + 1, Q ++ [(n, pv)], L6, e6, by omega, by go_num, HLQ.out, HR7, HNX, HL6, h1, BL7, HB7⟩
        case measure => simp [intOf]; omega
      · clear BK
        have PN := dtext_any k L5 e5 4095 (w17.setCell ⟨g, 3, none⟩ (.int .i64 ti)) HRs.out HL5.out
        go_wp2_with fail
        with_reducible refine PN.mono ?_
        clear PN fI cI
        generalize w17.setCell ⟨g, 3, none⟩ (.int .i64 ti) = w22 at *
        rintro r w23 ⟨nt, Kt, dt, hn, rfl, HR2, hb⟩
        have T_tg := Lib.hid (rd_text hn.out)
        have HL6 := Lib.hid (Nat.le_trans (Nat.le_trans (tLeft_le Kt dt nt) hn.out.le) HL5.out)
        generalize tOut Kt dt nt = tg at *
        generalize tLeft Kt dt nt = L6 at *
        generalize tErr Kt dt nt = e6 at *
        have HK2 := Lib.hid (HKs.out.but hb.out HGK.out)
        have HA2 := Lib.hid (HAs.out.but hb.out HKB.out)
        have BL2 := Lib.hid (BLs.out.trans (hb.out.below HWK.out BLs.out.size))
        have HB2 := Lib.hid (Nat.le_trans HBs.out hb.out.size)
        clear HKs HRs HAs BLs HBs hb
        have HK := HK2
        have HR := HR2
        have HA := HA2
        have BL := BL2
        have HBB := HB2
        clear HK2 HR2 HA2 BL2 HB2
        clear hn Kt dt nt
        have BG5 := Lib.hid T_tg.out.tbound
        clear c1
        have fI := HK.out.free 5
        have cI := HK.out.at 5 (by rw [Nd.cells_length _ _ rfl]; decide)
        have BG : But g w23 (w23.setCell ⟨g, 5, none⟩ (.string (str tg))) := (But.refl g w23).setCell _ _ (Or.inl rfl)
        have HKs : Hid (blockIs (w23.setCell ⟨g, 5, none⟩ (.string (str tg))) g (Nd.cells (⟨t, 2, md, ti, 0, tg, [], noughts⟩ : Nd) (.slice none 0 0)) 26) := Lib.hid (HK.out.set 5 _)
        have HRs : Hid (DAt (w23.setCell ⟨g, 5, none⟩ (.string (str tg))) k _ _) := Lib.hid (blockIs.but BG HR.out HKG.out)
        have HAs : Hid (ownB (w23.setCell ⟨g, 5, none⟩ (.string (str tg))) B _ Q) := Lib.hid (HA.out.grown BG.grow HOG.out)
        have BLs : Hid (Below w.heap.size w (w23.setCell ⟨g, 5, none⟩ (.string (str tg)))) := Lib.hid (BL.out.trans (BG.below HWG.out BL.out.size))
        have HBs : Hid (B ≤ (w23.setCell ⟨g, 5, none⟩ (.string (str tg))).heap.size) := Lib.hid (Nat.le_trans HBB.out BG.size)
        clear BG HK HR HA BL HBB
        have HWF : Hid ((⟨t, 2, md, ti, 0, tg, [], noughts⟩ : Nd).Wf) := Lib.hid (by
          refine ⟨rfl, ?_, ?_, ?_, rfl, by have h9 := BN.out; show t.length ≤ 9223372036854775807; omega, by have h9 := BG5.out; show tg.length ≤ 9223372036854775807; omega, (fun p hp => by cases hp)⟩
          · exact lit_wf BKH.out.1 BKH.out.2 (by omega)
          · exact lit_wf BMH.out.1 BMH.out.2 (by omega)
          · exact lit_wf BTH.out.1 BTH.out.2 (by omega))
        have HNX := Lib.hid (HI.out.next HO.out HT.out hlt1 (n := ⟨t, 2, md, ti, 0, tg, [], noughts⟩) (pv := .slice none 0 0) (rd_link HD.out rfl T_tg.out))
        have HPR : Hid ((w23.setCell ⟨g, 5, none⟩ (.string (str tg))).ownsRow B 24 32 (.slice none 0 0) (⟨t, 2, md, ti, 0, tg, [], noughts⟩ : Nd).parts.length (idcells (⟨t, 2, md, ti, 0, tg, [], noughts⟩ : Nd).parts)) := Lib.hid (World.ownsRow_nil _ _ _ _)
        have HOFF : Hid (Off u6 Q (Value.ownBlock (.slice none 0 0))) := Lib.hid (Off.none _ _)
        have HCL := Lib.hid (Nd.cells_length (⟨t, 2, md, ti, 0, tg, [], noughts⟩ : Nd) (.slice none 0 0) HWF.out.tree)
        have R5 := Lib.hid (block_range HKs.out)
        obtain ⟨n, hn⟩ : ∃ n : Nd, n = ⟨t, 2, md, ti, 0, tg, [], noughts⟩ := ⟨_, rfl⟩
        obtain ⟨pv, hpv⟩ : ∃ pv : Value, pv = .slice none 0 0 := ⟨_, rfl⟩
        obtain ⟨cs, hcs⟩ : ∃ cs, cs = Nd.cells (⟨t, 2, md, ti, 0, tg, [], noughts⟩ : Nd) (.slice none 0 0) := ⟨_, rfl⟩
        rw [← hcs] at HCL R5
        rw [← hn, ← hpv] at HPR HNX
        rw [← hpv] at HOFF
        rw [← hn] at HWF
        rw [← hn, ← hpv] at hcs
        have HCS := Lib.hid hcs
        clear hcs hn hpv HKs
        go_wp2_with (refine load_rn (by rfl) _ rfl g 0 rfl cs R5.out HCL.out ?_; refine Hid.out ?_)
        clear fI cI
        generalize w23.setCell ⟨g, 5, none⟩ (.string (str tg)) = yt at *
        refine Lib.hid ?_
        go_wp2_with (first | (refine load_rn (by rfl) _ rfl g 0 rfl cs R5.out HCL.out ?_) | (refine build_one (by rfl) 26 29 ntR _ rfl cs HCL.out rfl ?_; refine Hid.out ?_))
        have kb := alloc_below (yt) (.cells cs.toArray 26 (0, 0))
        have HK6 : Hid (blockIs ((yt).alloc (.cells cs.toArray 26)) (yt).heap.size cs 26) := Lib.hid (blockIs.new (yt) cs 26)
        have HR6 : Hid (DAt ((yt).alloc (.cells cs.toArray 26)) k _ _) := Lib.hid (DAt.below HRs.out kb)
        have HA6 : Hid (ownB ((yt).alloc (.cells cs.toArray 26)) B _ Q) := Lib.hid (HAs.out.below kb)
        have HPR6 : Hid (((yt).alloc (.cells cs.toArray 26)).ownsRow B 24 32 pv n.parts.length (idcells n.parts)) := Lib.hid (row_below HPR.out kb)
        have BL6 : Hid (Below w.heap.size w ((yt).alloc (.cells cs.toArray 26))) := Lib.hid (BLs.out.trans (kb.mono BLs.out.size))
        have HB6 : Hid (B ≤ ((yt).alloc (.cells cs.toArray 26)).heap.size) := Lib.hid (Nat.le_trans HBs.out kb.size)
        clear kb HRs HAs HPR BLs HBs R5
        generalize (yt).alloc (.cells cs.toArray 26) = y6 at *
        generalize (yt).heap.size = g2 at *
        refine Lib.hid ?_
        go_wp2_with (refine append_B (by rfl) _ _ rfl B _ Q rfl HA6.out g2 n pv rfl (by rw [← HCS.out]; exact HK6.out) HWF.out HPR6.out HOFF.out.2 (by omega) HB6.out ?_)
        intro v2 y7 h1 h2 h3
        have HR7 := Lib.hid (blockIs.grown HR6.out h3.out (fun e => by
          have h4 := (HA6.out.1.lt k e).1
          have h5 := HKB.out
          omega))
        have BL7 := Lib.hid (BL6.out.trans (h2.out.mono HWB.out))
        have HB7 := Lib.hid (Nat.le_trans HB6.out h2.out.size)
        have HLQ : Hid ((Q ++ [(n, pv)]).length = j + 1) := Lib.hid (by rw [List.length_append, hQ]; rfl)
        clear h2 h3 HA6 HR6 BL6 HB6 HPR6 HK6
        go_wp2_with fail
        go_roundw
        case rel => exact ⟨j + 1, Q ++ [(n, pv)], L6, e6, by omega, by go_num, HLQ.out, HR7, HNX, HL6, h1, BL7, HB7⟩
        case measure => simp [intOf]; omega
    · have PEND := dend_any k Lj ej wr HR.out
      obtain ⟨E, hE⟩ : ∃ E, E = endErr Lj ej := ⟨_, rfl⟩
      rw [← hE] at PEND
      have HHL := Lib.hid hlt
      have HEE := Lib.hid hE
      have SPLIT : ((j : Int) < ci ∧ (ej == 0) = false) ∨ ¬ (j : Int) < ci := by
        by_cases h : (j : Int) < ci
        · exact Or.inl ⟨h, by
            have : ej ≠ 0 := fun h2 => hlt ⟨h, h2⟩
            simpa using this⟩
        · exact Or.inr h
      clear hlt hE
      by_cases hE0 : E = 0
      · have hs1 : ej = 0 ∧ Lj = [] := by
          have hE := HEE.out
          rw [hE0] at hE
          unfold endErr at hE
          split at hE
          · exact absurd hE.symm (by decide)
          · rename_i h
            exact ⟨hE.symm, Classical.not_not.1 (fun h2 => h ⟨hE.symm, h2⟩)⟩
        obtain ⟨h1, h2, h3⟩ := HI.out.1 hs1.1
        have hji : (j : Int) = ci := by
          by_cases h : (j : Int) < ci
          · exact absurd ⟨h, hs1.1⟩ HHL.out
          · omega
        have q0 : ¬ (j : Int) < ci := by omega
        have HSS := Lib.hid (mapQ Q h3)
        have HWW : Hid (∀ n ∈ Q.map Prod.fst, n.Wf) := Lib.hid (fun x hx => by
          obtain ⟨q, hq, rfl⟩ := List.mem_map.1 hx
          exact (HA.out.2.1 q hq).1)
        have HL0 : Hid (L1 = (Q.map Prod.fst).flatMap ndBytes ++ []) := Lib.hid (by rw [h2, hs1.2])
        have HE1 := Lib.hid h1
        have HQM : Hid (((Q.map Prod.fst).length : Int) = ci) := Lib.hid (by rw [List.length_map, hQ]; exact hji)
        have HWT : Hid (weight (Q.map Prod.fst) ≤ 20000) := Lib.hid (by
          have h4 := weight_flat (Q.map Prod.fst) HSS.out
          have h5 := congrArg List.length HL0.out
          rw [List.append_nil] at h5
          have h6 := HL10.out
          omega)
        subst hE0
        clear SPLIT hs1 h1 h2 h3 hji HEE HHL HI
        go_wp2_with fail
        with_reducible refine PEND.mono ?_
        clear PEND
        rintro r w6 ⟨rfl, -, hb6⟩
        have BL6 := Lib.hid (BL.out.trans (hb6.below HWK.out BL.out.size))
        have ha6 := HA.out.but hb6 HKB.out
        obtain ⟨qa, qc, rfl, hq1, hq2, hq3, hq4⟩ := ha6.slice
        have HA6 := Lib.hid ha6
        have PC := docEncode_any qa qc (Q.map Prod.fst) w6 (by rw [List.length_map]; omega) HWT.out hq4
        rw [List.length_map, hQ] at PC
        clear hb6 BL HA ha6 hq4 hq2 hq3 HR c1
        by_cases hC : checkL (Q.map Prod.fst) = 0
        · have hy := dec_yes HO.out HT.out HE1.out HWW.out HL0.out HQM.out hC
          have HY := Lib.hid hy
          rw [if_pos hC, hC, ← hy.2.2] at PC
          clear hC hy
          go_wp2_with fail
          with_reducible refine PC.mono ?_
          clear PC
          rintro r w7 ⟨rfl, hb7⟩
          have HA7 := Lib.hid (HA6.out.below hb7)
          have BL7 := Lib.hid (BL6.out.trans (hb7.mono BL6.out.size))
          clear hb7
          go_wp2_with fail
          go_ret2
          have ha7 := HA7.out.le HWB.out
          rw [hQ] at ha7
          exact ⟨Or.inl ⟨_, Q, rfl, HY.out, ha7⟩, BL7.out⟩
        · have HNO : Hid (∀ S, ¬ DecIs L S) := Lib.hid (dec_no_check HO.out HT.out HSS.out HL0.out HQM.out hC)
          obtain ⟨C, hCC⟩ : ∃ C, C = checkL (Q.map Prod.fst) := ⟨_, rfl⟩
          rw [if_neg hC, ← hCC] at PC
          rw [← hCC] at hC
          clear hCC
          have b0 : (C != 0) = true := by simpa using hC
          go_wp2_with fail
          with_reducible refine PC.mono ?_
          clear PC
          rintro r w7 ⟨rfl, hb7⟩
          have BL7 := Lib.hid (BL6.out.trans (hb7.mono BL6.out.size))
          clear hb7
          go_wp2_with fail
          go_ret2
          exact ⟨Or.inr ⟨rfl, HNO.out⟩, BL7.out⟩
      · have b0 : (E != 0) = true := by simpa using hE0
        have HNO : Hid (∀ S, ¬ DecIs L S) := Lib.hid (by
          by_cases h1 : ej = 0
          · obtain ⟨g1, g2, g3⟩ := HI.out.1 h1
            have hji : (j : Int) = ci := by
              by_cases h : (j : Int) < ci
              · exact absurd ⟨h, h1⟩ HHL.out
              · omega
            refine dec_no_end HO.out HT.out (S := Q.map Prod.fst) (Lj := Lj) (mapQ Q g3) g2 (by rw [List.length_map, hQ]; exact hji) (fun h2 => hE0 ?_)
            rw [HEE.out]
            unfold endErr
            rw [if_neg (fun h => h.2 h2), h1]
          · exact HI.out.2 h1)
        rcases SPLIT with ⟨q1, q2⟩ | q0
        · go_wp2_with fail
          with_reducible refine PEND.mono ?_
          clear PEND
          rintro r w6 ⟨rfl, -, hb6⟩
          have BL6 := Lib.hid (BL.out.trans (hb6.below HWK.out BL.out.size))
          clear hb6
          go_wp2_with fail
          go_ret2
          exact ⟨Or.inr ⟨rfl, HNO.out⟩, BL6.out⟩
        · go_wp2_with fail
          with_reducible refine PEND.mono ?_
          clear PEND
          rintro r w6 ⟨rfl, -, hb6⟩
          have BL6 := Lib.hid (BL.out.trans (hb6.below HWK.out BL.out.size))
          clear hb6
          go_wp2_with fail
          go_ret2
          exact ⟨Or.inr ⟨rfl, HNO.out⟩, BL6.out⟩
end Go.Proofs.Ytjgmhaajcglpmaa
