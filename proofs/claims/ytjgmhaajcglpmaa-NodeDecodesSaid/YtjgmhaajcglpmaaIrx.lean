/- glyph's number, told exactly: what is read, and which fault there is. -/
import Derived.Test.YtjgmhaajcglpmaaIrd
namespace Go.Proofs.Ytjgmhaajcglpmaa
open Go.RowKit

/-- The first k bytes have more behind them. -/
def more (L : List UInt8) (k : Nat) : Prop := ∀ j, j < k → 128 ≤ (L.getD j 0).toNat
theorem more_next {L : List UInt8} {k : Nat} (h : more L k) (hx : 128 ≤ (L.getD k 0).toNat) : more L (k + 1) := fun j hj => by
  by_cases e : j = k
  · rw [e]; exact hx
  · exact h j (by omega)
/-- Why no number is read. -/
def bad (L : List UInt8) (er : Int) : Prop :=
  (er = 3 ∧ L.length < 9 ∧ more L L.length) ∨ (er = 2 ∧ 9 ≤ L.length ∧ more L 9) ∨ (er = 2 ∧ ∃ k acc, k < L.length ∧ k < 9 ∧ more L k ∧ (L.getD k 0).toNat < 128 ∧ said L k acc ∧ (((L.getD k 0).toNat = 0 ∧ 0 < k) ∨ 4611686018427387903 < acc + 128 ^ k * (L.getD k 0).toNat))
/-- A number's bytes: all but the last one have more behind them. -/
theorem numBytes_form (n : Nat) : ∃ (D : List UInt8) (z : UInt8), numBytes n = D ++ [z] ∧ (∀ x ∈ D, 128 ≤ x.toNat) ∧ z.toNat < 128 ∧ (D = [] ∨ z.toNat ≠ 0) := by
  induction n using Nat.strongRecOn with
  | _ n ih =>
    by_cases h : n < 128
    · refine ⟨[], UInt8.ofNat n, by rw [numBytes_small h]; rfl, fun x hx => (List.not_mem_nil hx).elim, ?_, Or.inl rfl⟩
      rw [UInt8.toNat_ofNat']; omega
    · obtain ⟨D, z, h1, h2, h3, h4⟩ := ih (n / 128) (by omega)
      refine ⟨UInt8.ofNat (n % 128 + 128) :: D, z, by rw [numBytes_big h, h1]; rfl, ?_, h3, Or.inr ?_⟩
      · intro x hx
        rcases List.mem_cons.1 hx with rfl | hx
        · rw [UInt8.toNat_ofNat']; omega
        · exact h2 x hx
      · rcases h4 with rfl | h4
        · by_cases hs : n / 128 < 128
          · rw [numBytes_small hs] at h1
            have : z = UInt8.ofNat (n / 128) := by simpa using h1.symm
            rw [this, UInt8.toNat_ofNat']; omega
          · rw [numBytes_big hs] at h1
            have hl := congrArg List.length h1
            have hp := numBytes_pos (n / 128 / 128)
            rw [List.length_cons] at hl
            simp at hl
            rw [hl] at hp
            exact absurd hp (by decide)
        · exact h4
/-- Where a number's bytes stand, a number is read. -/
theorem not_bad (n : Nat) (hn : n < 4611686018427387904) (R : List UInt8) (er : Int) : ¬ bad (numBytes n ++ R) er := by
  obtain ⟨D, z, h1, h2, h3, h4⟩ := numBytes_form n
  have h9 := numBytes_nine n hn
  have hDl : D.length ≤ 8 := by rw [h1, List.length_append] at h9; simp at h9; omega
  have hz : (numBytes n ++ R).getD D.length 0 = z := by rw [h1]; simp
  have hD : ∀ j, j < D.length → 128 ≤ ((numBytes n ++ R).getD j 0).toNat := fun j hj => by
    have : (numBytes n ++ R).getD j 0 = D[j] := by rw [h1]; simp [hj, List.getElem?_append_left]
    rw [this]; exact h2 _ (List.getElem_mem hj)
  have hlen : D.length < (numBytes n ++ R).length := by rw [h1]; simp
  rintro (⟨_, hl, hm⟩ | ⟨_, hl, hm⟩ | ⟨_, k, acc, hk, hk9, hm, hx, hs, hc⟩)
  · have := hm D.length hlen; rw [hz] at this; omega
  · have := hm D.length (by omega); rw [hz] at this; omega
  · have hkD : k = D.length := by
      rcases Nat.lt_trichotomy k D.length with h | h | h
      · have := hD k h; omega
      · exact h
      · have := hm D.length h; rw [hz] at this; omega
    have hzk : (numBytes n ++ R).getD k 0 = z := by rw [hkD, hz]
    rw [hzk] at hc
    have h0 : k = 0 ∨ ((numBytes n ++ R).getD k 0).toNat ≠ 0 := by
      rw [hzk]
      rcases h4 with h | h
      · left; rw [hkD, h]; rfl
      · exact Or.inr h
    have hb := said_last _ k acc hs hk hx h0
    rw [hzk] at hb h0
    have ht : (numBytes n ++ R).take (k + 1) = numBytes n := by
      rw [List.take_append_of_le_length (by rw [h1, hkD]; simp), List.take_of_length_le (by rw [h1, hkD]; simp)]
    rw [ht] at hb
    have := numBytes_inj _ _ hb
    rcases hc with ⟨hz0, hk0⟩ | hc
    · rcases h0 with h | h <;> omega
    · omega
/-- Where a number's bytes break off, that is the fault. -/
theorem short_bad (n : Nat) (hn : n < 4611686018427387904) (L : List UInt8) (hl : L.length < (numBytes n).length) (hp : (numBytes n).take L.length = L) : L.length < 9 ∧ more L L.length := by
  obtain ⟨D, z, h1, h2, h3, h4⟩ := numBytes_form n
  have h9 := numBytes_nine n hn
  have hDl : L.length ≤ D.length := by rw [h1, List.length_append] at hl; simp at hl; omega
  refine ⟨by omega, fun j hj => ?_⟩
  have : L.getD j 0 = D[j]'(by omega) := by
    conv => lhs; rw [← hp, h1]
    rw [List.getD_eq_getElem?_getD, List.getElem?_take, if_pos hj, List.getElem?_append_left (by omega)]
    simp [show j < D.length by omega]
  rw [this]
  exact h2 _ (List.getElem_mem _)
set_option maxRecDepth 100000 in
set_option maxHeartbeats 4000000 in
theorem numread_is (p : Pt) (w : World) (hp : p.ok w) :
    Calls Try.prog 59 #[.slice p.a p.l.length p.c] w fun r w' => w = w' ∧ ((∃ er : Int, bad p.l er ∧ r = .returned (.tuple #[.int .i64 0, .int .i64 0, .int .i64 er])) ∨ ∃ N : Nat, N < 4611686018427387904 ∧ ∃ s : Nat, s ≤ p.l.length ∧ numBytes N = p.l.take s ∧ r = .returned (.tuple #[.int .i64 N, .int .i64 s, .int .i64 0])) := by
  obtain ⟨a, c, L⟩ := p
  obtain ⟨hlc, hcm, hin⟩ := hp
  have hlc : L.length ≤ c := hlc
  have HIN : Hid (bytesIn w a L) := Lib.hid hin
  clear hin
  show Calls Try.prog 59 #[.slice a L.length c] w _
  have HL9 : Hid (min L.length 9 ≤ L.length ∧ min L.length 9 ≤ 9 ∧ (min L.length 9 = L.length ∨ min L.length 9 = 9)) := Lib.hid (by omega)
  obtain ⟨M, hM⟩ : ∃ M, M = min L.length 9 := ⟨_, rfl⟩
  rw [← hM] at HL9
  have HM := Lib.hid hM
  clear hM
  go_enter Try.func59, Try.ntmps59
  go_upto_region 2 with fail
  go_cut [12, 13, 14] (fun s n i wx => s = .slice a M c ∧ n = .int .i64 M ∧ i = .int .i64 0 ∧ w = wx)
  case first =>
    go_wp2_with fail
    all_goals
      go_meet
      case rel => exact ⟨by congr 1; have := HM.out; omega, by congr 1; have := HM.out; omega, rfl, rfl⟩
  case rest =>
    obtain ⟨rfl, rfl, rfl, rfl⟩ := hcut
    go_wp2_with fail
    go_loopw [14, 5] (fun i v wr => ∃ k acc : Nat, k ≤ M ∧ i = .int .i64 k ∧ v = .int .i64 acc ∧ Hid (said L k acc ∧ more L k) ∧ w = wr) (fun i _ _ => ((M : Int) - intOf i).toNat)
    case atStart => exact ⟨0, 0, by omega, rfl, rfl, Lib.hid ⟨said_zero L, fun j hj => absurd hj (Nat.not_lt_zero j)⟩, rfl⟩
    case round =>
      obtain ⟨k, acc, hk, rfl, rfl, hs2, rfl⟩ := hrel
      have hs := Lib.hid hs2.out.1
      have HMO := Lib.hid hs2.out.2
      clear hs2
      by_cases hlt : k < M
      · have q0 : (k : Int) < (M : Int) := by omega
        have p0 : 0 ≤ (k : Int) := by omega
        have hkL : k < L.length := by have := HL9.out; omega
        have hk9 : k < 9 := by have := HL9.out; omega
        have HSN := Lib.hid (said_next L k acc hs.out hkL hk9)
        have HSL := Lib.hid (said_last L k acc hs.out hkL)
        obtain ⟨bb, bo, ha, hc⟩ : ∃ b o, a = some ⟨b, o, none⟩ ∧ w.cell? ⟨b, o + k, none⟩ = some (.int .u8 (V (L.getD k 0))) := by
          rcases HIN.out with h | ⟨b, o, h1, h2⟩
          · rw [h] at hkL; exact absurd hkL (Nat.not_lt_zero _)
          · exact ⟨b, o, h1, h2 k hkL⟩
        subst ha
        have hjb := join_bits acc ((L.getD k 0).toNat % 128) k hk9 hs.out.1 (Nat.mod_lt _ (by decide))
        have HJL := Lib.hid (join_bits acc (L.getD k 0).toNat k hk9 hs.out.1)
        have HMN : Hid (128 ≤ (L.getD k 0).toNat → more L (k + 1)) := Lib.hid (more_next HMO.out)
        have HBD : Hid (∀ _ : (L.getD k 0).toNat < 128, (((L.getD k 0).toNat = 0 ∧ 0 < k) ∨ 4611686018427387903 < acc + 128 ^ k * (L.getD k 0).toNat) → bad L 2) := Lib.hid (fun hx hc => Or.inr (Or.inr ⟨rfl, k, acc, hkL, hk9, HMO.out, hx, hs.out, hc⟩))
        generalize L.getD k 0 = x at *
        have hxl := x.toNat_lt
        obtain ⟨d, hd⟩ : ∃ d, d = x.toNat % 128 := ⟨_, rfl⟩
        rw [← hd] at hjb HSN
        have hdl : d < 128 := by omega
        have r1 : (V x).tmod 128 = (d : Int) := by rw [Int.tmod_eq_emod_of_nonneg (V_nonneg x)]; unfold V; omega
        have r2 : V x % 128 = (d : Int) := by unfold V; omega
        have r3 : IntKind.u8.wrap (d : Int) = (d : Int) := by rw [IntKind.wrap_u8]; omega
        have r4 : IntKind.i64.wrap (d : Int) = (d : Int) := IntWalk.i64_in _ (by omega)
        have m1 : IntKind.i64.wrap (7 * (k : Int)) = 7 * (k : Int) := IntWalk.i64_in _ (by omega)
        have m2 : (7 * (k : Int)).toNat = 7 * k := by omega
        have m3 : 0 ≤ 7 * (k : Int) := by omega
        obtain ⟨j1, j2, j3⟩ := hjb
        have HD := Lib.hid hd
        clear hd
        generalize d <<< (7 * k) = dk at *
        obtain ⟨nx, hnx⟩ : ∃ nx, nx = acc + 128 ^ k * d := ⟨_, rfl⟩
        rw [← hnx] at j2 j3 HSN
        have HNX := Lib.hid hnx
        have J3 := Lib.hid j3
        clear hnx j3
        by_cases hbig : 128 ≤ x.toNat
        · have b1 : (128 : Int) ≤ V x := by unfold V; omega
          go_wp2_with fail
          go_roundw
          case rel => exact ⟨k + 1, nx, by omega, by go_num, rfl, Lib.hid ⟨HSN.out hbig, HMN.out hbig⟩, by trivial⟩
          case measure => simp [intOf]; omega
        · have b1 : ¬ (128 : Int) ≤ V x := by unfold V; omega
          have HDX : Hid (d = x.toNat) := Lib.hid (by have := HD.out; omega)
          by_cases hz : x.toNat = 0 ∧ 0 < k
          · obtain ⟨hz, hk0⟩ := hz
            have b2 : (V x == 0) = true := by simp [V]; omega
            have b3 : (0 : Int) < (k : Int) := by omega
            go_wp2_with fail
            go_ret3
            exact ⟨rfl, Or.inl ⟨2, HBD.out (by omega) (Or.inl ⟨hz, hk0⟩), rfl⟩⟩
          · have HZ : Hid (k = 0 ∨ x.toNat ≠ 0) := Lib.hid (by omega)
            by_cases htop : 4611686018427387903 < nx
            · by_cases hx0 : x.toNat = 0
              · have b2 : (V x == 0) = true := by simp [V]; omega
                have b3 : decide (0 < k) = false := by have := HZ.out; simp; omega
                clear hz hx0
                have b4 : decide ((4611686018427387903 : Int) < (nx : Int)) = true := by simp; omega
                have HTP := Lib.hid htop
                clear htop
                go_wp2_with fail
                go_ret3
                exact ⟨rfl, Or.inl ⟨2, HBD.out (by omega) (Or.inr (by rw [← HDX.out, ← HNX.out]; exact HTP.out)), rfl⟩⟩
              · have b2 : (V x == 0) = false := by simp [V]; omega
                clear hz hx0
                have b4 : decide ((4611686018427387903 : Int) < (nx : Int)) = true := by simp; omega
                have HTP := Lib.hid htop
                clear htop
                go_wp2_with fail
                go_ret3
                exact ⟨rfl, Or.inl ⟨2, HBD.out (by omega) (Or.inr (by rw [← HDX.out, ← HNX.out]; exact HTP.out)), rfl⟩⟩
            · by_cases hx0 : x.toNat = 0
              · have b2 : (V x == 0) = true := by simp [V]; omega
                have b3 : decide (0 < k) = false := by have := HZ.out; simp; omega
                clear hz hx0
                have b4 : decide ((4611686018427387903 : Int) < (nx : Int)) = false := by simp; omega
                have HT := Lib.hid htop
                clear htop
                go_wp2_with fail
                go_ret3
                exact ⟨rfl, Or.inr ⟨nx, by have := HT.out; omega, k + 1, by show k + 1 ≤ L.length; omega, by rw [HNX.out, HDX.out]; exact HSL.out (by omega) HZ.out, rfl⟩⟩
              · have b2 : (V x == 0) = false := by simp [V]; omega
                clear hz hx0
                have b4 : decide ((4611686018427387903 : Int) < (nx : Int)) = false := by simp; omega
                have HT := Lib.hid htop
                clear htop
                go_wp2_with fail
                go_ret3
                exact ⟨rfl, Or.inr ⟨nx, by have := HT.out; omega, k + 1, by show k + 1 ≤ L.length; omega, by rw [HNX.out, HDX.out]; exact HSL.out (by omega) HZ.out, rfl⟩⟩
      · have q0 : ¬ (k : Int) < (M : Int) := by omega
        by_cases h9 : L.length < 9
        · have q1 : (L.length : Int) < 9 := by omega
          have hkM : k = L.length := by have := HL9.out; omega
          have HB3 : Hid (bad L 3) := Lib.hid (Or.inl ⟨rfl, h9, by rw [← hkM]; exact HMO.out⟩)
          clear hkM
          go_wp2_with fail
          go_ret3
          exact ⟨rfl, Or.inl ⟨3, HB3.out, rfl⟩⟩
        · have q1 : ¬ (L.length : Int) < 9 := by omega
          have hkM : k = 9 := by have := HL9.out; omega
          have HB2 : Hid (bad L 2) := Lib.hid (Or.inr (Or.inl ⟨rfl, by omega, by rw [← hkM]; exact HMO.out⟩))
          clear hkM
          go_wp2_with fail
          go_ret3
          exact ⟨rfl, Or.inl ⟨2, HB2.out, rfl⟩⟩
end Go.Proofs.Ytjgmhaajcglpmaa
