/- glyph's number: what is read is a number's own bytes. -/
import Derived.Test.YtjgmhaajcglpmaaInn
import Derived.Laws.BitsAllLaws
import Derived.Deep.DeepCutAuto
namespace Go.Proofs.Ytjgmhaajcglpmaa
open Go.RowKit

theorem i64_or_nat (a b : Nat) (ha : a < 9223372036854775808) (hb : b < 9223372036854775808) : bits .or .i64 (a : Int) (b : Int) = ((a ||| b : Nat) : Int) := by
  have hx : a ||| b < 2 ^ 63 := Nat.or_lt_two_pow (by omega) (by omega)
  show IntKind.i64.wrap ((BitVec.ofInt 64 (a : Int) ||| BitVec.ofInt 64 (b : Int)).toNat : Int) = _
  rw [BitVec.toNat_or, ofInt_u64 a (by omega), ofInt_u64 b (by omega), IntWalk.i64_in _ (by omega)]
theorem int_shl (a k : Nat) (h : a * 2 ^ k < 9223372036854775808) : IntKind.i64.wrap ((a : Int) * 2 ^ k) = ((a <<< k : Nat) : Int) := by
  have e : (a : Int) * 2 ^ k = ((a * 2 ^ k : Nat) : Int) := by rw [Int.natCast_mul, Int.natCast_pow]; rfl
  rw [Nat.shiftLeft_eq, e]
  generalize a * 2 ^ k = x at *
  exact IntWalk.i64_in _ (by omega)
theorem join_bits (acc d k : Nat) (hk : k < 9) (ha : acc < 128 ^ k) (hd : d < 128) :
    IntKind.i64.wrap ((d : Int) * 2 ^ (7 * k)) = ((d <<< (7 * k) : Nat) : Int) ∧ bits .or .i64 (acc : Int) ((d <<< (7 * k) : Nat) : Int) = ((acc + 128 ^ k * d : Nat) : Int) ∧ acc + 128 ^ k * d < 128 ^ (k + 1) := by
  have e : 2 ^ (7 * k) = 128 ^ k := by rw [Nat.pow_mul]
  have h9 : 128 ^ k ≤ 128 ^ 8 := Nat.pow_le_pow_right (by decide) (by omega)
  have hm : 128 ^ k * d ≤ 128 ^ k * 127 := Nat.mul_le_mul_left _ (by omega)
  have hs : d <<< (7 * k) = 128 ^ k * d := by rw [Nat.shiftLeft_eq, e, Nat.mul_comm]
  refine ⟨int_shl d (7 * k) (by rw [e, Nat.mul_comm]; omega), ?_, by rw [Nat.pow_succ]; omega⟩
  rw [i64_or_nat _ _ (by omega) (by rw [hs]; omega), Nat.or_comm, nat_join (7 * k) (d <<< (7 * k)) acc (by rw [hs, e, Nat.mul_mod_right]) (by rw [e]; exact ha), hs, Nat.add_comm]
/-- What the first k bytes say, all of which have more behind them. -/
def said (L : List UInt8) (k acc : Nat) : Prop := acc < 128 ^ k ∧ (k = 0 → acc = 0) ∧ ∀ m, 0 < m → numBytes (acc + 128 ^ k * m) = L.take k ++ numBytes m
theorem said_zero (L : List UInt8) : said L 0 0 := ⟨by decide, fun _ => rfl, fun m _ => by simp⟩
theorem take_next (L : List UInt8) (k : Nat) (h : k < L.length) : L.take (k + 1) = L.take k ++ [L.getD k 0] := by
  rw [List.take_add_one, List.getElem?_eq_getElem h]
  simp [h]
theorem said_next (L : List UInt8) (k acc : Nat) (h : said L k acc) (hk : k < L.length) (hk9 : k < 9) (hx : 128 ≤ (L.getD k 0).toNat) : said L (k + 1) (acc + 128 ^ k * ((L.getD k 0).toNat % 128)) := by
  obtain ⟨h1, h2, h3⟩ := h
  have hb := (L.getD k 0).toNat_lt
  refine ⟨(join_bits acc ((L.getD k 0).toNat % 128) k hk9 h1 (Nat.mod_lt _ (by decide))).2.2, fun h => by omega, fun m hm => ?_⟩
  have hd : (L.getD k 0).toNat % 128 < 128 := Nat.mod_lt _ (by decide)
  have e : acc + 128 ^ k * ((L.getD k 0).toNat % 128) + 128 ^ (k + 1) * m = acc + 128 ^ k * ((L.getD k 0).toNat % 128 + 128 * m) := by
    rw [Nat.pow_succ, Nat.mul_add, Nat.mul_assoc, Nat.add_assoc]
  rw [e, h3 _ (by omega), take_next L k hk, List.append_assoc, numBytes_big (by omega)]
  congr 1
  rw [show ((L.getD k 0).toNat % 128 + 128 * m) % 128 + 128 = (L.getD k 0).toNat by omega, show ((L.getD k 0).toNat % 128 + 128 * m) / 128 = m by omega, UInt8.ofNat_toNat]
  rfl
theorem said_last (L : List UInt8) (k acc : Nat) (h : said L k acc) (hk : k < L.length) (hx : (L.getD k 0).toNat < 128) (h0 : k = 0 ∨ (L.getD k 0).toNat ≠ 0) : numBytes (acc + 128 ^ k * (L.getD k 0).toNat) = L.take (k + 1) := by
  obtain ⟨h1, h2, h3⟩ := h
  rw [take_next L k hk]
  by_cases hk0 : k = 0
  · rw [h2 hk0, hk0, Nat.pow_zero, Nat.one_mul, Nat.zero_add, numBytes_small (by rw [← hk0]; exact hx), UInt8.ofNat_toNat]
    rfl
  · rw [h3 _ (by omega), numBytes_small hx, UInt8.ofNat_toNat]

set_option maxRecDepth 100000 in
set_option maxHeartbeats 4000000 in
theorem numread_any (p : Pt) (w : World) (hp : p.ok w) :
    Calls Try.prog 59 #[.slice p.a p.l.length p.c] w fun r w' => w = w' ∧ ((∃ er : Int, er ≠ 0 ∧ r = .returned (.tuple #[.int .i64 0, .int .i64 0, .int .i64 er])) ∨ ∃ N : Nat, N < 4611686018427387904 ∧ ∃ s : Nat, s ≤ p.l.length ∧ numBytes N = p.l.take s ∧ r = .returned (.tuple #[.int .i64 N, .int .i64 s, .int .i64 0])) := by
  obtain ⟨a, c, L⟩ := p
  obtain ⟨hlc, hcm, hin⟩ := hp
  have hlc : L.length ≤ c := hlc
  have HIN : Hid (bytesIn w a L) := Lib.hid hin
  clear hin
  show Calls Try.prog 59 #[.slice a L.length c] w _
  have HL9 : Hid (min L.length 9 ≤ L.length ∧ min L.length 9 ≤ 9 ∧ (min L.length 9 = L.length ∨ min L.length 9 = 9)) := Lib.hid (by omega)
  obtain ⟨M, hM⟩ : ∃ M, M = min L.length 9 := ⟨_, rfl⟩
  rw [← hM] at HL9
  have HM := Lib.hid hM
  clear hM
  go_enter Try.func59, Try.ntmps59
  go_upto_region 2 with fail
  go_cut [12, 13, 14] (fun s n i wx => s = .slice a M c ∧ n = .int .i64 M ∧ i = .int .i64 0 ∧ w = wx)
  case first =>
    go_wp2_with fail
    all_goals
      go_meet
      case rel => exact ⟨by congr 1; have := HM.out; omega, by congr 1; have := HM.out; omega, rfl, rfl⟩
  case rest =>
    obtain ⟨rfl, rfl, rfl, rfl⟩ := hcut
    go_wp2_with fail
    go_loopw [14, 5] (fun i v wr => ∃ k acc : Nat, k ≤ M ∧ i = .int .i64 k ∧ v = .int .i64 acc ∧ Hid (said L k acc) ∧ w = wr) (fun i _ _ => ((M : Int) - intOf i).toNat)
    case atStart => exact ⟨0, 0, by omega, rfl, rfl, Lib.hid (said_zero L), rfl⟩
    case round =>
      obtain ⟨k, acc, hk, rfl, rfl, hs, rfl⟩ := hrel
      by_cases hlt : k < M
      · have q0 : (k : Int) < (M : Int) := by omega
        have p0 : 0 ≤ (k : Int) := by omega
        have hkL : k < L.length := by have := HL9.out; omega
        have hk9 : k < 9 := by have := HL9.out; omega
        have HSN := Lib.hid (said_next L k acc hs.out hkL hk9)
        have HSL := Lib.hid (said_last L k acc hs.out hkL)
        obtain ⟨bb, bo, ha, hc⟩ : ∃ b o, a = some ⟨b, o, none⟩ ∧ w.cell? ⟨b, o + k, none⟩ = some (.int .u8 (V (L.getD k 0))) := by
          rcases HIN.out with h | ⟨b, o, h1, h2⟩
          · rw [h] at hkL; exact absurd hkL (Nat.not_lt_zero _)
          · exact ⟨b, o, h1, h2 k hkL⟩
        subst ha
        have hjb := join_bits acc ((L.getD k 0).toNat % 128) k hk9 hs.out.1 (Nat.mod_lt _ (by decide))
        have HJL := Lib.hid (join_bits acc (L.getD k 0).toNat k hk9 hs.out.1)
        generalize L.getD k 0 = x at *
        have hxl := x.toNat_lt
        obtain ⟨d, hd⟩ : ∃ d, d = x.toNat % 128 := ⟨_, rfl⟩
        rw [← hd] at hjb HSN
        have hdl : d < 128 := by omega
        have r1 : (V x).tmod 128 = (d : Int) := by rw [Int.tmod_eq_emod_of_nonneg (V_nonneg x)]; unfold V; omega
        have r2 : V x % 128 = (d : Int) := by unfold V; omega
        have r3 : IntKind.u8.wrap (d : Int) = (d : Int) := by rw [IntKind.wrap_u8]; omega
        have r4 : IntKind.i64.wrap (d : Int) = (d : Int) := IntWalk.i64_in _ (by omega)
        have m1 : IntKind.i64.wrap (7 * (k : Int)) = 7 * (k : Int) := IntWalk.i64_in _ (by omega)
        have m2 : (7 * (k : Int)).toNat = 7 * k := by omega
        have m3 : 0 ≤ 7 * (k : Int) := by omega
        obtain ⟨j1, j2, j3⟩ := hjb
        have HD := Lib.hid hd
        clear hd
        generalize d <<< (7 * k) = dk at *
        obtain ⟨nx, hnx⟩ : ∃ nx, nx = acc + 128 ^ k * d := ⟨_, rfl⟩
        rw [← hnx] at j2 j3 HSN
        have HNX := Lib.hid hnx
        have J3 := Lib.hid j3
        clear hnx j3
        by_cases hbig : 128 ≤ x.toNat
        · have b1 : (128 : Int) ≤ V x := by unfold V; omega
          go_wp2_with fail
          go_roundw
          case rel => exact ⟨k + 1, nx, by omega, by go_num, rfl, Lib.hid (HSN.out hbig), by trivial⟩
          case measure => simp [intOf]; omega
        · have b1 : ¬ (128 : Int) ≤ V x := by unfold V; omega
          have HDX : Hid (d = x.toNat) := Lib.hid (by have := HD.out; omega)
          by_cases hz : x.toNat = 0 ∧ 0 < k
          · obtain ⟨hz, hk0⟩ := hz
            have b2 : (V x == 0) = true := by simp [V]; omega
            have b3 : (0 : Int) < (k : Int) := by omega
            go_wp2_with fail
            go_ret3
            exact ⟨rfl, Or.inl ⟨2, by decide, rfl⟩⟩
          · have HZ : Hid (k = 0 ∨ x.toNat ≠ 0) := Lib.hid (by omega)
            by_cases htop : 4611686018427387903 < nx
            · by_cases hx0 : x.toNat = 0
              · have b2 : (V x == 0) = true := by simp [V]; omega
                have b3 : decide (0 < k) = false := by have := HZ.out; simp; omega
                clear hz hx0
                have b4 : decide ((4611686018427387903 : Int) < (nx : Int)) = true := by simp; omega
                clear htop
                go_wp2_with fail
                go_ret3
                exact ⟨rfl, Or.inl ⟨2, by decide, rfl⟩⟩
              · have b2 : (V x == 0) = false := by simp [V]; omega
                clear hz hx0
                have b4 : decide ((4611686018427387903 : Int) < (nx : Int)) = true := by simp; omega
                clear htop
                go_wp2_with fail
                go_ret3
                exact ⟨rfl, Or.inl ⟨2, by decide, rfl⟩⟩
            · by_cases hx0 : x.toNat = 0
              · have b2 : (V x == 0) = true := by simp [V]; omega
                have b3 : decide (0 < k) = false := by have := HZ.out; simp; omega
                clear hz hx0
                have b4 : decide ((4611686018427387903 : Int) < (nx : Int)) = false := by simp; omega
                have HT := Lib.hid htop
                clear htop
                go_wp2_with fail
                go_ret3
                exact ⟨rfl, Or.inr ⟨nx, by have := HT.out; omega, k + 1, by show k + 1 ≤ L.length; omega, by rw [HNX.out, HDX.out]; exact HSL.out (by omega) HZ.out, rfl⟩⟩
              · have b2 : (V x == 0) = false := by simp [V]; omega
                clear hz hx0
                have b4 : decide ((4611686018427387903 : Int) < (nx : Int)) = false := by simp; omega
                have HT := Lib.hid htop
                clear htop
                go_wp2_with fail
                go_ret3
                exact ⟨rfl, Or.inr ⟨nx, by have := HT.out; omega, k + 1, by show k + 1 ≤ L.length; omega, by rw [HNX.out, HDX.out]; exact HSL.out (by omega) HZ.out, rfl⟩⟩
      · have q0 : ¬ (k : Int) < (M : Int) := by omega
        by_cases h9 : L.length < 9
        · have q1 : (L.length : Int) < 9 := by omega
          go_wp2_with fail
          go_ret3
          exact ⟨rfl, Or.inl ⟨3, by decide, rfl⟩⟩
        · have q1 : ¬ (L.length : Int) < 9 := by omega
          go_wp2_with fail
          go_ret3
          exact ⟨rfl, Or.inl ⟨2, by decide, rfl⟩⟩
end Go.Proofs.Ytjgmhaajcglpmaa
