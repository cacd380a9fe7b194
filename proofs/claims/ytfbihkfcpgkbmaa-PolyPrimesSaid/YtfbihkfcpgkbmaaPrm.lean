/- PolyPrimes: for all three words the law returns true, and its arguments read as before. No condition. -/
import Derived.Test.YtfbihkfcpgkbmaaTab
namespace Go.Proofs.Ytfbihkfcpgkbmaa
open Go.RowKit

theorem ofNat_toNat64 (q : Nat) (h : q < 2 ^ 64) : (BitVec.ofNat 64 q).toNat = q := by rw [BitVec.toNat_ofNat, Nat.mod_eq_of_lt h]
theorem deg_log {q : Nat} (h : 2 ≤ q) : deg q = (q.log2 : Int) := deg_of_ne (by omega)
theorem U_succ (q : W) (h : q.toNat < 2 ^ 63) : IntKind.u64.wrap (U q + 1) = U (q + 1#64) := U_add q 1#64
set_option maxHeartbeats 2000000 in
theorem refPrime_any (p : W) (w : World) (hp : p.toNat < 16384) :
    Calls Try.prog 24 #[.int .u64 (U p)] w fun e w' => e = .returned (.bool (isPrime p)) ∧ Below w.heap.size w w' := by
  have hle := dgw_le p
  by_cases hd : 1 ≤ dgw p
  · have t0 : decide (dgw p < 1) = false := by simpa using hd
    have hpn : p.toNat ≠ 0 := ne_toNat (ne_of_deg hd)
    have hlg : dgw p = (p.toNat.log2 : Int) := deg_of_ne hpn
    have hp2 : 2 ≤ p.toNat := (Nat.le_log2 hpn (k := 1)).1 (by omega)
    have hl14 : p.toNat.log2 < 14 := (Nat.log2_lt hpn).2 hp
    have HYes : Hid (isPrime p = true → ∀ q, 2 ≤ q → q.log2 ≤ p.toNat.log2 / 2 → Pm.pr p.toNat q ≠ 0) := Lib.hid fun h q h1 h2 => prime_no h q h1 h2
    have HNo : Hid (isPrime p = false → ∃ q, 2 ≤ q ∧ q.log2 ≤ p.toNat.log2 / 2 ∧ Pm.pr p.toNat q = 0) := Lib.hid fun h => small_no p hp hp2 h
    obtain ⟨n, hn⟩ : ∃ n : Nat, n = p.toNat.log2 / 2 := ⟨_, rfl⟩
    have hn' : dgw p / 2 = (n : Int) := by omega
    have hn7 : n ≤ 6 := by omega
    rw [← hn] at HYes HNo
    have hd0 : 0 ≤ dgw p := by omega
    clear hd hpn hlg hp2 hl14 hn hp
    go_enter Try.func24, Try.ntmps24
    go_wp2_with fail
    refine (refDeg_any _ _).mono ?_
    rintro e w1 ⟨rfl, hb⟩
    have H1 := Lib.hid hb
    clear hb
    go_wp2_with fail
    have HN' := Lib.hid hn'
    clear hn'
    have p6 : 0 ≤ (n : Int) := by omega
    go_loopw [4, 5, 6, 7] (fun x _ _ _ wd => ∃ q : Nat, 2 ≤ q ∧ q ≤ 128 ∧ x = .int .u64 (U (BitVec.ofNat 64 q)) ∧ Hid (∀ r, 2 ≤ r → r < q → Pm.pr p.toNat r ≠ 0) ∧ Hid (Below w.heap.size w wd)) (fun x _ _ _ _ => 1000 - (intOf x).toNat)
    case atStart => exact ⟨2, Nat.le_refl _, by decide, rfl, Lib.hid (fun r h1 h2 => by omega), H1⟩
    case round =>
      obtain ⟨q, hq2, hq3, rfl, K1, K2⟩ := hrel
      have hqt : (BitVec.ofNat 64 q).toNat = q := ofNat_toNat64 q (by omega)
      have hdq : dgw (BitVec.ofNat 64 q) = (q.log2 : Int) := by unfold dgw; rw [hqt]; exact deg_log hq2
      have hq0 : BitVec.ofNat 64 q ≠ 0 := fun e => by rw [e] at hqt; simp at hqt; omega
      have hwr : (wR p (BitVec.ofNat 64 q)).toNat = Pm.pr p.toNat q := by rw [wR_toNat _ _ hq0, hqt]
      have hsu : BitVec.ofNat 64 q + 1#64 = BitVec.ofNat 64 (q + 1) := by
        apply BitVec.eq_of_toNat_eq
        rw [BitVec.toNat_add, hqt, ofNat_toNat64 (q + 1) (by omega)]
        show (q + 1) % _ = _
        omega
      have hU : U (BitVec.ofNat 64 q) = (q : Int) := U_of q (by omega)
      have hU1 : U (BitVec.ofNat 64 (q + 1)) = ((q + 1 : Nat) : Int) := U_of (q + 1) (by omega)
      generalize BitVec.ofNat 64 q = Q at *
      have HU := Lib.hid hU
      have HU1 := Lib.hid hU1
      have HSU := Lib.hid hsu
      have HQ0 := Lib.hid hq0
      clear hU hU1 hsu hqt
      by_cases hq : q.log2 ≤ n
      · have t1 : decide (dgw Q ≤ dgw p / 2) = true := by rw [hdq, HN'.out]; simpa using hq
        have HQ : Hid (q < 128) := Lib.hid (by have := (Nat.log2_lt (k := 7) (show q ≠ 0 by omega)).1 (by omega); omega)
        by_cases hz : Pm.pr p.toNat q = 0
        · have hw : wR p Q = 0 := BitVec.eq_of_toNat_eq (by rw [hwr, hz]; rfl)
          have t2 : (U (wR p Q) == 0) = true := by rw [U_beq0]; simpa using hw
          have HE : Hid (isPrime p = false) := Lib.hid (by
            cases hp : isPrime p with
            | false => rfl
            | true => exact absurd hz (HYes.out hp q hq2 hq))
          clear hw hz hwr hdq hq hq0 hn7
          go_wp2_with fail
          refine (refDeg_any _ _).mono ?_
          rintro e w2 ⟨rfl, hb⟩
          have H2 := Lib.hid (K2.out.trans (hb.mono K2.out.size))
          clear hb
          go_wp2_with fail
          refine (refDiv_any _ _ _ HQ0.out).mono ?_
          rintro e w3 ⟨rfl, hb⟩
          have H3 := Lib.hid (H2.out.trans (hb.mono H2.out.size))
          clear hb
          go_wp2_with fail
          go_ret
          exact ⟨ret_bool HE.out.symm, H3.out⟩
        · have hw : wR p Q ≠ 0 := fun e => hz (by rw [← hwr, e]; rfl)
          have t2 : (U (wR p Q) == 0) = false := by rw [U_beq0]; simpa using hw
          have K3 : Hid (∀ r, 2 ≤ r → r < q + 1 → Pm.pr p.toNat r ≠ 0) := Lib.hid fun r h1 h2 => by
            by_cases e : r = q
            · subst e; exact hz
            · exact K1.out r h1 (by omega)
          have t3 := U_add Q 1#64
          rw [show U 1#64 = 1 from rfl] at t3
          clear hw hz hwr hdq hq hq0 hn7
          go_wp2_with fail
          refine (refDeg_any _ _).mono ?_
          rintro e w2 ⟨rfl, hb⟩
          have H2 := Lib.hid (K2.out.trans (hb.mono K2.out.size))
          clear hb
          go_wp2_with fail
          refine (refDiv_any _ _ _ HQ0.out).mono ?_
          rintro e w3 ⟨rfl, hb⟩
          have H3 := Lib.hid (H2.out.trans (hb.mono H2.out.size))
          clear hb
          go_wp2_with fail
          go_roundw
          case rel => exact ⟨q + 1, by omega, by have := HQ.out; omega, by rw [HSU.out], K3, H3⟩
          case measure =>
            simp only [intOf]
            rw [HSU.out, HU.out, HU1.out]
            have := HQ.out
            omega
      · have t1 : decide (dgw Q ≤ dgw p / 2) = false := by rw [hdq, HN'.out]; simpa using hq
        have HE : Hid (isPrime p = true) := Lib.hid (by
          cases hp : isPrime p with
          | true => rfl
          | false =>
            obtain ⟨q0, h1, h2, h3⟩ := HNo.out hp
            have hlt : q0 < q := by
              have a1 : q0 < 2 ^ (n + 1) := (Nat.log2_lt (by omega)).1 (by omega)
              have a2 : 2 ^ (n + 1) ≤ q := (Nat.le_log2 (by omega)).1 (by omega)
              omega
            exact absurd h3 (K1.out q0 h1 hlt))
        clear hdq hq hq0 hwr hn7
        go_wp2_with fail
        refine (refDeg_any _ _).mono ?_
        rintro e w2 ⟨rfl, hb⟩
        have H2 := Lib.hid (K2.out.trans (hb.mono K2.out.size))
        clear hb
        go_wp2_with fail
        go_ret
        exact ⟨ret_bool HE.out.symm, H2.out⟩
  · have t0 : decide (dgw p < 1) = true := by simp; omega
    have HE : Hid (isPrime p = false) := Lib.hid (by unfold isPrime; rw [decide_eq_false hd]; rfl)
    clear hd hle
    go_enter Try.func24, Try.ntmps24
    go_wp2_with fail
    refine (refDeg_any _ _).mono ?_
    rintro e w1 ⟨rfl, hb⟩
    have H1 := Lib.hid hb
    clear hb
    go_wp2_with fail
    go_ret
    exact ⟨ret_bool HE.out.symm, H1.out⟩

/-- The lowest 14 bits; a polynomial of degree 1 to 30. -/
def low14 (a : W) : W := a % 16384#64
def fact (a : W) : W := 2#64 + a % 2147483646#64
theorem low14_lt (a : W) : (low14 a).toNat < 16384 := by
  unfold low14
  rw [BitVec.toNat_umod]
  exact Nat.mod_lt _ (by decide)
theorem fact_toNat (a : W) : (fact a).toNat = 2 + a.toNat % 2147483646 := by
  unfold fact
  rw [BitVec.toNat_add, BitVec.toNat_umod]
  show (2 + a.toNat % 2147483646) % _ = _
  omega
theorem U_low14 (a : W) : U a % 16384 = U (low14 a) := by
  unfold low14 U
  rw [BitVec.toNat_umod]
  rfl
theorem U_fact (a : W) : 2 + U a % 2147483646 = U (fact a) := by
  unfold U
  rw [fact_toNat]
  omega
theorem fact_bounds (a : W) : 2 ≤ (fact a).toNat ∧ (fact a).toNat < 2 ^ 31 := by rw [fact_toNat]; omega
theorem fact_no (a b : W) : isPrime (acc (fact a) (fact b) 64).2 = false := by
  have ha := fact_bounds a
  have hb := fact_bounds b
  refine not_prime (a := (fact a).toNat) (b := (fact b).toNat) ?_ ha.1 hb.1
  rw [acc_lo, Nat.mod_eq_of_lt]
  exact Nat.lt_of_lt_of_le (Pm.pm_lt (m := 31) (n := 30) ha.2 hb.2) (by decide)

attribute [local go_sem] U_low14 U_fact U_wrap
set_option maxRecDepth 100000 in
set_option maxHeartbeats 4000000 in
theorem law_polyPrimes (p a b : W) (w : World) :
    Calls Try.prog 8 #[.int .u64 (U p), .int .u64 (U a), .int .u64 (U b)] w fun e w' => e = .returned (.bool true) ∧ Below w.heap.size w w' := by
  have HP := Lib.hid (low14_lt p)
  have HF := Lib.hid (fact_no a b)
  have u1 := U_nonneg p
  have u2 := U_nonneg a
  have u3 := U_nonneg b
  go_enter Try.func8, Try.ntmps8
  go_wp2_with fail
  refine (bits_any _).mono ?_
  rintro e w1 ⟨rfl, hb⟩
  have H1 := Lib.hid hb
  clear hb
  go_wp2_with fail
  refine (prime_any _ _).mono ?_
  rintro e w2 ⟨rfl, hb⟩
  have H2 := Lib.hid (H1.out.trans (hb.mono H1.out.size))
  clear hb H1
  go_wp2_with fail
  refine (refPrime_any _ _ HP.out).mono ?_
  rintro e w3 ⟨rfl, hb⟩
  have H3 := Lib.hid (H2.out.trans (hb.mono H2.out.size))
  clear hb H2
  have t1 : (isPrime (low14 p) != isPrime (low14 p)) = false := by simp
  go_wp2_with fail
  refine (mul_any _ _ _).mono ?_
  rintro e w4 ⟨rfl, hb⟩
  have H4 := Lib.hid (H3.out.trans (hb.mono H3.out.size))
  clear hb H3
  go_wp2_with fail
  refine (prime_any _ _).mono ?_
  rintro e w5 ⟨rfl, hb⟩
  have H5 := Lib.hid (H4.out.trans (hb.mono H4.out.size))
  clear hb H4
  rw [HF.out]
  go_wp2_with fail
  go_ret
  exact ⟨rfl, H5.out⟩

namespace polyPrimes
open Go.ChangeShapes Go.WideShapes Go.ChangeAt Go.RowKit
set_option maxRecDepth 100000 in
theorem lifted (os : Os) (started : os.Started) (H : Type) (enc : TypeId × Value → H) :
    ReturnsInHanded {} Try.checked os 8 .any (Rows.polyPrimesSpec.pre6 enc Try.prog Try.f8 Rows.polyPrimesRow.domain false) (Rows.polyPrimesSpec.post enc Try.prog Try.f8 false true false false) := by
  refine returnsInHanded_of_change (C := Try.checked) own started (by kernel_rfl) Try.func8
    (ChangeSpec.witness6 (enc := enc) (C := Try.checked) false ⟨#[], #[.int .u64 0, .int .u64 0, .int .u64 0], []⟩ 8 (by kernel_rfl) (by kernel_rfl) (by kernel_rfl) (by kernel_rfl)) ?_
  intro W base args ds gs before hval0 hW hcnd _
  have hval : ∀ (j : Nat) t v, Try.f8.params[j]? = some t → args[j]? = some v → Value.okWide Try.prog W .any base t v := hval0
  have hW' := hW
  obtain ⟨p, q, hA0, hV, rfl, hfz, hnd⟩ := hW
  have hA : DataW.TrodAll enc Try.prog W 0 (fun _ => true) true Try.f8.params.toList args.toList ds p := hA0
  rw [Try.params8] at hA hval
  obtain ⟨v0, vs0, d0, ds0, p0, q0, hargs, rfl, rfl, h0, r0⟩ := trodAll_cons hA
  obtain ⟨v1, vs1, d1, ds1, p1, q1, rfl, rfl, rfl, h1, r1⟩ := trodAll_cons r0
  obtain ⟨v2, vs2, d2, ds2, p2, q2, rfl, rfl, rfl, h2, r2⟩ := trodAll_cons r1
  obtain ⟨rfl, rfl, rfl⟩ := trodAll_nil r2
  obtain rfl : args = #[v0, v1, v2] := by cases args; simp_all
  obtain ⟨rfl, rfl⟩ := trodVars_none hV
  obtain ⟨a0, rfl, rfl, rfl, w0⟩ := open_int Try.underlying24 (hval 0 24 v0 rfl rfl) h0
  obtain ⟨a1, rfl, rfl, rfl, w1⟩ := open_int Try.underlying24 (hval 1 24 v1 rfl rfl) h1
  obtain ⟨a2, rfl, rfl, rfl, w2⟩ := open_int Try.underlying24 (hval 2 24 v2 rfl rfl) h2
  clear hA0 hval0
  simp only [List.append_nil] at hW'
  obtain ⟨x0, rfl⟩ := word_of a0 w0
  obtain ⟨x1, rfl⟩ := word_of a1 w1
  obtain ⟨x2, rfl⟩ := word_of a2 w2
  refine (law_polyPrimes x0 x1 x2 W).mono fun e W' ⟨he, hb⟩ => ?_
  subst he
  exact ⟨_, rfl, _, [], _, _, _, _, hW', trodAll_cons_mk (shut_bool Try.underlying4 _) trodAll_mk0, (trodAll_cons_mk (shut_int Try.underlying24 w0) (trodAll_cons_mk (shut_int Try.underlying24 w1) (trodAll_cons_mk (shut_int Try.underlying24 w2) trodAll_mk0))), rfl, hb.frame _, fun h => by cases h⟩

theorem proved : Rows.PolyPrimesSaid :=
  OpenClaim.holds_of_wide 8 Try.f8 rfl rfl rfl rfl rfl rfl rfl ⟨rfl, rfl, rfl, rfl, rfl⟩ rfl rfl rfl rfl rfl (by kernel_rfl) Try.func8 (by kernel_rfl)
    (of_decide_eq_true (by kernel_rfl)) (by unfold Func.isWrapper; first | (rw [if_pos (by decide +kernel)]; kernel_rfl) | (rw [if_neg (by decide +kernel)]; exact ⟨rfl, rfl⟩))
    (fun os started H enc _ => lifted os started H enc)
end polyPrimes
end Go.Proofs.Ytfbihkfcpgkbmaa
