/- The contract of Prime, and of the law's bits. -/
import Derived.Test.YtfbihkfcpgkbmaaGcd
namespace Go.Proofs.Ytfbihkfcpgkbmaa
open Go.RowKit

/-- x^(2^i), by p; and whether the first so many of the sums with x have nothing in common with p. -/
def frob (p : W) : Nat → W
  | 0 => 2#64
  | i + 1 => wM (frob p i) (frob p i) p
def coprime (p : W) : Nat → Bool
  | 0 => true
  | i + 1 => coprime p i && decide (wG (wG 0 (frob p (i + 1) ^^^ 2#64)) p = 1#64)
def isPrime (p : W) : Bool := decide (1 ≤ dgw p) && coprime p (dgw p / 2).toNat
theorem coprime_mono (p : W) (i j : Nat) (h : i ≤ j) (hj : coprime p j = true) : coprime p i = true := by
  induction j with
  | zero => rw [show i = 0 by omega]; exact hj
  | succ j ih =>
    by_cases e : i = j + 1
    · subst e; exact hj
    · unfold coprime at hj
      rw [Bool.and_eq_true] at hj
      exact ih (by omega) hj.1
theorem gcd_new (x y : W) (t : TypeId) (w : World) :
    Calls Try.prog 22 #[.slice (some ⟨w.heap.size, 0, none⟩) 2 2] (w.alloc (.cells #[.int .u64 (U x), .int .u64 (U y)] t (0, 0))) fun e w' => e = .returned (.int .u64 (U (wG (wG 0 x) y))) ∧ Below w.heap.size w w' := by
  have h : wordsIn (w.alloc (.cells #[.int .u64 (U x), .int .u64 (U y)] t (0, 0))) (some ⟨w.heap.size, 0, none⟩) [x, y] := by
    refine Or.inr ⟨_, _, rfl, fun j hj => ?_⟩
    match j, hj with
    | 0, _ => rw [World.cell?_alloc_at _ _ _ _ rfl]; rfl
    | 1, _ => rw [World.cell?_alloc_at _ _ _ _ rfl]; rfl
  refine (gcd_any _ [x, y] 2 _ (Nat.le_refl 2) (by simp) h).mono ?_
  rintro e w' ⟨rfl, hb⟩
  exact ⟨rfl, ((Below.refl _ _).alloc (Nat.le_refl _) _).trans (hb.mono (by simp))⟩
theorem U_two : (2 : Int) = U 2#64 := rfl
theorem ne_of_deg {p : W} (h : 1 ≤ dgw p) : p ≠ 0 := fun e => by subst e; exact absurd h (by decide)
theorem dgw_le (p : W) : dgw p ≤ 63 := by unfold dgw deg; have := len_le p.toNat p.isLt; omega

attribute [local go_sem] U_xor
set_option maxHeartbeats 1000000 in
theorem prime_any (p : W) (w : World) :
    Calls Try.prog 23 #[.int .u64 (U p)] w fun e w' => e = .returned (.bool (isPrime p)) ∧ Below w.heap.size w w' := by
  have hle := dgw_le p
  by_cases hd : 1 ≤ dgw p
  · have t0 : decide (dgw p < 1) = false := by simpa using hd
    have HN := Lib.hid (ne_of_deg hd)
    obtain ⟨n, hn⟩ : ∃ n : Nat, dgw p / 2 = (n : Int) := ⟨(dgw p / 2).toNat, by omega⟩
    have HP : Hid (isPrime p = coprime p n) := Lib.hid (by unfold isPrime; rw [decide_eq_true hd, hn]; rfl)
    have hn64 : n ≤ 64 := by omega
    have hn' : dgw p / 2 = (n : Int) := hn
    have hd0 : 0 ≤ dgw p := by omega
    clear hd hn
    go_enter Try.func23, Try.ntmps23
    go_wp2_with ((with_reducible refine (deg_any _ _).mono ?_); rintro e w' ⟨rfl, rfl⟩)
    rw [hn']
    have HN' := Lib.hid hn'
    clear hn' hd0 t0 hle
    have hnn : 0 ≤ (n : Int) := by omega
    go_loopw [3, 10] (fun x i wd => ∃ k : Nat, k ≤ n ∧ i = .int .i64 k ∧ x = .int .u64 (U (frob p k)) ∧ Hid (coprime p k = true) ∧ Below w.heap.size w wd) (fun _ i _ => n - (intOf i).toNat)
    case atStart => exact ⟨0, by omega, rfl, rfl, Lib.hid rfl, Below.refl _ _⟩
    case round =>
      obtain ⟨k, hk, rfl, rfl, hc, hbel⟩ := hrel
      have HB := Lib.hid hbel
      clear hbel
      by_cases hlt : k < n
      · have q : (k : Int) < (n : Int) := by omega
        have p0 : 0 ≤ (k : Int) := by omega
        have HF : Hid (frob p (k + 1) = wM (frob p k) (frob p k) p) := Lib.hid rfl
        have HC : Hid (coprime p (k + 1) = (coprime p k && decide (wG (wG 0 (frob p (k + 1) ^^^ 2#64)) p = 1#64))) := Lib.hid rfl
        generalize frob p k = f at *
        generalize hf1 : frob p (k + 1) = f1 at *
        have HF1 := Lib.hid hf1
        clear hf1
        go_wp2_with fail
        refine (mod_any _ _ _ _ HN.out).mono ?_
        rintro e w1 ⟨rfl, hb1⟩
        have HB1 := Lib.hid (HB.out.trans (hb1.mono HB.out.size))
        clear hb1 HB
        rw [← HF.out]
        go_wp2_with fail
        rw [U_two]
        refine (add_new _ _ _ _).mono ?_
        rintro e w2 ⟨rfl, hb2⟩
        have HB2 := Lib.hid (HB1.out.trans (hb2.mono HB1.out.size))
        clear hb2 HB1
        go_wp2_with fail
        refine (gcd_new _ _ _ _).mono ?_
        rintro e w3 ⟨rfl, hb3⟩
        have HB3 := Lib.hid (HB2.out.trans (hb3.mono HB2.out.size))
        clear hb3 HB2
        generalize wG (wG 0 (f1 ^^^ 2#64)) p = G at *
        by_cases h1 : G = 1#64
        · have t1 : (U G == 1) = true := by rw [U_beq1]; simpa using h1
          have t2 : (U G != 1) = false := by simp [bne, t1]
          have HC1 : Hid (coprime p (k + 1) = true) := Lib.hid (by rw [HC.out, hc.out, decide_eq_true h1]; rfl)
          clear h1 HC hc t1
          go_wp2_with fail
          go_roundw
          case rel => exact ⟨k + 1, by omega, by go_num, by rw [HF1.out], HC1, HB3.out⟩
          case measure => simp [intOf]; omega
        · have t1 : (U G == 1) = false := by rw [U_beq1]; simpa using h1
          have t2 : (U G != 1) = true := by simp [bne, t1]
          have HE : Hid (isPrime p = false) := Lib.hid (by
            rw [HP.out]
            cases hcn : coprime p n with
            | false => rfl
            | true =>
              have := coprime_mono p (k + 1) n (by omega) hcn
              rw [HC.out, hc.out, decide_eq_false h1] at this
              exact absurd this (by decide))
          clear h1 HC hc t1
          go_wp2_with fail
          go_ret
          exact ⟨ret_bool HE.out.symm, HB3.out⟩
      · obtain rfl : k = n := by omega
        have HE : Hid (isPrime p = true) := Lib.hid (by rw [HP.out, hc.out])
        clear hc
        go_wp2_with fail
        go_ret
        exact ⟨ret_bool HE.out.symm, HB.out⟩
  · have t0 : decide (dgw p < 1) = true := by simp; omega
    have HE : Hid (isPrime p = false) := Lib.hid (by unfold isPrime; rw [decide_eq_false hd]; rfl)
    clear hd hle
    go_enter Try.func23, Try.ntmps23
    go_wp2_with ((with_reducible refine (deg_any _ _).mono ?_); rintro e w' ⟨rfl, rfl⟩)
    go_ret
    exact ⟨ret_bool HE.out.symm, Below.refl _ _⟩

/-- The document's own prime, and the powers of x by it. -/
def bigP : W := 17349423945073011#64
def powers : List W := [4#64, 16#64, 256#64, 65536#64, 4294967296#64, 3521825378016247#64, 1726864256289090#64, 7888964413161494#64, 3213359907657400#64, 2968297008613865#64, 7839787636219953#64, 3281662813809417#64, 4050624828637873#64, 2569485746789764#64, 184717817444860#64, 877656699995496#64, 5696969913315076#64, 3959106377404567#64, 4147420456870319#64, 2134488203284450#64, 9005564188050729#64, 4456045410267611#64, 2151138946501655#64, 453558266684834#64, 7827019275877521#64, 691454004778243#64]
def chain (p : W) : W → List W → Bool
  | _, [] => true
  | f, g :: l => decide (wM f f p = g) && decide (wG (wG 0 (g ^^^ 2#64)) p = 1#64) && chain p g l
theorem chain_frob (p : W) (l : List W) (f : W) (n : Nat) (hf : frob p n = f) (hc : coprime p n = true) (h : chain p f l = true) : coprime p (n + l.length) = true := by
  induction l generalizing f n with
  | nil => exact hc
  | cons g l ih =>
    unfold chain at h
    rw [Bool.and_eq_true, Bool.and_eq_true, decide_eq_true_iff, decide_eq_true_iff] at h
    obtain ⟨⟨h1, h2⟩, h3⟩ := h
    have e : frob p (n + 1) = g := by rw [← h1, ← hf]; rfl
    have := ih g (n + 1) e (by unfold coprime; rw [hc, e, h2]; rfl) h3
    rwa [List.length_cons, show n + (l.length + 1) = n + 1 + l.length by omega]
theorem powers_ok : chain bigP 2#64 powers = true := by decide +kernel
theorem bigP_prime : isPrime bigP = true := by
  have h := chain_frob bigP powers 2#64 0 rfl rfl powers_ok
  unfold isPrime
  rw [show (dgw bigP / 2).toNat = 0 + powers.length by decide +kernel, h]
  decide +kernel
end Go.Proofs.Ytfbihkfcpgkbmaa
