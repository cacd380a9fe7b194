/- bytes.Clone; cell.Wind. -/
import Derived.Test.YtjkhokholcchfaaDoorTnc
import Derived.Test.YtjkhokholcchfaaDoorZer
import Derived.Lib.SliceRun
namespace Go.Proofs.YtjkhokholcchfaaDoor
open Go.RowKit Sha

set_option maxRecDepth 100000 in
set_option maxHeartbeats 1000000 in
theorem clone_any (a : Option Addr) (l : List UInt8) (c : Nat) (w : World) (h : bytesIn w a l) (hz : a = none → c = 0) (hl : l.length ≤ 900000) :
    Calls Tryd.prog 38 #[.slice a l.length c] w fun e w' => ∃ fa fc, e = .returned (.slice fa l.length fc) ∧ l.length ≤ fc ∧ fc ≤ 9223372036854775807 ∧ bytesIn w' fa l ∧ (∀ x, fa = some x → w.heap.size ≤ x.block ∧ x.block < w'.heap.size) ∧ Below w.heap.size w w' := by
  have q := fun (w : World) (a : Option Addr) (n c n' c' : Nat) => Go.Lib.run_eql_slice_nil (P := Tryd.prog) w 22 _ a n c n' c' Tryd.underlying22
  have H := Lib.hid h
  have LIT := Lib.hid (rowM.lit w w.heap.size [] #[] rfl 0 rfl (Nat.le_refl _) (by simp))
  cases a with
  | none =>
    obtain rfl : l = [] := by
      rcases h with h0 | ⟨b, o', h1, _⟩
      · exact h0
      · cases h1
    obtain rfl := hz rfl
    clear h hz
    go_enter Tryd.func38, Tryd.ntmps38
    go_wp2_with fail
    go_ret
    exact ⟨none, 0, rfl, Nat.le_refl _, by decide, Or.inl rfl, (fun x e => by cases e), Below.refl _ _⟩
  | some ad =>
    clear h hz
    have kl := alloc_below w (.cells #[] 5 (0, 0))
    have IL := Lib.hid (H.out.below kl)
    have KLL := Lib.hid kl
    have hl9 : ([] : List UInt8).length + l.length ≤ 1000000 := by show 0 + _ ≤ _; omega
    clear kl
    go_enter Tryd.func38, Tryd.ntmps38
    go_wp2_with (at_builtin; refine append_M0 rfl _ _ rfl w.heap.size _ [] rfl LIT.out (some ad) l.length c l rfl rfl IL.out hl9 KLL.out.size ?_; intro v' w' r1 r2)
    obtain ⟨fa, fc, hv, h1, h2, h3, h4, h5⟩ := r1.bytes
    rw [List.nil_append] at hv h1 h3
    subst hv
    have KB := Lib.hid (KLL.out.trans (LIT.out.grown r2 KLL.out.size))
    have H3 := Lib.hid h3
    have H5 : Hid (∀ x, fa = some x → w.heap.size ≤ x.block ∧ x.block < w'.heap.size) := Lib.hid (fun x e => by
      subst e
      exact h5 x.block rfl)
    have H2 : Hid (fc ≤ 9223372036854775807) := Lib.hid (by unfold maxLen at h2; exact h2)
    clear r1 r2 h2 h3 h4 h5
    go_wp2_with fail
    go_ret
    exact ⟨fa, fc, rfl, h1, H2.out, H3.out, H5.out, KB.out⟩
set_option maxRecDepth 100000 in
set_option maxHeartbeats 1000000 in
theorem wind_any (a : Option Addr) (F : List UInt8) (c : Nat) (w : World) (h : bytesIn w a F) (hz : a = none → c = 0) (hl : F.length ≤ 400) :
    Calls Tryd.prog 16 #[.slice a F.length c] w fun e w' => ∃ tb fa fc, e = .returned (.pointer (some ⟨tb, 0, none⟩)) ∧ w.heap.size ≤ tb ∧ tapeAt w' tb fa fc F 0 ∧ (∀ x, fa = some x → w.heap.size ≤ x.block) ∧ Below w.heap.size w w' := by
  have HC := Lib.hid (clone_any a F c w h hz (by omega))
  clear h hz
  go_enter Tryd.func16, Tryd.ntmps16
  go_wp2_with fail
  with_reducible refine HC.out.mono ?_
  rintro e w1 ⟨fa, fc, rfl, h1, h2, h3, h4, kk⟩
  have N1 := Lib.hid (blockIs.new w1 [.slice fa F.length fc, .int .i64 0] 83)
  have B1 := Lib.hid (kk.trans ((alloc_below w1 (.cells #[.slice fa F.length fc, .int .i64 0] 83 (0, 0))).mono kk.size))
  have I1 := Lib.hid (h3.below (alloc_below w1 (.cells #[.slice fa F.length fc, .int .i64 0] 83 (0, 0))))
  have H4 : Hid (∀ x, fa = some x → w.heap.size ≤ x.block) := Lib.hid (fun x e => (h4 x e).1)
  have AP : Hid (∀ x, fa = some x → x.block ≠ w1.heap.size) := Lib.hid (fun x e => Nat.ne_of_lt (h4 x e).2)
  have KS := Lib.hid kk.size
  clear h3 h4 kk HC
  go_wp2_with fail
  go_ret
  exact ⟨w1.heap.size, fa, fc, rfl, KS.out, ⟨N1.out, I1.out, AP.out, hl, h1, h2⟩, H4.out, B1.out⟩
end Go.Proofs.YtjkhokholcchfaaDoor
