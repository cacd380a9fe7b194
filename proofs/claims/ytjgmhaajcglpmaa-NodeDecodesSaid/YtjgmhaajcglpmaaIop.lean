/- Open of a right thing; take; a reader's Num. -/
import Derived.Test.YtjgmhaajcglpmaaIrd
namespace Go.Proofs.Ytjgmhaajcglpmaa
open Go.RowKit

theorem InAt.below {w w' : World} {k : Nat} {p : Pt} {e : Int} (h : InAt w k p e) (b : Below w.heap.size w w') : InAt w' k p e := ⟨h.1.below b h.1.lt, h.2.below b⟩
theorem bytesIn.past {w w' : World} {a : Option Addr} {l : List UInt8} {k : Nat} (h : bytesIn w a l) (hb : But k w w') (hn : ∀ x, a = some x → x.block ≠ k) : bytesIn w' a l := by
  rcases h with h | ⟨b, o, he, h⟩
  · exact Or.inl h
  · exact Or.inr ⟨b, o, he, fun j hj => hb.cell (h j hj) (show b ≠ k from hn ⟨b, o, none⟩ he)⟩
/-- The bytes of a part lie apart from block k. -/
def Pt.far (p : Pt) (k : Nat) : Prop := ∀ x, p.a = some x → x.block ≠ k
theorem Pt.far_sub {p : Pt} {k : Nat} (h : p.far k) (i j : Nat) : (p.sub i j).far k := fun x hx => by
  have hx : (if p.c = i then p.a else p.a.map (fun x => x.add i)) = some x := hx
  split at hx
  · exact h x hx
  · obtain ⟨y, hy, rfl⟩ := Option.map_eq_some_iff.1 hx
    have e : (y.add i).block = y.block := by
      obtain ⟨yb, yo, ys⟩ := y
      unfold Addr.add
      cases ys <;> simp <;> split <;> rfl
    rw [e]
    exact h y hy
theorem Pt.ok.past {w w' : World} {p : Pt} {k : Nat} (h : p.ok w) (hb : But k w w') (hf : p.far k) : p.ok w' := ⟨h.1, h.2.1, h.2.2.past hb hf⟩

set_option maxRecDepth 100000 in
set_option maxHeartbeats 1000000 in
theorem take_ok (k : Nat) (p : Pt) (n : Nat) (w : World) (h : InAt w k p 0) (hf : p.far k) (hn : n ≤ p.l.length) :
    Calls Try.prog 60 #[.pointer (some ⟨k, 0, none⟩), .int .i64 n] w fun r w' => r = .returned (p.sub 0 n).val ∧ InAt w' k (p.sub n p.l.length) 0 ∧ But k w w' := by
  have r1 := p.run_h n hn h.2.1
  have r2 := p.run_l n hn h.2.1
  have PG := Lib.hid (gives_any k p 0 w h)
  have c0 : w.cell? ⟨k, 0, none⟩ = some (.slice p.a p.l.length p.c) := by rw [h.1.cell]; rfl
  have f0 := h.1.free 0
  have q0 : ¬ (p.l.length : Int) < (n : Int) := by omega
  have HS : Hid (blockIs w k [p.val, .int .i64 0] 91) := Lib.hid h.1
  have HO := Lib.hid (Pt.sub_ok h.2 n p.l.length hn (Nat.le_refl _))
  have HF := Lib.hid (Pt.far_sub hf n p.l.length)
  clear h hf hn
  have HV : Hid (p.val = .slice p.a p.l.length p.c) := Lib.hid rfl
  unfold Pt.val at r1 r2 ⊢
  generalize p.sub 0 n = z1 at *
  generalize p.sub n p.l.length = z2 at *
  generalize p.l.length = pn at *
  go_enter Try.func60, Try.ntmps60
  go_wp2_with fail
  with_reducible refine PG.out.mono ?_
  rintro e w' ⟨rfl, rfl⟩
  go_wp2_with fail
  go_ret
  have hb : But k w (w.setCell ⟨k, 0, none⟩ (.slice z2.a z2.l.length z2.c)) := (But.refl k w).setCell _ _ (Or.inl rfl)
  exact ⟨rfl, ⟨HS.out.set 0 _, HO.out.past hb HF.out⟩, hb⟩

set_option maxRecDepth 100000 in
set_option maxHeartbeats 2000000 in
theorem inNum_any (k : Nat) (p : Pt) (w : World) (h : InAt w k p 0) (hf : p.far k) :
    Calls Try.prog 43 #[.pointer (some ⟨k, 0, none⟩), .int .i64 4611686018427387904] w fun r w' => But k w w' ∧ ((∃ er : Int, er ≠ 0 ∧ r = .returned (.int .i64 0) ∧ InAt w' k p er) ∨ ∃ N : Nat, N < 4611686018427387904 ∧ ∃ s : Nat, s ≤ p.l.length ∧ numBytes N = p.l.take s ∧ r = .returned (.int .i64 N) ∧ InAt w' k (p.sub s p.l.length) 0) := by
  have PG := Lib.hid (gives_any k p 0 w h)
  have PR := Lib.hid (numread_any p w h.2)
  have H := Lib.hid h
  have HF := Lib.hid hf
  have c0 : w.cell? ⟨k, 0, none⟩ = some (.slice p.a p.l.length p.c) := by rw [h.1.cell]; rfl
  have c1 : w.cell? ⟨k, 1, none⟩ = some (.int .i64 0) := by rw [h.1.cell]; rfl
  have f1 := h.1.free 1
  clear h hf
  go_enter Try.func43, Try.ntmps43
  go_wp2_with fail
  with_reducible refine PG.out.mono ?_
  rintro e w' ⟨rfl, rfl⟩
  go_wp2_with fail
  with_reducible refine PR.out.mono ?_
  rintro e w' ⟨rfl, ⟨er, her, rfl⟩ | ⟨N, hN, s, hs, hb, rfl⟩⟩
  · have b0 : (er == 0) = false := by simpa using her
    have HE := Lib.hid her
    clear her
    go_wp2_with fail
    go_ret
    have hb : But k w (w.setCell ⟨k, 1, none⟩ (.int .i64 er)) := (But.refl k w).setCell _ _ (Or.inl rfl)
    exact ⟨hb, Or.inl ⟨er, HE.out, rfl, H.out.1.set 1 _, H.out.2.past hb HF.out⟩⟩
  · have b1 : decide ((4611686018427387904 : Int) < (N : Int)) = false := by simp; omega
    have HN := Lib.hid hN
    have HS := Lib.hid hs
    have HB := Lib.hid hb
    have PT := Lib.hid (take_ok k p s w H.out HF.out hs)
    clear hN hs hb
    go_wp2_with fail
    with_reducible refine PT.out.mono ?_
    rintro e w' ⟨rfl, hin, hbut⟩
    have I1 := Lib.hid hin
    have B1 := Lib.hid hbut
    clear hin hbut
    go_wp2_with fail
    go_ret
    exact ⟨B1.out, Or.inr ⟨N, HN.out, s, HS.out, HB.out, rfl, I1.out⟩⟩

theorem rowIs.form2 {w : World} {base : Nat} {v : Value} {l : List UInt8} (h : rowIs w base v l) : ∃ a c, v = .slice a l.length c ∧ l.length ≤ c ∧ c ≤ 9223372036854775807 ∧ bytesIn w a l ∧ (a = none → c = 0) ∧ ∀ x, a = some x → x.block < w.heap.size := by
  obtain ⟨a, c, hv, h1, h2, h3⟩ := rowIs.bytes h
  refine ⟨a, c, hv, h1, ?_, h2, h3, ?_⟩
  · rcases h.2 with ⟨hn, _⟩ | ⟨g, cap, cur, hg, _, _, _, hcm, _, _⟩
    · rw [hv] at hn
      injection hn with e1 e2 e3
      omega
    · rw [hv] at hg
      injection hg with e1 e2 e3
      unfold maxLen at hcm
      omega
  · intro x hx
    rcases h.2 with ⟨hn, _⟩ | ⟨g, cap, cur, hg, _, hh, _, _, _, _⟩
    · rw [hv] at hn
      injection hn with e1 e2 e3
      rw [e1] at hx
      cases hx
    · rw [hv] at hg
      injection hg with e1 e2 e3
      rw [e1] at hx
      cases hx
      exact (Array.getElem?_eq_some_iff.1 hh).1
theorem inZero (w : World) : (zeroValue 91).run Try.prog w = .ok (.agg #[.slice none 0 0, .int .i64 0]) w := by kernel_rfl
set_option maxRecDepth 100000 in
set_option maxHeartbeats 1000000 in
theorem open_yes2 (x : UInt8) (p : Pt) (F : List UInt8) (w : World) (hp : p.ok w) (hz : p.a = none → p.c = 0) (he : p.l = [72, 89, x] ++ F) (hl : F.length ≤ 100000000) :
    Calls Try.prog 42 #[.int .u8 (V x), .slice p.a p.l.length p.c] w fun r w' => ∃ k q, r = .returned (.pointer (some ⟨k, 0, none⟩)) ∧ w.heap.size ≤ k ∧ InAt w' k q 0 ∧ q.far k ∧ q.l = F ∧ Below w.heap.size w w' ∧ (q.a = none → q.c = 0) ∧ (∀ j, w'.heap.size ≤ j → q.far j) := by
  have hlen : p.l.length = 3 + F.length := by rw [he]; simp; omega
  have B0 := Lib.hid ((Below.refl w.heap.size w).alloc (Nat.le_refl _) (.cells #[.int .u8 72, .int .u8 89, .int .u8 (V x)] 5 (0, 0)))
  have HQ : Hid (bytesIn (w.alloc (.cells #[.int .u8 72, .int .u8 89, .int .u8 (V x)] 5 (0, 0))) (some ⟨w.heap.size, 0, none⟩) [72, 89, x]) := Lib.hid (by
    obtain ⟨a, c, hv, _, h2, _⟩ := rowIs.bytes (rowIs.lit w w.heap.size [72, 89, x] #[.int .u8 72, .int .u8 89, .int .u8 (V x)] rfl 3 rfl (Nat.le_refl _) (by simp))
    cases hv
    exact h2)
  have PC := Lib.hid (cutPrefix_yes p ⟨some ⟨w.heap.size, 0, none⟩, 3, [72, 89, x]⟩ (w.alloc (.cells #[.int .u8 72, .int .u8 89, .int .u8 (V x)] 5 (0, 0))) (hp.below B0.out) HQ.out (by show 3 ≤ _; omega) (by rw [he]; rfl))
  have HZ2 : Hid ((p.sub 3 p.l.length).l = F) := Lib.hid (by
    show (p.l.take p.l.length).drop 3 = F
    rw [List.take_length, he]; rfl)
  have HOK := Lib.hid (Pt.sub_ok (hp.below B0.out) 3 p.l.length (by omega) (Nat.le_refl _))
  have HNZ : Hid ((p.sub 3 p.l.length).a = none → (p.sub 3 p.l.length).c = 0) := Lib.hid (fun h => by
    have h : (if p.c = 3 then p.a else p.a.map (fun x => x.add 3)) = none := h
    show p.c - 3 = 0
    split at h
    · omega
    · have := hz (by simpa using h); omega)
  have h1 := hp.1
  clear hp hz
  rw [show ([72, 89, x] : List UInt8).length = 3 from rfl] at PC
  unfold Pt.val at PC
  have PC2 := PC.out
  simp only [] at PC2
  clear PC
  have PC3 := Lib.hid PC2
  clear PC2 hlen he
  generalize p.sub 3 p.l.length = z at *
  generalize p.l.length = pn at *
  go_enter Try.func42, Try.ntmps42
  go_wp2_with fail
  with_reducible refine PC3.out.mono ?_
  rintro e w1 ⟨rfl, rfl⟩
  go_wp2_with fail
  have PK := clone_any z.a z.l z.c _ HOK.out.1 HOK.out.2.2 HNZ.out (by rw [HZ2.out]; omega)
  with_reducible refine PK.mono ?_
  clear PK
  rintro e w2 ⟨v, rfl, hr, hb⟩
  obtain ⟨va, vc, rfl, v1, v2, v3, v4, v5⟩ := rowIs.form2 hr
  rw [HZ2.out] at v1 v3 ⊢
  have V1 := Lib.hid v1
  have V2 := Lib.hid v2
  have V3 := Lib.hid v3
  have V4 := Lib.hid v4
  have V5 := Lib.hid v5
  have K2 := Lib.hid (B0.out.trans (hb.mono B0.out.size))
  clear hr hb v1 v2 v3 v4 v5
  generalize hFn : F.length = fn at *
  have HFN := Lib.hid hFn
  clear hFn
  have hz := inZero
  go_wp2_with fail
  go_ret
  refine ⟨w2.heap.size, ⟨va, vc, F⟩, rfl, K2.out.size, ⟨?_, ?_, V2.out, ?_⟩, ?_, rfl, K2.out.alloc K2.out.size _, V4.out, fun j hj y hy => ?_⟩
  · show blockIs _ _ [.slice va F.length vc, .int .i64 0] _
    rw [HFN.out]
    exact blockIs.new w2 _ _
  · show F.length ≤ vc
    rw [HFN.out]; exact V1.out
  · exact V3.out.below ((Below.refl w2.heap.size w2).alloc (Nat.le_refl _) _) (Nat.le_refl _)
  · intro y hy
    exact Nat.ne_of_lt (V5.out y hy)
  · have h1 := V5.out y hy
    rw [World.size_alloc] at hj
    exact Nat.ne_of_lt (by omega)
theorem open_yes (x : UInt8) (p : Pt) (F : List UInt8) (w : World) (hp : p.ok w) (hz : p.a = none → p.c = 0) (he : p.l = [72, 89, x] ++ F) (hl : F.length ≤ 100000000) :
    Calls Try.prog 42 #[.int .u8 (V x), .slice p.a p.l.length p.c] w fun r w' => ∃ k q, r = .returned (.pointer (some ⟨k, 0, none⟩)) ∧ w.heap.size ≤ k ∧ InAt w' k q 0 ∧ q.far k ∧ q.l = F ∧ Below w.heap.size w w' :=
  (open_yes2 x p F w hp hz he hl).mono fun r w' ⟨k, q, h1, h2, h3, h4, h5, h6, _⟩ => ⟨k, q, h1, h2, h3, h4, h5, h6⟩
end Go.Proofs.Ytjgmhaajcglpmaa
