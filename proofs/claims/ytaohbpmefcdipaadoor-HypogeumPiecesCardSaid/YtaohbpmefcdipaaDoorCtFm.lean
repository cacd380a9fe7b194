/- What was fed, held against the pieces that are told; Feed of three parts. -/
import Derived.Test.YtaohbpmefcdipaaDoorCtFe
namespace Go.Proofs.YtaohbpmefcdipaaDoor.Ct
open Go.RowKit

theorem Rl.fd_split (r : Rl) {D R l P : List UInt8} {O : List (List UInt8)} (h : r.fed [] D = (O, P)) (e : D ++ R = l) : r.fed [] l = (O ++ (r.fed P R).1, (r.fed P R).2) := by
  rw [← e, r.fed_append, h]
theorem Rl.fd_all (r : Rl) {D P : List UInt8} {O : List (List UInt8)} (h : r.fed [] D = (O, P)) : O.flatten ++ P = D := by
  have := r.fed_all [] D
  rw [h] at this
  simpa using this
theorem flat_take (O : List (List UInt8)) (x : Nat) (hx : x < O.length) : O.flatten = (O.take x).flatten ++ (O[x] ++ (O.drop (x + 1)).flatten) := by
  have e : O.flatten = (O.take x ++ O.drop x).flatten := by rw [List.take_append_drop]
  rw [e, List.flatten_append, List.drop_eq_getElem_cons hx, List.flatten_cons]
theorem mid_get (A B C : List UInt8) : ((A ++ (B ++ C)).take (A.length + B.length)).drop A.length = B := by
  rw [← List.append_assoc, show A.length + B.length = (A ++ B).length by simp, List.take_left, List.drop_left]
theorem Rl.fd_at (r : Rl) {D R l P : List UInt8} {O : List (List UInt8)} (h : r.fed [] D = (O, P)) (e : D ++ R = l) (x : Nat) (hx : x < O.length) :
    x < (r.sizes l).length ∧ (r.sizes l).getD x 0 = (O[x]).length ∧ (O.take x).flatten.length + (O[x]).length ≤ l.length ∧ (l.take ((O.take x).flatten.length + (O[x]).length)).drop (O.take x).flatten.length = O[x] := by
  have hs := r.sizes_fed l
  rw [r.fd_split h e] at hs
  have hl : O[x] = O[x] := rfl
  have hf := r.fd_all h
  rw [flat_take O x hx] at hf
  refine ⟨?_, ?_, ?_, ?_⟩
  · rw [hs]; simp; omega
  · rw [hs, List.getD_eq_getElem?_getD, List.getElem?_append_left (by simp only [List.length_map, List.length_append]; omega)]
    simp only [List.getElem?_map, List.getElem?_append_left hx, List.getElem?_eq_getElem hx]
    rfl
  · rw [← e, ← hf]; simp only [List.length_append]; omega
  · rw [← e, ← hf, List.append_assoc, List.append_assoc, List.append_assoc]
    exact mid_get _ _ _
theorem Rl.fd_next (r : Rl) {D R l P : List UInt8} {O : List (List UInt8)} (h : r.fed [] D = (O, P)) (e : D ++ R = l) (hx : O.length + 1 < (r.sizes l).length) : D.length < O.flatten.length + (r.sizes l).getD O.length 0 := by
  have hs := r.sizes_fed l
  rw [r.fd_split h e] at hs
  have hf := congrArg List.length (r.fd_all h)
  rw [List.length_append] at hf
  have hn : 0 < (r.fed P R).1.length := by
    rw [hs] at hx
    simp only [List.length_append, List.length_map] at hx
    split at hx <;> simp at hx <;> omega
  obtain ⟨s, t, hst⟩ := List.exists_cons_of_length_pos hn
  have := r.fed_longer P R s t hst
  have e2 : (r.sizes l).getD O.length 0 = s.length := by
    rw [hs, hst]
    simp
  rw [e2]
  omega
theorem Rl.fd_end (r : Rl) {l P : List UInt8} {O : List (List UInt8)} (h : r.fed [] l = (O, P)) : (P = [] ∧ O.length = (r.sizes l).length) ∨ (P ≠ [] ∧ O.length + 1 = (r.sizes l).length ∧ O.flatten.length ≤ l.length ∧ l.drop O.flatten.length = P) := by
  have hs := r.sizes_fed l
  rw [h] at hs
  by_cases hp : P = []
  · exact Or.inl ⟨hp, by rw [hs]; simp [hp]⟩
  · refine Or.inr ⟨hp, by rw [hs]; simp [hp], ?_, ?_⟩
    · rw [← r.fd_all h]; simp
    · rw [← r.fd_all h]; simp
theorem run_mid (a : Option Addr) (n c i k : Nat) (hik : i ≤ k) (hk : k ≤ n) (hc : n ≤ c) : ∃ A, A = (if c = i then a else a.map (fun x => x.add i)) ∧ ∀ w, (Instr.slice 22 (.slice a n c) (some (.int .i64 (i : Int))) (some (.int .i64 (k : Int))) none).run Tryd.prog w = .ok (.slice A (k - i) (c - i)) w := by
  refine ⟨_, rfl, fun w => ?_⟩
  rw [run_slice_lh w 22 a n c slice_bs .i64 .i64 (i : Int) (k : Int) (by omega) (by omega) (by omega), sz_bs]
  show Result.ok (sliced a (i : Int).toNat (k : Int).toNat c 1) w = _
  rw [Int.toNat_natCast, Int.toNat_natCast]
  unfold sliced
  rw [Nat.mul_one]
theorem bytesIn.mid {w : World} {a : Option Addr} {l : List UInt8} (h : bytesIn w a l) (c i k : Nat) (hik : i ≤ k) (hk : k ≤ l.length) (hc : l.length ≤ c) : bytesIn w (if c = i then a else a.map (fun x => x.add i)) ((l.take k).drop i) := by
  by_cases hci : c = i
  · exact Or.inl (List.drop_of_length_le (by rw [List.length_take]; omega))
  · rw [if_neg hci]
    exact (h.take k).drop i
theorem bytesFar.take {w : World} {k g b B : Nat} {a : Option Addr} {l : List UInt8} (h : bytesFar w k g b B a l) (n : Nat) : bytesFar w k g b B a (l.take n) := by
  rcases h with h | ⟨bb, bo, h1, h2, h3, h4, h5, h6⟩
  · exact Or.inl (by rw [h]; simp)
  · refine Or.inr ⟨bb, bo, h1, h2, h3, h4, h5, fun j hj => ?_⟩
    rw [List.length_take] at hj
    rw [h6 j (by omega)]
    simp [List.getD_eq_getElem?_getD, List.getElem?_take, show j < n by omega]
theorem bytesFar.alloc {w : World} {k g b B : Nat} {a : Option Addr} {l : List UInt8} (h : bytesFar w k g b B a l) (o : Obj) : bytesFar (w.alloc o) k g b B a l := h.kept ((ButF.refl k g b B w).alloc o)
theorem rowIs.far {w : World} {k g b base : Nat} {v : Value} {l : List UInt8} (h : rowIs w base v l) (hk : k < base) (hg : g < base) (hb : b < base) : ∃ a c, v = .slice a l.length c ∧ l.length ≤ c ∧ c ≤ 9223372036854775807 ∧ (a = none → c = 0) ∧ bytesFar w k g b w.heap.size a l := by
  rcases h.2 with ⟨rfl, h0⟩ | ⟨q, cap, cur, rfl, hba, hh, hn, hc, hs, ht⟩
  · have : l = [] := List.eq_nil_of_length_eq_zero h0
    subst this
    exact ⟨none, 0, rfl, Nat.le_refl _, by decide, fun _ => rfl, Or.inl rfl⟩
  · refine ⟨some ⟨q, 0, none⟩, cap, rfl, hn, by unfold maxLen at hc; exact hc, (fun h => by cases h), ?_⟩
    have hq : q < w.heap.size := (Array.getElem?_eq_some_iff.1 hh).1
    refine Or.inr ⟨q, 0, rfl, by omega, by omega, by omega, hq, fun j hj => ?_⟩
    rw [Nat.zero_add, World.ownsRow.cellAt h j (by omega)]
    simp [bvals, hj]
/-- A row of another type is kept. -/
theorem rowV.butF {w w' : World} {k g b B base : Nat} {r : Rl} {pv : Value} {L : List UInt8} {e : TypeId} {v : Value} {xs : List Value} (h : rowV w base e v xs) (kn : KnifeAt w k g b r pv L) (hb : ButF k g b B w w') (h1 : e ≠ 84) (h2 : e ≠ 111) (h3 : e ≠ 5) : rowV w' base e v xs := by
  rcases h.2 with ⟨rfl, h0⟩ | ⟨q, cap, cur, rfl, hba, hh, hn, hc, hs, ht⟩
  · exact ⟨h.1, Or.inl ⟨rfl, h0⟩⟩
  · refine ⟨h.1, Or.inr ⟨q, cap, cur, rfl, hba, ?_, hn, hc, hs, ht⟩⟩
    have hq : blockIs w q cur.toList e := by unfold blockIs; simpa using hh
    obtain ⟨n1, n2, n3⟩ := kn.apart hq h1 h2 h3
    have := hb.is hq n1 n2 n3 (Or.inr h3)
    unfold blockIs at this
    simpa using this
set_option maxRecDepth 100000 in
theorem feed3 (k g b : Nat) (r : Rl) (B Bp : Nat) (pv : Value) (L P : List UInt8) (a : Option Addr) (l : List UInt8) (c : Nat) (A2 : Option Addr) (H C : Nat) (w : World) (h : KnifeAt w k g b r pv L) (hf : fitW L P) (hr : rowIs w Bp pv P) (hB : B ≤ Bp) (hBp : Bp ≤ w.heap.size) (hk : k < B) (hg : g < B) (hb : b < B)
    (hHC : H ≤ C) (hC : C ≤ l.length) (hlc : l.length ≤ c) (hcm : c ≤ 9223372036854775807) (hz : a = none → c = 0) (hfar : bytesFar w k g b B a l) (hA2 : A2 = if c = H then a else a.map (fun x => x.add H)) (hlen : P.length + C ≤ 100000) :
    Calls Tryd.prog 18 #[.pointer (some ⟨k, 0, none⟩), .slice (some ⟨w.heap.size, 0, none⟩) 3 3] (w.alloc (.cells #[.slice a H c, .slice none 0 0, .slice A2 (C - H) (c - H)] 22 (0, 0))) fun e w' => ∃ ov pv' B' vs L', e = .returned ov ∧ FedAt (w.alloc (.cells #[.slice a H c, .slice none 0 0, .slice A2 (C - H) (c - H)] 22 (0, 0))) w' k g b r B B' pv' ov (r.fed P (l.take C)).2 vs (r.fed P (l.take C)).1 L' := by
  have e1 : (l.take H).length = H := by rw [List.length_take]; omega
  have e2 : ((l.take C).drop H).length = C - H := by rw [List.length_drop, List.length_take]; omega
  have hw := (Below.refl w.heap.size w).alloc (Nat.le_refl _) (.cells #[.slice a H c, .slice none 0 0, .slice A2 (C - H) (c - H)] 22 (0, 0))
  have hpt : ([⟨a, c, l.take H⟩, ⟨none, 0, []⟩, ⟨A2, c - H, (l.take C).drop H⟩] : List Pc).map Pc.val = [.slice a H c, .slice none 0 0, .slice A2 (C - H) (c - H)] := by
    simp only [List.map_cons, List.map_nil, Pc.val, e1, e2, List.length_nil]
  have hfl : (([⟨a, c, l.take H⟩, ⟨none, 0, []⟩, ⟨A2, c - H, (l.take C).drop H⟩] : List Pc).map Pc.l).flatten = l.take C := by
    simp only [List.map_cons, List.map_nil, List.flatten_cons, List.flatten_nil, List.nil_append, List.append_nil]
    have : l.take H = (l.take C).take H := by rw [List.take_take, Nat.min_eq_left hHC]
    rw [this, List.take_append_drop]
  have := feed_any k g b r B Bp pv L P [⟨a, c, l.take H⟩, ⟨none, 0, []⟩, ⟨A2, c - H, (l.take C).drop H⟩] w.heap.size (w.alloc (.cells #[.slice a H c, .slice none 0 0, .slice A2 (C - H) (c - H)] 22 (0, 0))) (h.below hw) hf (rowV.is (hr.v.below hw (Nat.le_refl _))) hB (Nat.le_trans hBp (by simp)) hk hg hb (by rw [hpt]; exact blockIs.new w _ _) ?_ (by rw [hfl, List.length_take]; omega) (by simp)
  · rw [hfl] at this
    exact this
  · intro p hp
    have hfar2 := hfar.alloc (.cells #[.slice a H c, .slice none 0 0, .slice A2 (C - H) (c - H)] 22 (0, 0))
    simp only [List.mem_cons, List.not_mem_nil, or_false] at hp
    rcases hp with rfl | rfl | rfl
    · exact ⟨by show (l.take H).length ≤ c; omega, hcm, hz, hfar2.take H⟩
    · exact ⟨Nat.le_refl _, by decide, fun _ => rfl, Or.inl rfl⟩
    · refine ⟨by show ((l.take C).drop H).length ≤ c - H; omega, by show c - H ≤ _; omega, ?_, ?_⟩
      · intro hn
        show c - H = 0
        have hn : A2 = none := hn
        rw [hA2] at hn
        by_cases hch : c = H
        · omega
        · rw [if_neg hch] at hn
          cases a with
          | none => rw [hz rfl]; omega
          | some _ => cases hn
      · show bytesFar _ k g b B A2 ((l.take C).drop H)
        have := (hfar2.take C).drop c H (by rw [List.length_take]; omega)
        rw [← hA2] at this
        exact this
end Go.Proofs.YtaohbpmefcdipaaDoor.Ct
