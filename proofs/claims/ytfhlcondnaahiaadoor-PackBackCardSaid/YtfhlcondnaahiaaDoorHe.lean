/- Parts of slices; a reader in memory; bytes.Equal, HasPrefix, CutPrefix; Open of a right thing; gives, Err, take. -/
import Derived.Test.YtfhlcondnaahiaaDoorHd
import Derived.Lib.ConvBytes
import Derived.Laws.BitsAllLaws
import Derived.Deep.DeepCutAuto
section
namespace Go.Proofs.YtfhlcondnaahiaaDoor.Gl
open Go.RowKit

/-- A slice of bytes. -/
structure Pt where
  a : Option Addr
  c : Nat
  l : List UInt8
def Pt.val (p : Pt) : Value := .slice p.a p.l.length p.c
def Pt.ok (w : World) (p : Pt) : Prop := p.l.length ≤ p.c ∧ p.c ≤ 9223372036854775807 ∧ bytesIn w p.a p.l
theorem cut_in {w : World} {a : Option Addr} {l : List UInt8} (h : bytesIn w a l) (c i : Nat) (hc : l.length ≤ c) : bytesIn w (if c = i then a else a.map (fun x => x.add i)) (l.drop i) := by
  by_cases e : c = i
  · left
    rw [List.drop_eq_nil_iff]
    omega
  · rw [if_neg e]
    rcases h with h | ⟨bb, bo, rfl, h2⟩
    · exact Or.inl (by rw [h, List.drop_nil])
    · refine Or.inr ⟨bb, bo + i, by show some (Addr.add _ i) = _; rw [Addr.add_lit], fun j hj => ?_⟩
      rw [List.length_drop] at hj
      rw [show bo + i + j = bo + (i + j) by omega, h2 (i + j) (by omega)]
      simp [List.getD_eq_getElem?_getD, List.getElem?_drop]
theorem drop_take_len (l : List UInt8) (i k : Nat) (hk : k ≤ l.length) : ((l.take k).drop i).length = k - i := by
  rw [List.length_drop, List.length_take]; omega
/-- A part of a slice, from i to k. -/
def Pt.sub (p : Pt) (i k : Nat) : Pt := ⟨if p.c = i then p.a else p.a.map (fun x => x.add i), p.c - i, (p.l.take k).drop i⟩
theorem Pt.sub_ok {w : World} {p : Pt} (h : p.ok w) (i k : Nat) (hik : i ≤ k) (hk : k ≤ p.l.length) : (p.sub i k).ok w := by
  obtain ⟨h1, h2, h3⟩ := h
  refine ⟨?_, ?_, ?_⟩
  · show ((p.l.take k).drop i).length ≤ p.c - i
    rw [drop_take_len _ _ _ hk]; omega
  · show p.c - i ≤ _
    omega
  · exact cut_in (h3.take k) p.c i (by rw [List.length_take]; omega)
theorem slice22 : Tryd.prog.underlying 30 = some (.slice (Tryd.prog.elem 30)) := by kernel_rfl
theorem sz22 (w : World) : (sizeOf (Tryd.prog.elem 30)).run Tryd.prog w = .ok 1 w := by kernel_rfl
/-- What the three forms of a slice's slice answer. -/
theorem Pt.run_lh (p : Pt) (i k : Nat) (hik : i ≤ k) (hk : k ≤ p.l.length) (hc : p.l.length ≤ p.c) (w : World) :
    (Instr.slice 30 (.slice p.a p.l.length p.c) (some (.int .i64 (i : Int))) (some (.int .i64 (k : Int))) none).run Tryd.prog w = .ok (.slice (p.sub i k).a (p.sub i k).l.length (p.sub i k).c) w := by
  rw [run_slice_lh w 30 p.a p.l.length p.c slice22 .i64 .i64 (i : Int) (k : Int) (by omega) (by omega) (by omega), sz22]
  show Result.ok (sliced p.a (i : Int).toNat (k : Int).toNat p.c 1) w = _
  rw [Int.toNat_natCast, Int.toNat_natCast]
  unfold sliced Pt.sub
  rw [drop_take_len _ _ _ hk, Nat.mul_one]
theorem Pt.run_h (p : Pt) (k : Nat) (hk : k ≤ p.l.length) (hc : p.l.length ≤ p.c) (w : World) :
    (Instr.slice 30 (.slice p.a p.l.length p.c) none (some (.int .i64 (k : Int))) none).run Tryd.prog w = .ok (.slice (p.sub 0 k).a (p.sub 0 k).l.length (p.sub 0 k).c) w := by
  rw [run_slice_h w 30 p.a p.l.length p.c slice22 .i64 (k : Int) (by omega) (by omega), sz22]
  show Result.ok (sliced p.a 0 (k : Int).toNat p.c 1) w = _
  rw [Int.toNat_natCast]
  unfold sliced Pt.sub
  rw [drop_take_len _ _ _ hk, Nat.mul_one]
theorem Pt.run_l (p : Pt) (i : Nat) (hi : i ≤ p.l.length) (hc : p.l.length ≤ p.c) (w : World) :
    (Instr.slice 30 (.slice p.a p.l.length p.c) (some (.int .i64 (i : Int))) none none).run Tryd.prog w = .ok (.slice (p.sub i p.l.length).a (p.sub i p.l.length).l.length (p.sub i p.l.length).c) w := by
  rw [run_slice_l w 30 p.a p.l.length p.c slice22 .i64 (i : Int) (by omega) (by omega), sz22]
  show Result.ok (sliced p.a (i : Int).toNat p.l.length p.c 1) w = _
  rw [Int.toNat_natCast]
  unfold sliced Pt.sub
  rw [drop_take_len _ _ _ (Nat.le_refl _), Nat.mul_one]

theorem Pt.ok.below {w w' : World} {p : Pt} (h : p.ok w) (k : Below w.heap.size w w') : p.ok w' := ⟨h.1, h.2.1, h.2.2.below k (Nat.le_refl _)⟩
set_option maxRecDepth 100000 in
theorem equal_yes (p q : Pt) (w : World) (hp : bytesIn w p.a p.l) (hq : bytesIn w q.a q.l) (he : p.l = q.l) :
    Calls Tryd.prog 102 #[.slice p.a p.l.length p.c, .slice q.a q.l.length q.c] w fun e w' => e = .returned (.bool true) ∧ w = w' := by
  have c1 := conv_string w p.a p.l p.c hp
  have c2 := conv_string w q.a q.l q.c hq
  rw [he] at c1 ⊢
  clear hp hq he
  obtain ⟨pa, pc, pl⟩ := p
  obtain ⟨qa, qc, ql⟩ := q
  go_enter Tryd.func102, Tryd.ntmps102
  go_wp2_with fail
  go_ret
  exact ⟨rfl, rfl⟩
set_option maxRecDepth 100000 in
theorem hasPrefix_yes (p q : Pt) (w : World) (hp : p.ok w) (hq : bytesIn w q.a q.l) (hle : q.l.length ≤ p.l.length) (he : p.l.take q.l.length = q.l) :
    Calls Tryd.prog 85 #[.slice p.a p.l.length p.c, .slice q.a q.l.length q.c] w fun e w' => e = .returned (.bool true) ∧ w = w' := by
  have r := p.run_h q.l.length hle hp.1 w
  have PE := Lib.hid (equal_yes (p.sub 0 q.l.length) q w (Pt.sub_ok hp 0 q.l.length (Nat.zero_le _) hle).2.2 hq (by
    have : (p.sub 0 q.l.length).l = (p.l.take q.l.length).drop 0 := rfl
    rw [this, List.drop_zero, he]))
  have q0 : (q.l.length : Int) ≤ (p.l.length : Int) := by omega
  clear hp hq he hle
  generalize p.sub 0 q.l.length = z at *
  generalize p.l.length = pn at *
  generalize q.l.length = qn at *
  go_enter Tryd.func85, Tryd.ntmps85
  go_wp2_with fail
  with_reducible refine PE.out.mono ?_
  rintro e w' ⟨rfl, rfl⟩
  go_wp2_with fail
  go_ret
  exact ⟨rfl, rfl⟩
set_option maxRecDepth 100000 in
theorem cutPrefix_yes (p q : Pt) (w : World) (hp : p.ok w) (hq : bytesIn w q.a q.l) (hle : q.l.length ≤ p.l.length) (he : p.l.take q.l.length = q.l) :
    Calls Tryd.prog 84 #[.slice p.a p.l.length p.c, .slice q.a q.l.length q.c] w fun e w' => e = .returned (.tuple #[(p.sub q.l.length p.l.length).val, .bool true]) ∧ w = w' := by
  have r := p.run_l q.l.length hle hp.1 w
  have PE := Lib.hid (hasPrefix_yes p q w hp hq hle he)
  unfold Pt.val
  clear hp hq he hle
  generalize p.sub q.l.length p.l.length = z at *
  generalize p.l.length = pn at *
  generalize q.l.length = qn at *
  go_enter Tryd.func84, Tryd.ntmps84
  go_wp2_with fail
  with_reducible refine PE.out.mono ?_
  rintro e w' ⟨rfl, rfl⟩
  go_wp2_with fail
  go_ret2
  exact ⟨rfl, rfl⟩
/-- A reader: what is left, the first fault. -/
def InAt (w : World) (k : Nat) (p : Pt) (e : Int) : Prop := blockIs w k [p.val, .int .i64 e] 162 ∧ p.ok w
set_option maxRecDepth 100000 in
theorem gives_any (k : Nat) (p : Pt) (e : Int) (w : World) (h : InAt w k p e) :
    Calls Tryd.prog 86 #[.pointer (some ⟨k, 0, none⟩)] w fun r w' => r = .returned (.bool (e == 0)) ∧ w = w' := by
  have c1 : w.cell? ⟨k, 1, none⟩ = some (.int .i64 e) := by rw [h.1.cell]; rfl
  clear h
  go_enter Tryd.func86, Tryd.ntmps86
  go_wp2_with fail
  go_ret
  exact ⟨rfl, rfl⟩
set_option maxRecDepth 100000 in
theorem err_any (k : Nat) (p : Pt) (e : Int) (w : World) (h : InAt w k p e) :
    Calls Tryd.prog 66 #[.pointer (some ⟨k, 0, none⟩)] w fun r w' => r = .returned (.int .i64 e) ∧ w = w' := by
  have c1 : w.cell? ⟨k, 1, none⟩ = some (.int .i64 e) := by rw [h.1.cell]; rfl
  clear h
  go_enter Tryd.func66, Tryd.ntmps66
  go_wp2_with fail
  go_ret
  exact ⟨rfl, rfl⟩
end Go.Proofs.YtfhlcondnaahiaaDoor.Gl
end
section
/- glyph's number: what is read is a number's own bytes. -/
namespace Go.Proofs.YtfhlcondnaahiaaDoor.Gl
open Go.RowKit

theorem i64_or_nat (a b : Nat) (ha : a < 9223372036854775808) (hb : b < 9223372036854775808) : bits .or .i64 (a : Int) (b : Int) = ((a ||| b : Nat) : Int) := by
  have hx : a ||| b < 2 ^ 63 := Nat.or_lt_two_pow (by omega) (by omega)
  show IntKind.i64.wrap ((BitVec.ofInt 64 (a : Int) ||| BitVec.ofInt 64 (b : Int)).toNat : Int) = _
  rw [BitVec.toNat_or, ofInt_u64 a (by omega), ofInt_u64 b (by omega), IntWalk.i64_in _ (by omega)]
theorem int_shl (a k : Nat) (h : a * 2 ^ k < 9223372036854775808) : IntKind.i64.wrap ((a : Int) * 2 ^ k) = ((a <<< k : Nat) : Int) := by
  have e : (a : Int) * 2 ^ k = ((a * 2 ^ k : Nat) : Int) := by rw [Int.natCast_mul, Int.natCast_pow]; rfl
  rw [Nat.shiftLeft_eq, e]
  generalize a * 2 ^ k = x at *
  exact IntWalk.i64_in _ (by omega)
theorem join_bits (acc d k : Nat) (hk : k < 9) (ha : acc < 128 ^ k) (hd : d < 128) :
    IntKind.i64.wrap ((d : Int) * 2 ^ (7 * k)) = ((d <<< (7 * k) : Nat) : Int) ∧ bits .or .i64 (acc : Int) ((d <<< (7 * k) : Nat) : Int) = ((acc + 128 ^ k * d : Nat) : Int) ∧ acc + 128 ^ k * d < 128 ^ (k + 1) := by
  have e : 2 ^ (7 * k) = 128 ^ k := by rw [Nat.pow_mul]
  have h9 : 128 ^ k ≤ 128 ^ 8 := Nat.pow_le_pow_right (by decide) (by omega)
  have hm : 128 ^ k * d ≤ 128 ^ k * 127 := Nat.mul_le_mul_left _ (by omega)
  have hs : d <<< (7 * k) = 128 ^ k * d := by rw [Nat.shiftLeft_eq, e, Nat.mul_comm]
  refine ⟨int_shl d (7 * k) (by rw [e, Nat.mul_comm]; omega), ?_, by rw [Nat.pow_succ]; omega⟩
  rw [i64_or_nat _ _ (by omega) (by rw [hs]; omega), Nat.or_comm, nat_join (7 * k) (d <<< (7 * k)) acc (by rw [hs, e, Nat.mul_mod_right]) (by rw [e]; exact ha), hs, Nat.add_comm]
/-- What the first k bytes say, all of which have more behind them. -/
def said (L : List UInt8) (k acc : Nat) : Prop := acc < 128 ^ k ∧ (k = 0 → acc = 0) ∧ ∀ m, 0 < m → numBytes (acc + 128 ^ k * m) = L.take k ++ numBytes m
theorem said_zero (L : List UInt8) : said L 0 0 := ⟨by decide, fun _ => rfl, fun m _ => by simp⟩
theorem take_next (L : List UInt8) (k : Nat) (h : k < L.length) : L.take (k + 1) = L.take k ++ [L.getD k 0] := by
  rw [List.take_add_one, List.getElem?_eq_getElem h]
  simp [h]
theorem said_next (L : List UInt8) (k acc : Nat) (h : said L k acc) (hk : k < L.length) (hk9 : k < 9) (hx : 128 ≤ (L.getD k 0).toNat) : said L (k + 1) (acc + 128 ^ k * ((L.getD k 0).toNat % 128)) := by
  obtain ⟨h1, h2, h3⟩ := h
  have hb := (L.getD k 0).toNat_lt
  refine ⟨(join_bits acc ((L.getD k 0).toNat % 128) k hk9 h1 (Nat.mod_lt _ (by decide))).2.2, fun h => by omega, fun m hm => ?_⟩
  have hd : (L.getD k 0).toNat % 128 < 128 := Nat.mod_lt _ (by decide)
  have e : acc + 128 ^ k * ((L.getD k 0).toNat % 128) + 128 ^ (k + 1) * m = acc + 128 ^ k * ((L.getD k 0).toNat % 128 + 128 * m) := by
    rw [Nat.pow_succ, Nat.mul_add, Nat.mul_assoc, Nat.add_assoc]
  rw [e, h3 _ (by omega), take_next L k hk, List.append_assoc, numBytes_big (by omega)]
  congr 1
  rw [show ((L.getD k 0).toNat % 128 + 128 * m) % 128 + 128 = (L.getD k 0).toNat by omega, show ((L.getD k 0).toNat % 128 + 128 * m) / 128 = m by omega, UInt8.ofNat_toNat]
  rfl
theorem said_last (L : List UInt8) (k acc : Nat) (h : said L k acc) (hk : k < L.length) (hx : (L.getD k 0).toNat < 128) (h0 : k = 0 ∨ (L.getD k 0).toNat ≠ 0) : numBytes (acc + 128 ^ k * (L.getD k 0).toNat) = L.take (k + 1) := by
  obtain ⟨h1, h2, h3⟩ := h
  rw [take_next L k hk]
  by_cases hk0 : k = 0
  · rw [h2 hk0, hk0, Nat.pow_zero, Nat.one_mul, Nat.zero_add, numBytes_small (by rw [← hk0]; exact hx), UInt8.ofNat_toNat]
    rfl
  · rw [h3 _ (by omega), numBytes_small hx, UInt8.ofNat_toNat]

end Go.Proofs.YtfhlcondnaahiaaDoor.Gl
end
section
/- Open of a right thing; take; a reader's Num. -/
namespace Go.Proofs.YtfhlcondnaahiaaDoor.Gl
open Go.RowKit

theorem InAt.below {w w' : World} {k : Nat} {p : Pt} {e : Int} (h : InAt w k p e) (b : Below w.heap.size w w') : InAt w' k p e := ⟨h.1.below b h.1.lt, h.2.below b⟩
theorem bytesIn.past {w w' : World} {a : Option Addr} {l : List UInt8} {k : Nat} (h : bytesIn w a l) (hb : But k w w') (hn : ∀ x, a = some x → x.block ≠ k) : bytesIn w' a l := by
  rcases h with h | ⟨b, o, he, h⟩
  · exact Or.inl h
  · exact Or.inr ⟨b, o, he, fun j hj => hb.cell (h j hj) (show b ≠ k from hn ⟨b, o, none⟩ he)⟩
/-- The bytes of a part lie apart from block k. -/
def Pt.far (p : Pt) (k : Nat) : Prop := ∀ x, p.a = some x → x.block ≠ k
theorem Pt.far_sub {p : Pt} {k : Nat} (h : p.far k) (i j : Nat) : (p.sub i j).far k := fun x hx => by
  have hx : (if p.c = i then p.a else p.a.map (fun x => x.add i)) = some x := hx
  split at hx
  · exact h x hx
  · obtain ⟨y, hy, rfl⟩ := Option.map_eq_some_iff.1 hx
    have e : (y.add i).block = y.block := by
      obtain ⟨yb, yo, ys⟩ := y
      unfold Addr.add
      cases ys <;> simp <;> split <;> rfl
    rw [e]
    exact h y hy
theorem Pt.ok.past {w w' : World} {p : Pt} {k : Nat} (h : p.ok w) (hb : But k w w') (hf : p.far k) : p.ok w' := ⟨h.1, h.2.1, h.2.2.past hb hf⟩

set_option maxRecDepth 100000 in
set_option maxHeartbeats 1000000 in
theorem take_ok (k : Nat) (p : Pt) (n : Nat) (w : World) (h : InAt w k p 0) (hf : p.far k) (hn : n ≤ p.l.length) :
    Calls Tryd.prog 88 #[.pointer (some ⟨k, 0, none⟩), .int .i64 n] w fun r w' => r = .returned (p.sub 0 n).val ∧ InAt w' k (p.sub n p.l.length) 0 ∧ But k w w' := by
  have r1 := p.run_h n hn h.2.1
  have r2 := p.run_l n hn h.2.1
  have PG := Lib.hid (gives_any k p 0 w h)
  have c0 : w.cell? ⟨k, 0, none⟩ = some (.slice p.a p.l.length p.c) := by rw [h.1.cell]; rfl
  have f0 := h.1.free 0
  have q0 : ¬ (p.l.length : Int) < (n : Int) := by omega
  have HS : Hid (blockIs w k [p.val, .int .i64 0] 162) := Lib.hid h.1
  have HO := Lib.hid (Pt.sub_ok h.2 n p.l.length hn (Nat.le_refl _))
  have HF := Lib.hid (Pt.far_sub hf n p.l.length)
  clear h hf hn
  have HV : Hid (p.val = .slice p.a p.l.length p.c) := Lib.hid rfl
  unfold Pt.val at r1 r2 ⊢
  generalize p.sub 0 n = z1 at *
  generalize p.sub n p.l.length = z2 at *
  generalize p.l.length = pn at *
  go_enter Tryd.func88, Tryd.ntmps88
  go_wp2_with fail
  with_reducible refine PG.out.mono ?_
  rintro e w' ⟨rfl, rfl⟩
  go_wp2_with fail
  go_ret
  have hb : But k w (w.setCell ⟨k, 0, none⟩ (.slice z2.a z2.l.length z2.c)) := (But.refl k w).setCell _ _ (Or.inl rfl)
  exact ⟨rfl, ⟨HS.out.set 0 _, HO.out.past hb HF.out⟩, hb⟩

theorem rowIs.form2 {w : World} {base : Nat} {v : Value} {l : List UInt8} (h : rowIs w base v l) : ∃ a c, v = .slice a l.length c ∧ l.length ≤ c ∧ c ≤ 9223372036854775807 ∧ bytesIn w a l ∧ (a = none → c = 0) ∧ ∀ x, a = some x → x.block < w.heap.size := by
  obtain ⟨a, c, hv, h1, h2, h3⟩ := rowIs.bytes h
  refine ⟨a, c, hv, h1, ?_, h2, h3, ?_⟩
  · rcases h.2 with ⟨hn, _⟩ | ⟨g, cap, cur, hg, _, _, _, hcm, _, _⟩
    · rw [hv] at hn
      injection hn with e1 e2 e3
      omega
    · rw [hv] at hg
      injection hg with e1 e2 e3
      unfold maxLen at hcm
      omega
  · intro x hx
    rcases h.2 with ⟨hn, _⟩ | ⟨g, cap, cur, hg, _, hh, _, _, _, _⟩
    · rw [hv] at hn
      injection hn with e1 e2 e3
      rw [e1] at hx
      cases hx
    · rw [hv] at hg
      injection hg with e1 e2 e3
      rw [e1] at hx
      cases hx
      exact (Array.getElem?_eq_some_iff.1 hh).1
theorem inZero (w : World) : (zeroValue 162).run Tryd.prog w = .ok (.agg #[.slice none 0 0, .int .i64 0]) w := by kernel_rfl
set_option maxRecDepth 100000 in
set_option maxHeartbeats 1000000 in
theorem open_yes2 (x : UInt8) (p : Pt) (F : List UInt8) (w : World) (hp : p.ok w) (hz : p.a = none → p.c = 0) (he : p.l = [72, 89, x] ++ F) (hl : F.length ≤ 100000000) :
    Calls Tryd.prog 63 #[.int .u8 (V x), .slice p.a p.l.length p.c] w fun r w' => ∃ k q, r = .returned (.pointer (some ⟨k, 0, none⟩)) ∧ w.heap.size ≤ k ∧ InAt w' k q 0 ∧ q.far k ∧ q.l = F ∧ Below w.heap.size w w' ∧ (q.a = none → q.c = 0) ∧ (∀ j, w'.heap.size ≤ j → q.far j) := by
  have hlen : p.l.length = 3 + F.length := by rw [he]; simp; omega
  have B0 := Lib.hid ((Below.refl w.heap.size w).alloc (Nat.le_refl _) (.cells #[.int .u8 72, .int .u8 89, .int .u8 (V x)] 5 (0, 0)))
  have HQ : Hid (bytesIn (w.alloc (.cells #[.int .u8 72, .int .u8 89, .int .u8 (V x)] 5 (0, 0))) (some ⟨w.heap.size, 0, none⟩) [72, 89, x]) := Lib.hid (by
    obtain ⟨a, c, hv, _, h2, _⟩ := rowIs.bytes (rowIs.lit w w.heap.size [72, 89, x] #[.int .u8 72, .int .u8 89, .int .u8 (V x)] rfl 3 rfl (Nat.le_refl _) (by simp))
    cases hv
    exact h2)
  have PC := Lib.hid (cutPrefix_yes p ⟨some ⟨w.heap.size, 0, none⟩, 3, [72, 89, x]⟩ (w.alloc (.cells #[.int .u8 72, .int .u8 89, .int .u8 (V x)] 5 (0, 0))) (hp.below B0.out) HQ.out (by show 3 ≤ _; omega) (by rw [he]; rfl))
  have HZ2 : Hid ((p.sub 3 p.l.length).l = F) := Lib.hid (by
    show (p.l.take p.l.length).drop 3 = F
    rw [List.take_length, he]; rfl)
  have HOK := Lib.hid (Pt.sub_ok (hp.below B0.out) 3 p.l.length (by omega) (Nat.le_refl _))
  have HNZ : Hid ((p.sub 3 p.l.length).a = none → (p.sub 3 p.l.length).c = 0) := Lib.hid (fun h => by
    have h : (if p.c = 3 then p.a else p.a.map (fun x => x.add 3)) = none := h
    show p.c - 3 = 0
    split at h
    · omega
    · have := hz (by simpa using h); omega)
  have h1 := hp.1
  clear hp hz
  rw [show ([72, 89, x] : List UInt8).length = 3 from rfl] at PC
  unfold Pt.val at PC
  have PC2 := PC.out
  simp only [] at PC2
  clear PC
  have PC3 := Lib.hid PC2
  clear PC2 hlen he
  generalize p.sub 3 p.l.length = z at *
  generalize p.l.length = pn at *
  go_enter Tryd.func63, Tryd.ntmps63
  go_wp2_with fail
  with_reducible refine PC3.out.mono ?_
  rintro e w1 ⟨rfl, rfl⟩
  go_wp2_with fail
  have PK := clone_any z.a z.l z.c _ HOK.out.1 HOK.out.2.2 HNZ.out (by rw [HZ2.out]; omega)
  with_reducible refine PK.mono ?_
  clear PK
  rintro e w2 ⟨v, rfl, hr, hb⟩
  obtain ⟨va, vc, rfl, v1, v2, v3, v4, v5⟩ := rowIs.form2 hr
  rw [HZ2.out] at v1 v3 ⊢
  have V1 := Lib.hid v1
  have V2 := Lib.hid v2
  have V3 := Lib.hid v3
  have V4 := Lib.hid v4
  have V5 := Lib.hid v5
  have K2 := Lib.hid (B0.out.trans (hb.mono B0.out.size))
  clear hr hb v1 v2 v3 v4 v5
  generalize hFn : F.length = fn at *
  have HFN := Lib.hid hFn
  clear hFn
  have hz := inZero
  go_wp2_with fail
  go_ret
  refine ⟨w2.heap.size, ⟨va, vc, F⟩, rfl, K2.out.size, ⟨?_, ?_, V2.out, ?_⟩, ?_, rfl, K2.out.alloc K2.out.size _, V4.out, fun j hj y hy => ?_⟩
  · show blockIs _ _ [.slice va F.length vc, .int .i64 0] _
    rw [HFN.out]
    exact blockIs.new w2 _ _
  · show F.length ≤ vc
    rw [HFN.out]; exact V1.out
  · exact V3.out.below ((Below.refl w2.heap.size w2).alloc (Nat.le_refl _) _) (Nat.le_refl _)
  · intro y hy
    exact Nat.ne_of_lt (V5.out y hy)
  · have h1 := V5.out y hy
    rw [World.size_alloc] at hj
    exact Nat.ne_of_lt (by omega)
end Go.Proofs.YtfhlcondnaahiaaDoor.Gl
end
section
/- glyph's number, told exactly: what is read, and which fault there is. -/
namespace Go.Proofs.YtfhlcondnaahiaaDoor.Gl
open Go.RowKit

/-- The first k bytes have more behind them. -/
def more (L : List UInt8) (k : Nat) : Prop := ∀ j, j < k → 128 ≤ (L.getD j 0).toNat
theorem more_next {L : List UInt8} {k : Nat} (h : more L k) (hx : 128 ≤ (L.getD k 0).toNat) : more L (k + 1) := fun j hj => by
  by_cases e : j = k
  · rw [e]; exact hx
  · exact h j (by omega)
/-- Why no number is read. -/
def bad (L : List UInt8) (er : Int) : Prop :=
  (er = 3 ∧ L.length < 9 ∧ more L L.length) ∨ (er = 2 ∧ 9 ≤ L.length ∧ more L 9) ∨ (er = 2 ∧ ∃ k acc, k < L.length ∧ k < 9 ∧ more L k ∧ (L.getD k 0).toNat < 128 ∧ said L k acc ∧ (((L.getD k 0).toNat = 0 ∧ 0 < k) ∨ 4611686018427387903 < acc + 128 ^ k * (L.getD k 0).toNat))
/-- A number's bytes: all but the last one have more behind them. -/
theorem numBytes_form (n : Nat) : ∃ (D : List UInt8) (z : UInt8), numBytes n = D ++ [z] ∧ (∀ x ∈ D, 128 ≤ x.toNat) ∧ z.toNat < 128 ∧ (D = [] ∨ z.toNat ≠ 0) := by
  induction n using Nat.strongRecOn with
  | _ n ih =>
    by_cases h : n < 128
    · refine ⟨[], UInt8.ofNat n, by rw [numBytes_small h]; rfl, fun x hx => (List.not_mem_nil hx).elim, ?_, Or.inl rfl⟩
      rw [UInt8.toNat_ofNat']; omega
    · obtain ⟨D, z, h1, h2, h3, h4⟩ := ih (n / 128) (by omega)
      refine ⟨UInt8.ofNat (n % 128 + 128) :: D, z, by rw [numBytes_big h, h1]; rfl, ?_, h3, Or.inr ?_⟩
      · intro x hx
        rcases List.mem_cons.1 hx with rfl | hx
        · rw [UInt8.toNat_ofNat']; omega
        · exact h2 x hx
      · rcases h4 with rfl | h4
        · by_cases hs : n / 128 < 128
          · rw [numBytes_small hs] at h1
            have : z = UInt8.ofNat (n / 128) := by simpa using h1.symm
            rw [this, UInt8.toNat_ofNat']; omega
          · rw [numBytes_big hs] at h1
            have hl := congrArg List.length h1
            have hp := numBytes_pos (n / 128 / 128)
            rw [List.length_cons] at hl
            simp at hl
            rw [hl] at hp
            exact absurd hp (by decide)
        · exact h4
/-- Where a number's bytes stand, a number is read. -/
theorem not_bad (n : Nat) (hn : n < 4611686018427387904) (R : List UInt8) (er : Int) : ¬ bad (numBytes n ++ R) er := by
  obtain ⟨D, z, h1, h2, h3, h4⟩ := numBytes_form n
  have h9 := numBytes_nine n hn
  have hDl : D.length ≤ 8 := by rw [h1, List.length_append] at h9; simp at h9; omega
  have hz : (numBytes n ++ R).getD D.length 0 = z := by rw [h1]; simp
  have hD : ∀ j, j < D.length → 128 ≤ ((numBytes n ++ R).getD j 0).toNat := fun j hj => by
    have : (numBytes n ++ R).getD j 0 = D[j] := by rw [h1]; simp [hj, List.getElem?_append_left]
    rw [this]; exact h2 _ (List.getElem_mem hj)
  have hlen : D.length < (numBytes n ++ R).length := by rw [h1]; simp
  rintro (⟨_, hl, hm⟩ | ⟨_, hl, hm⟩ | ⟨_, k, acc, hk, hk9, hm, hx, hs, hc⟩)
  · have := hm D.length hlen; rw [hz] at this; omega
  · have := hm D.length (by omega); rw [hz] at this; omega
  · have hkD : k = D.length := by
      rcases Nat.lt_trichotomy k D.length with h | h | h
      · have := hD k h; omega
      · exact h
      · have := hm D.length h; rw [hz] at this; omega
    have hzk : (numBytes n ++ R).getD k 0 = z := by rw [hkD, hz]
    rw [hzk] at hc
    have h0 : k = 0 ∨ ((numBytes n ++ R).getD k 0).toNat ≠ 0 := by
      rw [hzk]
      rcases h4 with h | h
      · left; rw [hkD, h]; rfl
      · exact Or.inr h
    have hb := said_last _ k acc hs hk hx h0
    rw [hzk] at hb h0
    have ht : (numBytes n ++ R).take (k + 1) = numBytes n := by
      rw [List.take_append_of_le_length (by rw [h1, hkD]; simp), List.take_of_length_le (by rw [h1, hkD]; simp)]
    rw [ht] at hb
    have := numBytes_inj _ _ hb
    rcases hc with ⟨hz0, hk0⟩ | hc
    · rcases h0 with h | h <;> omega
    · omega
set_option maxRecDepth 100000 in
set_option maxHeartbeats 4000000 in
theorem numread_is (p : Pt) (w : World) (hp : p.ok w) :
    Calls Tryd.prog 87 #[.slice p.a p.l.length p.c] w fun r w' => w = w' ∧ ((∃ er : Int, bad p.l er ∧ r = .returned (.tuple #[.int .i64 0, .int .i64 0, .int .i64 er])) ∨ ∃ N : Nat, N < 4611686018427387904 ∧ ∃ s : Nat, s ≤ p.l.length ∧ numBytes N = p.l.take s ∧ r = .returned (.tuple #[.int .i64 N, .int .i64 s, .int .i64 0])) := by
  obtain ⟨a, c, L⟩ := p
  obtain ⟨hlc, hcm, hin⟩ := hp
  have hlc : L.length ≤ c := hlc
  have HIN : Hid (bytesIn w a L) := Lib.hid hin
  clear hin
  show Calls Tryd.prog 87 #[.slice a L.length c] w _
  have HL9 : Hid (min L.length 9 ≤ L.length ∧ min L.length 9 ≤ 9 ∧ (min L.length 9 = L.length ∨ min L.length 9 = 9)) := Lib.hid (by omega)
  obtain ⟨M, hM⟩ : ∃ M, M = min L.length 9 := ⟨_, rfl⟩
  rw [← hM] at HL9
  have HM := Lib.hid hM
  clear hM
  go_enter Tryd.func87, Tryd.ntmps87
  go_upto_region 2 with fail
  go_cut [12, 13, 14] (fun s n i wx => s = .slice a M c ∧ n = .int .i64 M ∧ i = .int .i64 0 ∧ w = wx)
  case first =>
    go_wp2_with fail
    all_goals
      go_meet
      case rel => exact ⟨by congr 1; have := HM.out; omega, by congr 1; have := HM.out; omega, rfl, rfl⟩
  case rest =>
    obtain ⟨rfl, rfl, rfl, rfl⟩ := hcut
    go_wp2_with fail
    go_loopw [14, 5] (fun i v wr => ∃ k acc : Nat, k ≤ M ∧ i = .int .i64 k ∧ v = .int .i64 acc ∧ Hid (said L k acc ∧ more L k) ∧ w = wr) (fun i _ _ => ((M : Int) - intOf i).toNat)
    case atStart => exact ⟨0, 0, by omega, rfl, rfl, Lib.hid ⟨said_zero L, fun j hj => absurd hj (Nat.not_lt_zero j)⟩, rfl⟩
    case round =>
      obtain ⟨k, acc, hk, rfl, rfl, hs2, rfl⟩ := hrel
      have hs := Lib.hid hs2.out.1
      have HMO := Lib.hid hs2.out.2
      clear hs2
      by_cases hlt : k < M
      · have q0 : (k : Int) < (M : Int) := by omega
        have p0 : 0 ≤ (k : Int) := by omega
        have hkL : k < L.length := by have := HL9.out; omega
        have hk9 : k < 9 := by have := HL9.out; omega
        have HSN := Lib.hid (said_next L k acc hs.out hkL hk9)
        have HSL := Lib.hid (said_last L k acc hs.out hkL)
        obtain ⟨bb, bo, ha, hc⟩ : ∃ b o, a = some ⟨b, o, none⟩ ∧ w.cell? ⟨b, o + k, none⟩ = some (.int .u8 (V (L.getD k 0))) := by
          rcases HIN.out with h | ⟨b, o, h1, h2⟩
          · rw [h] at hkL; exact absurd hkL (Nat.not_lt_zero _)
          · exact ⟨b, o, h1, h2 k hkL⟩
        subst ha
        have hjb := join_bits acc ((L.getD k 0).toNat % 128) k hk9 hs.out.1 (Nat.mod_lt _ (by decide))
        have HJL := Lib.hid (join_bits acc (L.getD k 0).toNat k hk9 hs.out.1)
        have HMN : Hid (128 ≤ (L.getD k 0).toNat → more L (k + 1)) := Lib.hid (more_next HMO.out)
        have HBD : Hid (∀ _ : (L.getD k 0).toNat < 128, (((L.getD k 0).toNat = 0 ∧ 0 < k) ∨ 4611686018427387903 < acc + 128 ^ k * (L.getD k 0).toNat) → bad L 2) := Lib.hid (fun hx hc => Or.inr (Or.inr ⟨rfl, k, acc, hkL, hk9, HMO.out, hx, hs.out, hc⟩))
        generalize L.getD k 0 = x at *
        have hxl := x.toNat_lt
        obtain ⟨d, hd⟩ : ∃ d, d = x.toNat % 128 := ⟨_, rfl⟩
        rw [← hd] at hjb HSN
        have hdl : d < 128 := by omega
        have r1 : (V x).tmod 128 = (d : Int) := by rw [Int.tmod_eq_emod_of_nonneg (V_nonneg x)]; unfold V; omega
        have r2 : V x % 128 = (d : Int) := by unfold V; omega
        have r3 : IntKind.u8.wrap (d : Int) = (d : Int) := by rw [IntKind.wrap_u8]; omega
        have r4 : IntKind.i64.wrap (d : Int) = (d : Int) := IntWalk.i64_in _ (by omega)
        have m1 : IntKind.i64.wrap (7 * (k : Int)) = 7 * (k : Int) := IntWalk.i64_in _ (by omega)
        have m2 : (7 * (k : Int)).toNat = 7 * k := by omega
        have m3 : 0 ≤ 7 * (k : Int) := by omega
        obtain ⟨j1, j2, j3⟩ := hjb
        have HD := Lib.hid hd
        clear hd
        generalize d <<< (7 * k) = dk at *
        obtain ⟨nx, hnx⟩ : ∃ nx, nx = acc + 128 ^ k * d := ⟨_, rfl⟩
        rw [← hnx] at j2 j3 HSN
        have HNX := Lib.hid hnx
        have J3 := Lib.hid j3
        clear hnx j3
        by_cases hbig : 128 ≤ x.toNat
        · have b1 : (128 : Int) ≤ V x := by unfold V; omega
          go_wp2_with fail
          go_roundw
          case rel => exact ⟨k + 1, nx, by omega, by go_num, rfl, Lib.hid ⟨HSN.out hbig, HMN.out hbig⟩, by trivial⟩
          case measure => simp [intOf]; omega
        · have b1 : ¬ (128 : Int) ≤ V x := by unfold V; omega
          have HDX : Hid (d = x.toNat) := Lib.hid (by have := HD.out; omega)
          by_cases hz : x.toNat = 0 ∧ 0 < k
          · obtain ⟨hz, hk0⟩ := hz
            have b2 : (V x == 0) = true := by simp [V]; omega
            have b3 : (0 : Int) < (k : Int) := by omega
            go_wp2_with fail
            go_ret3
            exact ⟨rfl, Or.inl ⟨2, HBD.out (by omega) (Or.inl ⟨hz, hk0⟩), rfl⟩⟩
          · have HZ : Hid (k = 0 ∨ x.toNat ≠ 0) := Lib.hid (by omega)
            by_cases htop : 4611686018427387903 < nx
            · by_cases hx0 : x.toNat = 0
              · have b2 : (V x == 0) = true := by simp [V]; omega
                have b3 : decide (0 < k) = false := by have := HZ.out; simp; omega
                clear hz hx0
                have b4 : decide ((4611686018427387903 : Int) < (nx : Int)) = true := by simp; omega
                have HTP := Lib.hid htop
                clear htop
                go_wp2_with fail
                go_ret3
                exact ⟨rfl, Or.inl ⟨2, HBD.out (by omega) (Or.inr (by rw [← HDX.out, ← HNX.out]; exact HTP.out)), rfl⟩⟩
              · have b2 : (V x == 0) = false := by simp [V]; omega
                clear hz hx0
                have b4 : decide ((4611686018427387903 : Int) < (nx : Int)) = true := by simp; omega
                have HTP := Lib.hid htop
                clear htop
                go_wp2_with fail
                go_ret3
                exact ⟨rfl, Or.inl ⟨2, HBD.out (by omega) (Or.inr (by rw [← HDX.out, ← HNX.out]; exact HTP.out)), rfl⟩⟩
            · by_cases hx0 : x.toNat = 0
              · have b2 : (V x == 0) = true := by simp [V]; omega
                have b3 : decide (0 < k) = false := by have := HZ.out; simp; omega
                clear hz hx0
                have b4 : decide ((4611686018427387903 : Int) < (nx : Int)) = false := by simp; omega
                have HT := Lib.hid htop
                clear htop
                go_wp2_with fail
                go_ret3
                exact ⟨rfl, Or.inr ⟨nx, by have := HT.out; omega, k + 1, by show k + 1 ≤ L.length; omega, by rw [HNX.out, HDX.out]; exact HSL.out (by omega) HZ.out, rfl⟩⟩
              · have b2 : (V x == 0) = false := by simp [V]; omega
                clear hz hx0
                have b4 : decide ((4611686018427387903 : Int) < (nx : Int)) = false := by simp; omega
                have HT := Lib.hid htop
                clear htop
                go_wp2_with fail
                go_ret3
                exact ⟨rfl, Or.inr ⟨nx, by have := HT.out; omega, k + 1, by show k + 1 ≤ L.length; omega, by rw [HNX.out, HDX.out]; exact HSL.out (by omega) HZ.out, rfl⟩⟩
      · have q0 : ¬ (k : Int) < (M : Int) := by omega
        by_cases h9 : L.length < 9
        · have q1 : (L.length : Int) < 9 := by omega
          have hkM : k = L.length := by have := HL9.out; omega
          have HB3 : Hid (bad L 3) := Lib.hid (Or.inl ⟨rfl, h9, by rw [← hkM]; exact HMO.out⟩)
          clear hkM
          go_wp2_with fail
          go_ret3
          exact ⟨rfl, Or.inl ⟨3, HB3.out, rfl⟩⟩
        · have q1 : ¬ (L.length : Int) < 9 := by omega
          have hkM : k = 9 := by have := HL9.out; omega
          have HB2 : Hid (bad L 2) := Lib.hid (Or.inr (Or.inl ⟨rfl, by omega, by rw [← hkM]; exact HMO.out⟩))
          clear hkM
          go_wp2_with fail
          go_ret3
          exact ⟨rfl, Or.inl ⟨2, HB2.out, rfl⟩⟩
end Go.Proofs.YtfhlcondnaahiaaDoor.Gl
end
section
/- A reader's calls, whatever it holds: take, Num, Text, Flag, Raw, End. -/
namespace Go.Proofs.YtfhlcondnaahiaaDoor.Gl
variable {B : Nat}
open Go.RowKit

/-- A reader: the bytes that are left, the first fault. -/
def RdAt (B : Nat) (w : World) (k : Nat) (L : List UInt8) (e : Int) : Prop := ∃ p : Pt, InAt w k p e ∧ p.far k ∧ p.l = L ∧ (p.a = none → p.c = 0) ∧ ∀ j, B ≤ j → p.far j
theorem RdAt.below {w w' : World} {k : Nat} {L : List UInt8} {e : Int} (h : RdAt B w k L e) (b : Below w.heap.size w w') : RdAt B w' k L e := by
  obtain ⟨p, h1, h2, h3, h4⟩ := h
  exact ⟨p, h1.below b, h2, h3, h4⟩
theorem RdAt.fault {w : World} {k : Nat} {L : List UInt8} {e : Int} (h : RdAt B w k L e) : w.cell? ⟨k, 1, none⟩ = some (.int .i64 e) ∧ w.frozen? ⟨k, 1, none⟩ = false := by
  obtain ⟨p, h1, h2, h3, h4⟩ := h
  exact ⟨by rw [h1.1.cell]; rfl, h1.1.free 1⟩
theorem RdAt.setFault {w : World} {k : Nat} {L : List UInt8} {e : Int} (h : RdAt B w k L e) (e' : Int) : RdAt B (w.setCell ⟨k, 1, none⟩ (.int .i64 e')) k L e' := by
  obtain ⟨p, h1, h2, h3, h4⟩ := h
  exact ⟨p, ⟨h1.1.set 1 _, h1.2.past ((But.refl k w).setCell _ _ (Or.inl rfl)) h2⟩, h2, h3, h4⟩
theorem RdAt.keep {w w' : World} {k : Nat} {L : List UInt8} {e : Int} (h : RdAt B w k L e) {g : Nat} (hb : But g w w') (hg : B ≤ g) (hk : k ≠ g) : RdAt B w' k L e := by
  obtain ⟨p, h1, h2, h3, h4, h5⟩ := h
  exact ⟨p, ⟨blockIs.but hb h1.1 hk, h1.2.past hb (h5 g hg)⟩, h2, h3, h4, h5⟩
theorem Pt.sub_none {p : Pt} (h : p.a = none → p.c = 0) (i j : Nat) : (p.sub i j).a = none → (p.sub i j).c = 0 := fun hn => by
  have hn : (if p.c = i then p.a else p.a.map (fun x => x.add i)) = none := hn
  show p.c - i = 0
  split at hn
  · omega
  · have := h (by simpa using hn); omega
theorem rgives_any (k : Nat) (L : List UInt8) (e : Int) (w : World) (h : RdAt B w k L e) :
    Calls Tryd.prog 86 #[.pointer (some ⟨k, 0, none⟩)] w fun r w' => r = .returned (.bool (e == 0)) ∧ w = w' := by
  obtain ⟨p, h1, -⟩ := h
  exact gives_any k p e w h1
theorem rerr_any (k : Nat) (L : List UInt8) (e : Int) (w : World) (h : RdAt B w k L e) :
    Calls Tryd.prog 66 #[.pointer (some ⟨k, 0, none⟩)] w fun r w' => r = .returned (.int .i64 e) ∧ w = w' := by
  obtain ⟨p, h1, -⟩ := h
  exact err_any k p e w h1
/-- What take gives, what it leaves, which fault there is then. -/
def tOut (L : List UInt8) (e n : Int) : List UInt8 := if e = 0 ∧ 0 ≤ n ∧ n ≤ (L.length : Int) then L.take n.toNat else []
def tLeft (L : List UInt8) (e n : Int) : List UInt8 := if e = 0 ∧ 0 ≤ n ∧ n ≤ (L.length : Int) then L.drop n.toNat else L
def tErr (L : List UInt8) (e n : Int) : Int := if e ≠ 0 then e else if n < 0 then 1 else if (L.length : Int) < n then 3 else 0
/-- What a call that takes answers. -/
def Took (B : Nat) (w : World) (k : Nat) (L : List UInt8) (e n : Int) (r : Ending) (w' : World) : Prop :=
  ∃ a c, r = .returned (.slice a (tOut L e n).length c) ∧ (a = none → c = 0) ∧ (tOut L e n).length ≤ c ∧ bytesIn w' a (tOut L e n) ∧ RdAt B w' k (tLeft L e n) (tErr L e n) ∧ But k w w'

set_option maxRecDepth 100000 in
set_option maxHeartbeats 2000000 in
theorem rtake_any (k : Nat) (L : List UInt8) (e n : Int) (w : World) (h : RdAt B w k L e) :
    Calls Tryd.prog 88 #[.pointer (some ⟨k, 0, none⟩), .int .i64 n] w (Took B w k L e n) := by
  by_cases hok : e = 0 ∧ 0 ≤ n ∧ n ≤ (L.length : Int)
  · obtain ⟨p, h1, h2, rfl, h4, hB⟩ := h
    obtain ⟨rfl, h5, h6⟩ := hok
    obtain ⟨m, rfl⟩ : ∃ m : Nat, n = (m : Int) := ⟨n.toNat, by omega⟩
    refine (take_ok k p m w h1 h2 (by omega)).mono ?_
    rintro r w' ⟨rfl, hi, hb⟩
    have e1 : tOut p.l 0 (m : Int) = p.l.take m := by unfold tOut; rw [if_pos ⟨rfl, h5, h6⟩, Int.toNat_natCast]
    have e2 : tLeft p.l 0 (m : Int) = p.l.drop m := by unfold tLeft; rw [if_pos ⟨rfl, h5, h6⟩, Int.toNat_natCast]
    have e3 : tErr p.l 0 (m : Int) = 0 := by unfold tErr; rw [if_neg (by simp), if_neg (by omega), if_neg (by omega)]
    have so := Pt.sub_ok (h1.2.past hb h2) 0 m (Nat.zero_le _) (by omega)
    have el : (p.sub 0 m).l = p.l.take m := by show (p.l.take m).drop 0 = _; rw [List.drop_zero]
    refine ⟨(p.sub 0 m).a, (p.sub 0 m).c, by rw [e1, ← el]; rfl, Pt.sub_none h4 0 m, by rw [e1, ← el]; exact so.1, by rw [e1, ← el]; exact so.2.2, ⟨p.sub m p.l.length, by rw [e3]; exact hi, Pt.far_sub h2 _ _, ?_, Pt.sub_none h4 _ _, fun j hj => Pt.far_sub (hB j hj) _ _⟩, hb⟩
    rw [e2]
    show (p.l.take p.l.length).drop m = _
    rw [List.take_length]
  · have e1 : tOut L e n = [] := by unfold tOut; rw [if_neg hok]
    have e2 : tLeft L e n = L := by unfold tLeft; rw [if_neg hok]
    have PG := Lib.hid (rgives_any k L e w h)
    have H := Lib.hid h
    obtain ⟨p, h1, h2, hpl, h4⟩ := h
    have c0 : w.cell? ⟨k, 0, none⟩ = some (.slice p.a L.length p.c) := by rw [h1.1.cell, ← hpl]; rfl
    have f1 := h1.1.free 1
    have c1 : w.cell? ⟨k, 1, none⟩ = some (.int .i64 e) := by rw [h1.1.cell]; rfl
    have fin : ∀ (e' : Int) (w' : World), tErr L e n = e' → RdAt B w' k L e' → But k w w' → Took B w k L e n (.returned (.slice none 0 0)) w' := fun e' w' h h' hb => by
      unfold Took
      rw [e1, e2, h]
      exact ⟨none, 0, rfl, fun _ => rfl, Nat.le_refl _, Or.inl rfl, h', hb⟩
    have FIN := Lib.hid fin
    have hb : But k w (w.setCell ⟨k, 1, none⟩ (.int .i64 1)) := (But.refl k w).setCell _ _ (Or.inl rfl)
    have hb3 : But k w (w.setCell ⟨k, 1, none⟩ (.int .i64 3)) := (But.refl k w).setCell _ _ (Or.inl rfl)
    have HB := Lib.hid hb
    have HB3 := Lib.hid hb3
    clear h1 h2 h4 hpl fin e1 e2 hb hb3
    by_cases he : e = 0
    · subst he
      by_cases hn : n < 0
      · have ER : Hid (tErr L 0 n = 1) := Lib.hid (by unfold tErr; rw [if_neg (by simp), if_pos hn])
        clear hok
        go_enter Tryd.func88, Tryd.ntmps88
        go_wp2_with fail
        with_reducible refine PG.out.mono ?_
        rintro e w' ⟨rfl, rfl⟩
        go_wp2_with fail
        go_ret
        exact FIN.out 1 _ ER.out (H.out.setFault 1) HB.out
      · have hgt : (L.length : Int) < n := by omega
        have ER : Hid (tErr L 0 n = 3) := Lib.hid (by unfold tErr; rw [if_neg (by simp), if_neg hn, if_pos hgt])
        clear hok
        go_enter Tryd.func88, Tryd.ntmps88
        go_wp2_with fail
        with_reducible refine PG.out.mono ?_
        rintro e w' ⟨rfl, rfl⟩
        go_wp2_with fail
        go_ret
        exact FIN.out 3 _ ER.out (H.out.setFault 3) HB3.out
    · have ER : Hid (tErr L e n = e) := Lib.hid (by unfold tErr; rw [if_pos he])
      have b0 : (e == 0) = false := by simpa using he
      clear hok he
      go_enter Tryd.func88, Tryd.ntmps88
      go_wp2_with fail
      with_reducible refine PG.out.mono ?_
      rintro e w' ⟨rfl, rfl⟩
      go_wp2_with fail
      go_ret
      exact FIN.out e _ ER.out H.out (But.refl _ _)
end Go.Proofs.YtfhlcondnaahiaaDoor.Gl
end
section
/- A reader's Num, Text, Flag, Raw, End. -/
namespace Go.Proofs.YtfhlcondnaahiaaDoor.Gl
variable {B : Nat}
open Go.RowKit

/-- What Num answers. -/
def NumRead (B : Nat) (w : World) (k : Nat) (L : List UInt8) (e most : Int) (r : Ending) (w' : World) : Prop :=
  But k w w' ∧ ((e ≠ 0 ∧ r = .returned (.int .i64 0) ∧ RdAt B w' k L e) ∨ (e = 0 ∧ ∃ er, bad L er ∧ r = .returned (.int .i64 0) ∧ RdAt B w' k L er) ∨
    (e = 0 ∧ ∃ N s : Nat, N < 4611686018427387904 ∧ s ≤ L.length ∧ numBytes N = L.take s ∧ ((most < (N : Int) ∧ r = .returned (.int .i64 0) ∧ RdAt B w' k L 4) ∨ ((N : Int) ≤ most ∧ r = .returned (.int .i64 N) ∧ RdAt B w' k (L.drop s) 0))))
theorem bad_ne {L : List UInt8} {er : Int} (h : bad L er) : er ≠ 0 := by
  rcases h with ⟨h, _⟩ | ⟨h, _⟩ | ⟨h, _⟩ <;> rw [h] <;> decide

set_option maxRecDepth 100000 in
set_option maxHeartbeats 2000000 in
theorem rnum_any (k : Nat) (L : List UInt8) (e most : Int) (w : World) (h : RdAt B w k L e) :
    Calls Tryd.prog 64 #[.pointer (some ⟨k, 0, none⟩), .int .i64 most] w (NumRead B w k L e most) := by
  have PG := Lib.hid (rgives_any k L e w h)
  have H := Lib.hid h
  by_cases he : e = 0
  · subst he
    obtain ⟨p, h1, h2, rfl, h4⟩ := h
    have PR := Lib.hid (numread_is p w h1.2)
    have HF := Lib.hid h2
    have c0 : w.cell? ⟨k, 0, none⟩ = some (.slice p.a p.l.length p.c) := by rw [h1.1.cell]; rfl
    have c1 : w.cell? ⟨k, 1, none⟩ = some (.int .i64 0) := by rw [h1.1.cell]; rfl
    have f1 := h1.1.free 1
    clear h1 h2 h4
    go_enter Tryd.func64, Tryd.ntmps64
    go_wp2_with fail
    with_reducible refine PG.out.mono ?_
    rintro e w' ⟨rfl, rfl⟩
    go_wp2_with fail
    with_reducible refine PR.out.mono ?_
    rintro e w' ⟨rfl, ⟨er, her, rfl⟩ | ⟨N, hN, s, hs, hb, rfl⟩⟩
    · have b0 : (er == 0) = false := by simpa using bad_ne her
      have HE := Lib.hid her
      clear her
      go_wp2_with fail
      go_ret
      exact ⟨(But.refl k w).setCell _ _ (Or.inl rfl), Or.inr (Or.inl ⟨rfl, er, HE.out, rfl, H.out.setFault er⟩)⟩
    · have HN := Lib.hid hN
      have HS := Lib.hid hs
      have HB := Lib.hid hb
      by_cases hm : most < (N : Int)
      · have HM := Lib.hid hm
        clear hN hs hb
        go_wp2_with fail
        go_ret
        exact ⟨(But.refl k w).setCell _ _ (Or.inl rfl), Or.inr (Or.inr ⟨rfl, N, s, HN.out, HS.out, HB.out, Or.inl ⟨HM.out, rfl, H.out.setFault 4⟩⟩)⟩
      · have PT := rtake_any k p.l 0 (s : Int) w H.out
        have e2 : tLeft p.l 0 (s : Int) = p.l.drop s := by unfold tLeft; rw [if_pos ⟨rfl, by omega, by omega⟩, Int.toNat_natCast]
        have e3 : tErr p.l 0 (s : Int) = 0 := by unfold tErr; rw [if_neg (by simp), if_neg (by omega), if_neg (by omega)]
        unfold Took at PT
        rw [e2, e3] at PT
        have PT := Lib.hid PT
        have HM : Hid ((N : Int) ≤ most) := Lib.hid (by omega)
        have bm : decide (most < (N : Int)) = false := by simpa using hm
        clear hN hs hb hm e2 e3
        go_wp2_with fail
        with_reducible refine PT.out.mono ?_
        rintro e w' ⟨a, c, rfl, -, -, -, hr, hbut⟩
        have I1 := Lib.hid hr
        have B1 := Lib.hid hbut
        clear hr hbut
        go_wp2_with fail
        go_ret
        exact ⟨B1.out, Or.inr (Or.inr ⟨rfl, N, s, HN.out, HS.out, HB.out, Or.inr ⟨HM.out, rfl, I1.out⟩⟩)⟩
  · have b0 : (e == 0) = false := by simpa using he
    have HE := Lib.hid he
    clear h he
    go_enter Tryd.func64, Tryd.ntmps64
    go_wp2_with fail
    with_reducible refine PG.out.mono ?_
    rintro e w' ⟨rfl, rfl⟩
    go_wp2_with fail
    go_ret
    exact ⟨But.refl k w, Or.inl ⟨HE.out, rfl, H.out⟩⟩

/-- What Raw answers. -/
def RawRead (B : Nat) (w : World) (k : Nat) (L : List UInt8) (e n : Int) (r : Ending) (w' : World) : Prop :=
  ∃ v, r = .returned v ∧ rowIs w' w.heap.size v (tOut L e n) ∧ RdAt B w' k (tLeft L e n) (tErr L e n) ∧ But k w w'
set_option maxRecDepth 100000 in
set_option maxHeartbeats 1000000 in
theorem rraw_any (k : Nat) (L : List UInt8) (e n : Int) (w : World) (h : RdAt B w k L e) (hl : L.length ≤ 100000000) :
    Calls Tryd.prog 65 #[.pointer (some ⟨k, 0, none⟩), .int .i64 n] w (RawRead B w k L e n) := by
  have PT := Lib.hid (rtake_any k L e n w h)
  have hol : (tOut L e n).length ≤ 100000000 := by
    unfold tOut
    split
    · rw [List.length_take]; omega
    · exact Nat.zero_le _
  have HO := Lib.hid hol
  clear h hl hol
  go_enter Tryd.func65, Tryd.ntmps65
  go_wp2_with fail
  with_reducible refine PT.out.mono ?_
  rintro r w1 ⟨a, c, rfl, hz, hle, hin, hr, hb⟩
  have PK := clone_any a (tOut L e n) c w1 hle hin hz (by have := HO.out; omega)
  have R1 := Lib.hid hr
  have B1 := Lib.hid hb
  have HX : Hid (tOut L e n = tOut L e n) := Lib.hid rfl
  clear hz hle hin hr hb
  generalize hT : tOut L e n = T at *
  have HT := Lib.hid hT
  clear hT HX
  go_wp2_with fail
  with_reducible refine PK.mono ?_
  clear PK
  rintro r w2 ⟨v, rfl, hrow, hb⟩
  have V1 := Lib.hid (rowIs.mono hrow B1.out.size)
  have R2 := Lib.hid (R1.out.below hb)
  have B2 := Lib.hid (B1.out.trans (But.of_below hb))
  clear hrow hb
  go_wp2_with fail
  go_ret
  exact ⟨_, rfl, by rw [HT.out]; exact V1.out, R2.out, B2.out⟩

/-- What End answers. -/
def endErr (L : List UInt8) (e : Int) : Int := if e = 0 ∧ L ≠ [] then 2 else e
set_option maxRecDepth 100000 in
theorem rend_any (k : Nat) (L : List UInt8) (e : Int) (w : World) (h : RdAt B w k L e) :
    Calls Tryd.prog 67 #[.pointer (some ⟨k, 0, none⟩)] w fun r w' => r = .returned (.int .i64 (endErr L e)) ∧ RdAt B w' k L (endErr L e) ∧ But k w w' := by
  have PG := Lib.hid (rgives_any k L e w h)
  have H := Lib.hid h
  obtain ⟨p, h1, h2, hpl, h4⟩ := h
  have c0 : w.cell? ⟨k, 0, none⟩ = some (.slice p.a L.length p.c) := by rw [h1.1.cell, ← hpl]; rfl
  have c1 : w.cell? ⟨k, 1, none⟩ = some (.int .i64 e) := by rw [h1.1.cell]; rfl
  have f1 := h1.1.free 1
  clear h1 h2 h4 hpl
  by_cases hok : e = 0 ∧ L ≠ []
  · have E1 : Hid (endErr L e = 2) := Lib.hid (by unfold endErr; rw [if_pos hok])
    obtain ⟨rfl, hL⟩ := hok
    have hlen : 0 < (L.length : Int) := by have := List.length_pos_iff.2 hL; omega
    clear hL
    rw [E1.out]
    have PE := Lib.hid (rerr_any k L 2 _ (H.out.setFault 2))
    go_enter Tryd.func67, Tryd.ntmps67
    go_wp2_with fail
    with_reducible refine PG.out.mono ?_
    rintro r w' ⟨rfl, rfl⟩
    go_wp2_with fail
    with_reducible refine PE.out.mono ?_
    rintro r w' ⟨rfl, rfl⟩
    go_wp2_with fail
    go_ret
    exact ⟨rfl, H.out.setFault 2, (But.refl k w).setCell _ _ (Or.inl rfl)⟩
  · have E1 : Hid (endErr L e = e) := Lib.hid (by unfold endErr; rw [if_neg hok])
    rw [E1.out]
    have PE := Lib.hid (rerr_any k L e w H.out)
    by_cases he : e = 0
    · subst he
      have hlen : ¬ 0 < (L.length : Int) := by
        intro h
        exact hok ⟨rfl, List.length_pos_iff.1 (by omega)⟩
      clear hok
      go_enter Tryd.func67, Tryd.ntmps67
      go_wp2_with fail
      with_reducible refine PG.out.mono ?_
      rintro r w' ⟨rfl, rfl⟩
      go_wp2_with fail
      with_reducible refine PE.out.mono ?_
      rintro r w' ⟨rfl, rfl⟩
      go_wp2_with fail
      go_ret
      exact ⟨rfl, H.out, But.refl _ _⟩
    · have b0 : (e == 0) = false := by simpa using he
      clear hok he
      go_enter Tryd.func67, Tryd.ntmps67
      go_wp2_with fail
      with_reducible refine PG.out.mono ?_
      rintro r w' ⟨rfl, rfl⟩
      go_wp2_with fail
      with_reducible refine PE.out.mono ?_
      rintro r w' ⟨rfl, rfl⟩
      go_wp2_with fail
      go_ret
      exact ⟨rfl, H.out, But.refl _ _⟩
end Go.Proofs.YtfhlcondnaahiaaDoor.Gl
end
section
/- bytes.Equal, HasPrefix and CutPrefix of all bytes; Open, whatever comes. -/
namespace Go.Proofs.YtfhlcondnaahiaaDoor.Gl
variable {B : Nat}
open Go.RowKit

/-- Begins p with q? -/
def begins (p q : List UInt8) : Bool := decide (q.length ≤ p.length) && (p.take q.length == q)
end Go.Proofs.YtfhlcondnaahiaaDoor.Gl
end
