/- GlyphBack: the two rounds of reading, in plain words; Open before each. -/
import Derived.Test.YtmdcdepoeolbhaaGb1
namespace Go.Proofs.Ytmdcdepoeolbhaa
open Go.RowKit

/-- What is still to be read: all of it and no more, in round 0; less of it, in round 1. -/
def Way (r : Nat) (L : List UInt8) (e : Int) (rest : List UInt8) : Prop := ((r = 0 ∧ e = 0 ∧ L = rest) ∨ (r = 1 ∧ Cutoff L e rest)) ∧ L.length ≤ 100000000
theorem numTo_le {L : List UInt8} {e most n : Int} {L1 : List UInt8} {e1 : Int} (h : NumTo L e most n L1 e1) : L1.length ≤ L.length := by
  rcases h with ⟨_, _, rfl, _⟩ | ⟨_, _, _, rfl⟩ | ⟨_, N, s, _, _, _, ⟨_, _, rfl, _⟩ | ⟨_, _, rfl, _⟩⟩
  · exact Nat.le_refl _
  · exact Nat.le_refl _
  · exact Nat.le_refl _
  · rw [List.length_drop]; omega
theorem tLeft_le (L : List UInt8) (e n : Int) : (tLeft L e n).length ≤ L.length := by
  unfold tLeft
  split
  · rw [List.length_drop]; omega
  · exact Nat.le_refl _
theorem way_num {r : Nat} {L : List UInt8} {e : Int} {N : Nat} {R : List UInt8} {n : Int} {L1 : List UInt8} {e1 : Int} (hN : N < 4611686018427387904) (h : Way r L e (numBytes N ++ R)) (hn : NumTo L e 4611686018427387904 n L1 e1) : Way r L1 e1 R ∧ (r = 0 → n = N) := by
  have hm : (N : Int) ≤ 4611686018427387904 := by omega
  have hl := numTo_le hn
  obtain ⟨⟨rfl, rfl, rfl⟩ | ⟨rfl, h⟩, hb⟩ := h
  · obtain ⟨h1, h2, h3⟩ := num_back N hN R _ n hm L1 e1 hn
    exact ⟨⟨Or.inl ⟨rfl, h3, h2⟩, by omega⟩, fun _ => h1⟩
  · exact ⟨⟨Or.inr ⟨rfl, (num_cut L R e _ n N hN hm h L1 e1 hn).1⟩, by omega⟩, fun h => by cases h⟩
theorem way_text {r : Nat} {L : List UInt8} {e : Int} {T R : List UInt8} {n : Int} {L1 : List UInt8} {e1 : Int} (hT : T.length ≤ 300) (h : Way r L e ((numBytes T.length ++ T) ++ R)) (hn : NumTo L e 300 n L1 e1) : Way r (tLeft L1 e1 n) (tErr L1 e1 n) R ∧ (r = 0 → tOut L1 e1 n = T) := by
  have hl := numTo_le hn
  have hl2 := tLeft_le L1 e1 n
  obtain ⟨⟨rfl, rfl, rfl⟩ | ⟨rfl, h⟩, hb⟩ := h
  · obtain ⟨h1, h2, h3⟩ := text_back T R n hT L1 e1 hn
    exact ⟨⟨Or.inl ⟨rfl, h3, h2⟩, by omega⟩, fun _ => h1⟩
  · exact ⟨⟨Or.inr ⟨rfl, text_cut L T R e n hT h L1 e1 hn⟩, by omega⟩, fun h => by cases h⟩
theorem way_flag {r : Nat} {L : List UInt8} {e : Int} {b : Nat} {R : List UInt8} {y : Bool} {e1 : Int} (hb2 : b < 2) (h : Way r L e ([UInt8.ofNat b] ++ R)) (hf : FlagTo L e y e1) : Way r (tLeft L e 1) e1 R ∧ (r = 0 → y = decide (b = 1)) := by
  have hl2 := tLeft_le L e 1
  obtain ⟨⟨rfl, rfl, rfl⟩ | ⟨rfl, h⟩, hb⟩ := h
  · obtain ⟨h1, h2, h3⟩ := flag_back b hb2 R y e1 hf
    exact ⟨⟨Or.inl ⟨rfl, h3, h2⟩, by omega⟩, fun _ => h1⟩
  · exact ⟨⟨Or.inr ⟨rfl, flag_cut L R e b hb2 h y e1 hf⟩, by omega⟩, fun h => by cases h⟩
theorem way_raw {r : Nat} {L : List UInt8} {e : Int} {T R : List UInt8} (h : Way r L e (T ++ R)) : Way r (tLeft L e (T.length : Int)) (tErr L e (T.length : Int)) R ∧ (r = 0 → tOut L e (T.length : Int) = T) := by
  have hl2 := tLeft_le L e T.length
  obtain ⟨⟨rfl, rfl, rfl⟩ | ⟨rfl, h⟩, hb⟩ := h
  · obtain ⟨h1, h2, h3⟩ := tOut_all T R
    exact ⟨⟨Or.inl ⟨rfl, h3, h2⟩, by omega⟩, fun _ => h1⟩
  · exact ⟨⟨Or.inr ⟨rfl, take_cut L T R e h⟩, by omega⟩, fun h => by cases h⟩
theorem way_end {r : Nat} {L : List UInt8} {e : Int} (h : Way r L e []) : (r = 0 ∧ endErr L e = 0) ∨ (r = 1 ∧ endErr L e = 3) := by
  obtain ⟨⟨rfl, rfl, rfl⟩ | ⟨rfl, h⟩, hb⟩ := h
  · exact Or.inl ⟨rfl, by simp [endErr]⟩
  · have := cut_end L e h
    subst this
    exact Or.inr ⟨rfl, by simp [endErr]⟩
/-- What a round reads of: the whole row, or its beginning. -/
def From (r : Nat) (l : List UInt8) (x : UInt8) (S : List UInt8) : Prop := (r = 0 ∧ l = [72, 89, x] ++ S) ∨ (r = 1 ∧ ∃ M, M ≠ [] ∧ l ++ M = [72, 89, x] ++ S)
theorem from_cut {l : List UInt8} {x : UInt8} {S : List UInt8} (h : l = [72, 89, x] ++ S) (n : Nat) (hn : n < l.length) : From 1 (l.take n) x S := by
  refine Or.inr ⟨rfl, l.drop n, ?_, by rw [List.take_append_drop, h]⟩
  intro h0
  have := congrArg List.length h0
  rw [List.length_drop] at this
  simp at this
  omega
theorem begins_head {p q M S : List UInt8} (h : p ++ M = q ++ S) (hq : begins p q = true) : ∃ p1, p = q ++ p1 ∧ p1 ++ M = S := by
  unfold begins at hq
  simp only [Bool.and_eq_true, decide_eq_true_eq, beq_iff_eq] at hq
  have h2 : p = q ++ p.drop q.length := by
    conv => lhs; rw [← List.take_append_drop q.length p]
    rw [hq.2]
  refine ⟨p.drop q.length, h2, ?_⟩
  rw [h2, List.append_assoc] at h
  exact List.append_cancel_left h
theorem begins_short {p q M S : List UInt8} (h : p ++ M = q ++ S) (hq : begins p q = false) : begins q p = true := by
  have hlt : p.length < q.length := by
    apply Classical.byContradiction
    intro hge
    have hge : q.length ≤ p.length := by omega
    have : p.take q.length = q := by
      have h1 := congrArg (List.take q.length) h
      rw [List.take_append_of_le_length hge, List.take_left'] at h1
      · exact h1
      · rfl
    unfold begins at hq
    simp [hge, this] at hq
  have h2 : q.take p.length = p := by
    have h1 := congrArg (List.take p.length) h
    rw [List.take_left' rfl, List.take_append_of_le_length (by omega)] at h1
    exact h1.symm
  unfold begins
  simp [h2]
  omega
theorem open_way (r : Nat) (x : UInt8) (p : Pt) (S : List UInt8) (w : World) (hp : p.ok w) (hz : p.a = none → p.c = 0) (hl : S.length ≤ 100000000) (h : From r p.l x S) :
    Calls Try.prog 20 #[.int .u8 (V x), .slice p.a p.l.length p.c] w fun r' w' => ∃ k L e, r' = .returned (.pointer (some ⟨k, 0, none⟩)) ∧ Hid (w.heap.size ≤ k) ∧ Hid (RdAt w' k L e) ∧ Hid (Way r L e S) ∧ Hid (Below w.heap.size w w') := by
  have yes : ∀ F : List UInt8, p.l = [72, 89, x] ++ F → F.length ≤ 100000000 → Way r F 0 S → Calls Try.prog 20 #[.int .u8 (V x), .slice p.a p.l.length p.c] w fun r' w' => ∃ k L e, r' = .returned (.pointer (some ⟨k, 0, none⟩)) ∧ Hid (w.heap.size ≤ k) ∧ Hid (RdAt w' k L e) ∧ Hid (Way r L e S) ∧ Hid (Below w.heap.size w w') := fun F hF hlF hW =>
    (open_yes2 x p F w hp hz hF hlF).mono fun r' w' ⟨k, q, h1, h2, h3, h4, h5, h6, h7⟩ => ⟨k, F, 0, h1, Lib.hid h2, Lib.hid ⟨q, h3, h4, h5, h7⟩, Lib.hid hW, Lib.hid h6⟩
  rcases h with ⟨rfl, h⟩ | ⟨rfl, M, hM, h⟩
  · exact yes S h hl ⟨Or.inl ⟨rfl, rfl, rfl⟩, hl⟩
  · cases hb : begins p.l [72, 89, x]
    · refine (open_no x p w hp hb).mono ?_
      rintro r' w' ⟨k, h1, h2, h3, h4⟩
      rw [if_pos (begins_short h hb)] at h3
      exact ⟨k, [], 3, h1, Lib.hid h2, Lib.hid h3, Lib.hid ⟨Or.inr ⟨rfl, Or.inr rfl⟩, by simp⟩, Lib.hid h4⟩
    · obtain ⟨F, h1, h2⟩ := begins_head h hb
      have hlF : F.length ≤ S.length := by rw [← h2, List.length_append]; omega
      exact yes F h1 (by omega) ⟨Or.inr ⟨rfl, Or.inl ⟨rfl, M, hM, h2⟩⟩, by omega⟩
/-- Opened as another kind: what is told. -/
theorem open_other (x : UInt8) (p : Pt) (S : List UInt8) (w : World) (hp : p.ok w) (h : p.l = [72, 89, x] ++ S) :
    Calls Try.prog 20 #[.int .u8 (V (x + 1)), .slice p.a p.l.length p.c] w fun r' w' => ∃ k, r' = .returned (.pointer (some ⟨k, 0, none⟩)) ∧ Hid (RdAt w' k [] 2) ∧ Hid (Below w.heap.size w w') := by
  have hx : x ≠ x + 1 := by
    intro h
    have h1 := congrArg UInt8.toNat h
    rw [UInt8.toNat_add] at h1
    have := x.toNat_lt
    simp at h1
    omega
  have h1 : begins p.l [72, 89, x + 1] = false := by
    rw [h]
    simp [begins, hx]
  have h2 : begins [72, 89, x + 1] p.l = false := by
    rw [h]
    cases S with
    | nil => simp [begins]
    | cons y S => simp [begins]
  refine (open_no (x + 1) p w hp h1).mono ?_
  rintro r' w' ⟨k, h3, h4, h5, h6⟩
  rw [h2] at h5
  exact ⟨k, h3, Lib.hid h5, Lib.hid h6⟩
theorem wrap_next (x : UInt8) : (V x + 1) % 256 = V (x + 1) := by
  unfold V
  rw [UInt8.toNat_add]
  simp
theorem run_slice_hp (p : Pt) (m : Nat) (hm : m ≤ p.l.length) (hc : p.l.length ≤ p.c) (w : World) :
    (Instr.slice 23 (.slice p.a p.l.length p.c) none (some (.int .i64 (m : Int))) none).run Try.prog w = .ok (.slice p.a m p.c) w := by
  rw [run_slice_h w 23 p.a p.l.length p.c slice22 .i64 (m : Int) (by omega) (by omega), sz22]
  show Result.ok (sliced p.a 0 (m : Int).toNat p.c 1) w = _
  rw [Int.toNat_natCast]
  unfold sliced
  simp only [Nat.zero_mul, Nat.sub_zero]
  have : ∀ q : Option Addr, q.map (fun x => x.add 0) = q := fun q => by
    cases q with
    | none => rfl
    | some y => rfl
  simp [this]
theorem Pt.ok.cut {w : World} {a : Option Addr} {c : Nat} {l : List UInt8} (h : (⟨a, c, l⟩ : Pt).ok w) (m : Nat) : (⟨a, c, l.take m⟩ : Pt).ok w := by
  obtain ⟨h1, h2, h3⟩ := h
  exact ⟨Nat.le_trans (by show (l.take m).length ≤ l.length; rw [List.length_take]; omega) h1, h2, h3.take m⟩
theorem wrapm (z : Int) (n : Nat) (hn : 0 < n) (h : n ≤ 100000004) : ∃ m : Nat, m < n ∧ wrap64 ((IntKind.u64.wrap z).tmod (n : Int)) = (m : Int) := by
  have hw : 0 ≤ IntKind.u64.wrap z := by rw [IntKind.wrap_u64]; omega
  have h1 := Int.emod_lt_of_pos (IntKind.u64.wrap z) (show (0 : Int) < n by omega)
  have h0 := Int.emod_nonneg (IntKind.u64.wrap z) (show (n : Int) ≠ 0 by omega)
  rw [Int.tmod_eq_emod_of_nonneg hw]
  refine ⟨(IntKind.u64.wrap z % n).toNat, by omega, ?_⟩
  unfold wrap64
  omega
theorem icells_get (I : List Itm) : ∀ (n : Nat) (h : n < I.length) (j : Nat), j < 3 → (icells I)[n * 3 + j]? = (I[n]).cells[j]? := by
  induction I with
  | nil => intro n h; exact absurd h (Nat.not_lt_zero _)
  | cons p I ih =>
    intro n h j hj
    rw [icells, List.flatMap_cons]
    cases n with
    | zero =>
      rw [List.getElem?_append_left (by show _ < 3; omega)]
      simp
    | succ n =>
      rw [List.getElem?_append_right (by show 3 ≤ _; omega)]
      have := ih n (by simpa using h) j hj
      rw [icells] at this
      rw [show (n + 1) * 3 + j - p.cells.length = n * 3 + j by show _ - 3 = _; omega]
      simpa using this
theorem rowT_form {w : World} {B : Nat} {v : Value} {I : List Itm} (h : rowT w B v I) : ∃ a0 c0, v = .slice a0 I.length c0 ∧ I.length ≤ c0 := by
  rcases h.2 with ⟨rfl, h0⟩ | ⟨g, cap, cur, rfl, _, _, hn, _⟩
  · exact ⟨none, 0, by rw [h0], by omega⟩
  · exact ⟨some ⟨g, 0, none⟩, cap, rfl, hn⟩
theorem rowT_at {w : World} {B n0 c0 : Nat} {a0 : Option Addr} {I : List Itm} (h : rowT w B (.slice a0 n0 c0) I) (n : Nat) (hn : n < I.length) :
    ∃ g, a0 = some ⟨g, 0, none⟩ ∧ g < w.heap.size ∧ w.cell? ⟨g, n * 3, none⟩ = some (.int .i64 (I[n]).what) ∧ w.cell? ⟨g, n * 3 + 1, none⟩ = some (.int .i64 (I[n]).n) ∧ w.cell? ⟨g, n * 3 + 2, none⟩ = some (.string (str (I[n]).t)) := by
  have hk : ∃ g, a0 = some ⟨g, 0, none⟩ := by
    rcases h.2 with ⟨hv, h0⟩ | ⟨g, cap, cur, hv, _⟩
    · omega
    · injection hv with hv
      exact ⟨g, hv⟩
  obtain ⟨g, rfl⟩ := hk
  have hc := World.ownsRow.cells h (g := g) rfl
  have e : ∀ j u, j < 3 → (I[n]).cells[j]? = some u → w.cell? ⟨g, n * 3 + j, none⟩ = some u := fun j u hj hu => by
    have := hc (n * 3 + j) u ((icells_get I n hn j hj).trans hu)
    rw [Addr.add_lit, Nat.zero_add] at this
    exact this
  exact ⟨g, rfl, (World.ownsRow.lt h g rfl).2, e 0 _ (by omega) rfl, e 1 _ (by omega) rfl, e 2 _ (by omega) rfl⟩
theorem rest_at (I : List Itm) (n : Nat) (hn : n < I.length) : (I.drop n).flatMap Itm.bytes = (I[n]).bytes ++ (I.drop (n + 1)).flatMap Itm.bytes := by
  rw [List.drop_eq_getElem_cons hn, List.flatMap_cons]
theorem odd_same (N : Nat) : ((N : Int) % 2 == 1) = decide (N % 2 = 1) := by
  by_cases h : N % 2 = 1
  · rw [decide_eq_true h]
    simp
    omega
  · rw [decide_eq_false h]
    simp
    omega
theorem way_len {r : Nat} {L : List UInt8} {e : Int} {R : List UInt8} (h : Way r L e R) : L.length ≤ 100000000 := by
  obtain ⟨_, h⟩ := h
  exact h
theorem same_str (S T : List UInt8) (h : S = T) : (str S == str T) = true := by
  rw [h]
  show ((str T).data == (str T).data) = true
  exact beq_self_eq_true _
theorem odd_same2 (N : Nat) : ((N : Int).tmod 2 == 1) = decide (N % 2 = 1) := by
  rw [Int.tmod_eq_emod_of_nonneg (by omega)]
  exact odd_same N
end Go.Proofs.Ytmdcdepoeolbhaa
