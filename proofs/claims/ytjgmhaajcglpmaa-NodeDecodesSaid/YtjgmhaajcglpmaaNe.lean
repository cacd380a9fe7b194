/- Nodes as bytes: plain words; Encode. -/
import Derived.Test.YtjgmhaajcglpmaaNw
namespace Go.Proofs.Ytjgmhaajcglpmaa
open Go.RowKit

/-- A node's bytes. -/
def ndBytes (n : Nd) : List UInt8 :=
  (numBytes n.name.length ++ n.name) ++ ((numBytes n.kind.toNat ++ (numBytes n.mode.toNat ++ numBytes n.time.toNat)) ++
    (if n.kind = 0 then (numBytes n.size.toNat ++ numBytes n.parts.length) ++ n.parts.flatten else if n.kind = 1 then n.tree else numBytes n.target.length ++ n.target))
def encBytes (L : List Nd) : List UInt8 := ([72, 89, 110] ++ numBytes L.length) ++ L.flatMap ndBytes
theorem outNum_ok (F : List UInt8) (n : Int) (h0 : 0 ≤ n) (h1 : n < 4611686018427387904) : outNum (F, 0) n = (F ++ numBytes n.toNat, 0) := by
  have : ¬ (n < 0 ∨ 4611686018427387904 ≤ n) := by omega
  simp [outNum, this]
theorem outText_ok (F T : List UInt8) (h : T.length ≤ 131072) : outText (F, 0) T = (F ++ (numBytes T.length ++ T), 0) := by
  have : ¬ 131072 < T.length := by omega
  simp [outText, this]
theorem outParts_ok (F : List UInt8) (P : List (List UInt8)) : outParts (F, 0) P = (F ++ P.flatten, 0) := by
  induction P generalizing F with
  | nil => simp [outParts]
  | cons p P ih =>
    have := ih (F ++ p)
    show outParts (outRaw (F, 0) p) P = _
    rw [show outRaw (F, 0) p = (F ++ p, 0) by simp [outRaw], this]
    simp
/-- What Check says of a node that is in form. -/
theorem check_ok {n : Nd} (h : n.check = 0) : nameOk n.name = true ∧ (0 ≤ n.mode ∧ n.mode ≤ 4095) ∧ (0 ≤ n.time ∧ n.time ≤ 1099511627776) ∧ n.kindOk = true := by
  unfold Nd.check at h
  split at h
  · rename_i h1
    split at h
    · rename_i h2
      exact ⟨h1, h2.1, h2.2.1, h2.2.2⟩
    · exact absurd h (by decide)
  · exact absurd h (by decide)
theorem name_small {l : List UInt8} (h : nameOk l = true) : l.length ≤ 255 := by
  unfold nameOk at h
  simp only [Bool.and_eq_true, decide_eq_true_eq] at h
  exact h.2.1
theorem kind_cases {n : Nd} (h : n.kindOk = true) :
    (n.kind = 0 ∧ n.target = [] ∧ n.tree = noughts ∧ n.partsOk) ∨ (n.kind = 1 ∧ n.target = [] ∧ n.size = 0 ∧ n.parts.length = 0) ∨
    (n.kind = 2 ∧ n.target ≠ [] ∧ n.target.length ≤ 4095 ∧ n.tree = noughts ∧ n.size = 0 ∧ n.parts.length = 0) := by
  unfold Nd.kindOk at h
  split at h
  · rename_i h0
    simp only [Bool.and_eq_true, decide_eq_true_eq, beq_iff_eq] at h
    exact Or.inl ⟨h0, h.1, h.2.1, h.2.2⟩
  · split at h
    · rename_i h1
      simp only [Bool.and_eq_true, decide_eq_true_eq] at h
      exact Or.inr (Or.inl ⟨h1, h.1, h.2.1, h.2.2⟩)
    · split at h
      · rename_i h2
        simp only [Bool.and_eq_true, decide_eq_true_eq, beq_iff_eq, Bool.not_eq_true', decide_eq_false_iff_not] at h
        exact Or.inr (Or.inr ⟨h2, h.1, h.2.1, h.2.2.1, h.2.2.2.1, h.2.2.2.2⟩)
      · exact absurd h (by decide)
theorem check_small {n : Nd} (h : n.check = 0) : n.name.length ≤ 255 ∧ n.target.length ≤ 4095 ∧ n.parts.length ≤ 1048576 := by
  obtain ⟨h1, h2, h3, h4⟩ := check_ok h
  refine ⟨name_small h1, ?_⟩
  rcases kind_cases h4 with ⟨-, h5, -, h6⟩ | ⟨-, h5, -, h6⟩ | ⟨-, -, h5, -, -, h6⟩
  · rw [h5]
    exact ⟨by simp, by have := h6.2.1; have := h6.1.2; omega⟩
  · rw [h5]
    exact ⟨by simp, by omega⟩
  · exact ⟨h5, by omega⟩
theorem nd_out {n : Nd} (h : n.check = 0) (F : List UInt8) : n.out (F, 0) = (F ++ ndBytes n, 0) := by
  obtain ⟨h1, h2, h3, h4⟩ := check_ok h
  have hn := name_small h1
  have e1 := outText_ok F n.name (by omega)
  have hk : 0 ≤ n.kind ∧ n.kind ≤ 2 := by rcases kind_cases h4 with h | h | h <;> omega
  have e2 : ∀ G, outNums (G, 0) [n.kind, n.mode, n.time] = (G ++ (numBytes n.kind.toNat ++ (numBytes n.mode.toNat ++ numBytes n.time.toNat)), 0) := fun G => by
    show outNum (outNum (outNum (G, 0) n.kind) n.mode) n.time = _
    rw [outNum_ok G n.kind hk.1 (by omega), outNum_ok _ n.mode h2.1 (by omega), outNum_ok _ n.time h3.1 (by omega)]
    simp
  unfold Nd.out
  rw [e1, e2]
  rcases kind_cases h4 with ⟨h5, h6, h7, h8⟩ | ⟨h5, h6, h7, h8⟩ | ⟨h5, h6, h7, h8, h9, h10⟩
  · have e3 : ∀ G, outNums (G, 0) [n.size, (n.parts.length : Int)] = (G ++ (numBytes n.size.toNat ++ numBytes n.parts.length), 0) := fun G => by
      show outNum (outNum (G, 0) n.size) (n.parts.length : Int) = _
      rw [outNum_ok G n.size h8.1.1 (by have := h8.1.2; omega), outNum_ok _ (n.parts.length : Int) (by omega) (by have := h8.2.1; have := h8.1.2; omega)]
      simp
    rw [if_pos h5, e3, outParts_ok]
    simp [ndBytes, h5]
  · rw [if_neg (by omega), if_pos h5]
    simp [ndBytes, h5, outRaw]
  · rw [if_neg (by omega), if_neg (by omega), if_pos h5, outText_ok _ _ (by omega)]
    simp [ndBytes, h5]
def outL (s : List UInt8 × Int) (L : List Nd) : List UInt8 × Int := L.foldl (fun s n => n.out s) s
theorem outL_take (s : List UInt8 × Int) (L : List Nd) (j : Nat) (h : j < L.length) : outL s (L.take (j + 1)) = L[j].out (outL s (L.take j)) := by
  unfold outL
  rw [List.take_succ_eq_append_getElem h, List.foldl_append]
  rfl
theorem outL_ok (F : List UInt8) (L : List Nd) (h : ∀ n ∈ L, n.check = 0) : outL (F, 0) L = (F ++ L.flatMap ndBytes, 0) := by
  induction L generalizing F with
  | nil => simp [outL]
  | cons n L ih =>
    have := ih (F ++ ndBytes n) (fun m hm => h m (List.mem_cons_of_mem _ hm))
    show outL (n.out (F, 0)) L = _
    rw [nd_out (h n List.mem_cons_self), this]
    simp
theorem firstE_zero : ∀ {L : List Nd}, firstE L = 0 → ∀ n ∈ L, n.check = 0
  | [], _, _, hn => absurd hn List.not_mem_nil
  | m :: L, h, n, hn => by
    unfold firstE at h
    split at h
    · rename_i h0
      rcases List.mem_cons.1 hn with rfl | hn
      · exact h0
      · exact firstE_zero h n hn
    · rename_i h0
      exact absurd h h0
theorem checkL_zero {L : List Nd} (h : checkL L = 0) : L.length ≤ 2000 ∧ (∀ n ∈ L, n.check = 0) ∧ risesN L = true := by
  unfold checkL at h
  split at h
  · exact absurd h (by decide)
  · split at h
    · rename_i h1 h2
      exact absurd h h2
    · rename_i h1 h2
      split at h
      · rename_i h3
        exact ⟨by omega, firstE_zero (by simpa using h2), h3⟩
      · exact absurd h (by decide)
/-- How many names of pieces. -/
def weight (L : List Nd) : Nat := (L.map fun n => n.parts.length).sum
theorem weight_take (L : List Nd) (j : Nat) : weight (L.take j) ≤ weight L := by
  unfold weight
  conv => rhs; rw [← List.take_append_drop j L, List.map_append, List.sum_append]
  omega
theorem weight_mem {L : List Nd} {n : Nd} (h : n ∈ L) : n.parts.length ≤ weight L := by
  induction L with
  | nil => exact absurd h List.not_mem_nil
  | cons m L ih =>
    rcases List.mem_cons.1 h with rfl | h
    · simp [weight]
    · have := ih h
      simp only [weight, List.map_cons, List.sum_cons] at *
      omega
theorem ndBytes_len {n : Nd} (h : n.check = 0) (h32 : ∀ p ∈ n.parts, p.length = 32) (ht : n.tree.length = 32) : (ndBytes n).length ≤ 4500 + 32 * n.parts.length := by
  obtain ⟨h1, h2, h3⟩ := check_small h
  obtain ⟨-, h4, h5, h6⟩ := check_ok h
  have hk : 0 ≤ n.kind ∧ n.kind ≤ 2 := by rcases kind_cases h6 with h | h | h <;> omega
  have n1 := numBytes_nine n.name.length (by omega)
  have n2 := numBytes_nine n.kind.toNat (by omega)
  have n3 := numBytes_nine n.mode.toNat (by omega)
  have n4 := numBytes_nine n.time.toNat (by omega)
  have hf : ∀ P : List (List UInt8), (∀ p ∈ P, p.length = 32) → P.flatten.length = 32 * P.length := fun P => by
    induction P with
    | nil => simp
    | cons p P ih =>
      intro h
      rw [List.flatten_cons, List.length_append, ih (fun q hq => h q (List.mem_cons_of_mem _ hq)), h p List.mem_cons_self, List.length_cons]
      omega
  have hfl := hf n.parts h32
  unfold ndBytes
  rcases kind_cases h6 with ⟨h7, h8, h9, h10⟩ | ⟨h7, h8, h9, h10⟩ | ⟨h7, h8, h9, h10, h11, h12⟩
  · have n5 := numBytes_nine n.size.toNat (by have := h10.1.2; omega)
    have n6 := numBytes_nine n.parts.length (by omega)
    rw [if_pos h7]
    simp only [List.length_append]
    omega
  · rw [if_neg (by omega), if_pos h7]
    simp only [List.length_append]
    omega
  · have n5 := numBytes_nine n.target.length (by omega)
    rw [if_neg (by omega), if_neg (by omega)]
    simp only [List.length_append]
    omega
theorem flat_len (L : List Nd) (h : ∀ n ∈ L, n.check = 0) (hw : ∀ n ∈ L, n.Wf) : (L.flatMap ndBytes).length ≤ 4500 * L.length + 32 * weight L := by
  induction L with
  | nil => simp
  | cons n L ih =>
    have h1 := ih (fun m hm => h m (List.mem_cons_of_mem _ hm)) (fun m hm => hw m (List.mem_cons_of_mem _ hm))
    have h2 := ndBytes_len (h n List.mem_cons_self) (hw n List.mem_cons_self).part (hw n List.mem_cons_self).tree
    rw [List.flatMap_cons, List.length_append]
    simp only [weight, List.map_cons, List.sum_cons, List.length_cons] at *
    omega
theorem rowN.wf {w : World} {a : Option Addr} {L : List Nd} (h : rowN w a L) : ∀ n ∈ L, n.Wf := by
  intro n hn
  obtain ⟨i, hi, rfl⟩ := List.getElem_of_mem hn
  obtain ⟨b, o, -, h⟩ := h.at i hi
  exact h.1
set_option maxRecDepth 100000 in
set_option maxHeartbeats 4000000 in
theorem encode_any (a : Option Addr) (c : Nat) (L : List Nd) (w : World) (hl : L.length ≤ 9223372036854775807) (hw : weight L ≤ 20000) (h : rowN w a L) :
    Calls Try.prog 18 #[.slice a L.length c] w fun e w' => (checkL L = 0 ∧ (∃ v, e = .returned (.tuple #[v, .int .i64 0]) ∧ rowIs w' w.heap.size v (encBytes L)) ∨ checkL L ≠ 0 ∧ e = .returned (.tuple #[.slice none 0 0, .int .i64 (checkL L)])) ∧ Below w.heap.size w w' := by
  have H := Lib.hid h
  have CA := Lib.hid (checkAll_any a c L w hl h)
  clear h
  by_cases h0 : checkL L = 0
  · have hb0 : (checkL L != 0) = false := by simp [h0]
    obtain ⟨hlen, hok, -⟩ := checkL_zero h0
    have HOK := Lib.hid hok
    have H0 := Lib.hid h0
    clear hok h0
    generalize checkL L = CE at *
    go_enter Try.func18, Try.ntmps18
    go_wp2_with fail
    with_reducible refine CA.out.mono ?_
    rintro e w1 ⟨rfl, b1⟩
    have B1 := Lib.hid b1
    clear b1 CA
    go_wp2_with fail
    with_reducible refine (begin_c 110 110 rfl w1).mono ?_
    rintro e w2 ⟨k, rfl, o2, b2⟩
    have O2 := Lib.hid (o2.mono B1.out.size)
    have B2 := Lib.hid (B1.out.trans (b2.mono B1.out.size))
    clear o2 b2 B1
    have P1 := Lib.hid (num1k w.heap.size k ([72, 89, 110], 0) (L.length : Int) w2 O2.out (by simp [Lit.wf, IntKind.min, IntKind.max, IntKind.signed, IntKind.bits]; omega) (by decide))
    go_wp2_with fail
    with_reducible refine P1.out.mono ?_
    rintro e w3 ⟨rfl, o3, b3, -⟩
    have HE : Hid (outNum ([72, 89, 110], 0) (L.length : Int) = ([72, 89, 110] ++ numBytes L.length, 0)) := Lib.hid (by
      rw [outNum_ok _ _ (by omega) (by omega)]
      rfl)
    rw [HE.out] at o3
    have O3 := Lib.hid o3
    have B3 := Lib.hid (B2.out.trans b3)
    clear o3 b3 O2 B2 P1 HE
    have HWF := Lib.hid H.out.wf
    obtain ⟨F, hF⟩ : ∃ F, F = [72, 89, 110] ++ numBytes L.length := ⟨_, rfl⟩
    rw [← hF] at O3
    have HF := Lib.hid hF
    have HFL : Hid (F.length ≤ 12) := Lib.hid (by
      rw [hF, List.length_append]
      have := numBytes_nine L.length (by omega)
      simp
      omega)
    clear hF
    go_wp2_with fail
    go_loopw [20] (fun i wr => ∃ j : Nat, j ≤ L.length ∧ i = .int .i64 j ∧ Hid (OutAt wr w.heap.size k (outL (F, 0) (L.take j))) ∧ Hid (Below w.heap.size w wr)) (fun i _ => L.length - (intOf i).toNat)
    case atStart => exact ⟨0, Nat.zero_le _, rfl, O3, B3⟩
    case round =>
      obtain ⟨j, hj, rfl, OR, BR⟩ := hrel
      have p0 : 0 ≤ (j : Int) := by omega
      by_cases hlt : j < L.length
      · have q0 : (j : Int) < (L.length : Int) := by omega
        obtain ⟨b, o, rfl, hn⟩ := H.out.at j hlt
        have hck := HOK.out _ (List.getElem_mem hlt)
        obtain ⟨s1, s2, s3⟩ := check_small hck
        have hwt := weight_mem (List.getElem_mem hlt)
        have HTK := Lib.hid (outL_take (F, 0) L j hlt)
        have HLN : Hid ((outL (F, 0) (L.take j)).1.length ≤ 90000000) := Lib.hid (by
          rw [outL_ok F (L.take j) (fun n hn => HOK.out n (List.mem_of_mem_take hn))]
          show (F ++ (L.take j).flatMap ndBytes).length ≤ _
          have h1 := flat_len (L.take j) (fun n hn => HOK.out n (List.mem_of_mem_take hn)) (fun n hn => HWF.out n (List.mem_of_mem_take hn))
          have h2 := weight_take L j
          have h3 : (L.take j).length ≤ 2000 := by rw [List.length_take]; omega
          have h4 := HFL.out
          rw [List.length_append]
          omega)
        generalize L[j] = n at *
        have HN := Lib.hid hn
        obtain ⟨wf, pv, hid, -⟩ := hn
        obtain ⟨pa, pc, rfl, -, -, -, -, -⟩ := hid
        have hr : ∃ pa pc, Hid (∀ w', Below w.heap.size w w' → idsIn w' (.slice pa n.parts.length pc) n.parts) ∧ Hid (wr.rangeAt b (o + j * 39) (n.cells (.slice pa n.parts.length pc))) := by
          obtain ⟨-, pv, hid, hr⟩ := HN.out
          have hid' := hid
          obtain ⟨pa, pc, rfl, -⟩ := hid'
          exact ⟨pa, pc, Lib.hid (fun w' hb => hid.below hb (Nat.le_refl _)), Lib.hid (range_below hr BR.out (Nat.le_refl _))⟩
        clear hck
        obtain ⟨pa, pc, HID, R1⟩ := hr
        have WF := Lib.hid wf
        clear wf
        have HCL := Lib.hid (n.cells_length (.slice pa n.parts.length pc) WF.out.tree)
        have HC1 := Lib.hid (cells_one n (.slice pa n.parts.length pc) rfl)
        have HZ := Lib.hid (zeroNd.cells_length (.slice none 0 0) rfl)
        have hz := zero_nd
        have WR := fun w5 (o5 : OutAt w5 w.heap.size k (outL (F, 0) (L.take j))) (b5 : Below w.heap.size w w5) => Lib.hid (write_any w.heap.size k _ n pa pc w5 o5 WF.out b5.size (fun w' hb => HID.out w' (b5.trans hb)) HLN.out (by omega) (by omega) (by omega))
        generalize n.cells (.slice pa n.parts.length pc) = cs at *
        generalize zeroNd.cells (.slice none 0 0) = zs at *
        go_wp2_with (first | (refine load_nd (by rfl) _ rfl b (o + j * 39) rfl cs R1.out HCL.out ?_) | (refine store_new 33 info_nd rfl _ _ rfl cs zs rfl rfl HCL.out HZ.out HC1.out ?_))
        intro w5 h1 h2
        have R5 := Lib.hid (block_range h1.out)
        have O5 := Lib.hid (OR.out.below h2.out)
        have B5 := Lib.hid (BR.out.trans (h2.out.mono BR.out.size))
        have P5 := WR w5 O5.out B5.out
        clear h1 h2 hz R1 WR
        generalize wr.heap.size = g at *
        go_wp2_with (refine load_nd (by rfl) _ rfl g 0 rfl cs R5.out HCL.out ?_)
        with_reducible refine P5.out.mono ?_
        rintro e w6 ⟨rfl, o6, b6, -⟩
        rw [← HTK.out] at o6
        have O6 := Lib.hid o6
        have B6 := Lib.hid (B5.out.trans b6)
        clear o6 b6 P5 O5 B5 HTK R5
        go_wp2_with fail
        go_roundw
        case rel => exact ⟨j + 1, by omega, by go_num, O6, B6⟩
        case measure => simp [intOf]; omega
      · obtain rfl : j = L.length := by omega
        rw [List.take_length] at OR
        have q0 : ¬ ((L.length : Int) < (L.length : Int)) := by omega
        have HX : Hid (outL (F, 0) L = (encBytes L, 0)) := Lib.hid (by
          rw [outL_ok F L HOK.out, HF.out]
          rfl)
        rw [HX.out] at OR
        have HXL : Hid ((encBytes L).length ≤ 900000000) := Lib.hid (by
          have h1 := flat_len L HOK.out HWF.out
          have h4 := HFL.out
          rw [HF.out] at h4
          unfold encBytes
          rw [List.length_append]
          omega)
        have P6 := Lib.hid (bytes_ok w.heap.size k (encBytes L, 0) wr OR.out rfl HXL.out)
        generalize hX : encBytes L = X at *
        have HXE := Lib.hid hX
        clear hX
        go_wp2_with fail
        with_reducible refine P6.out.mono ?_
        rintro e w7 ⟨v, rfl, hr, b7⟩
        have R7 := Lib.hid (rowIs.mono hr BR.out.size)
        have B7 := Lib.hid (BR.out.trans (b7.mono BR.out.size))
        clear hr b7
        go_wp2_with fail
        go_ret2
        exact ⟨Or.inl ⟨H0.out, v, rfl, by rw [HXE.out]; exact R7.out⟩, B7.out⟩
  · have hb0 : (checkL L != 0) = true := by simp [h0]
    have HNZ := Lib.hid h0
    clear h0
    go_enter Try.func18, Try.ntmps18
    go_wp2_with fail
    with_reducible refine CA.out.mono ?_
    rintro e w1 ⟨rfl, b1⟩
    have B1 := Lib.hid b1
    clear b1 CA
    go_wp2_with fail
    go_ret2
    exact ⟨Or.inr ⟨HNZ.out, rfl⟩, B1.out⟩
end Go.Proofs.Ytjgmhaajcglpmaa
