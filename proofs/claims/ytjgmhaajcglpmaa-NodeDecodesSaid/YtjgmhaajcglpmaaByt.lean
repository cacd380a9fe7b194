/- The contracts of Clone and Bytes; texts of bytes. -/
import Derived.Test.YtjgmhaajcglpmaaTxt
import Derived.Lib.SliceRun
namespace Go.Proofs.Ytjgmhaajcglpmaa
open Go.RowKit

set_option maxHeartbeats 1000000 in
theorem clone_any (a : Option Addr) (l : List UInt8) (c : Nat) (w : World) (hlc : l.length ≤ c) (h : bytesIn w a l) (hz : a = none → c = 0) (hl : l.length ≤ 900000000) :
    Calls Try.prog 54 #[.slice a l.length c] w fun e w' => ∃ v, e = .returned v ∧ rowIs w' w.heap.size v l ∧ Below w.heap.size w w' := by
  have q := fun (w : World) (a : Option Addr) (n c n' c' : Nat) => Go.Lib.run_eql_slice_nil (P := Try.prog) w 40 _ a n c n' c' Try.underlying40
  have H := Lib.hid h
  have Z := Lib.hid hz
  cases a with
  | none =>
    obtain rfl : l = [] := by
      rcases h with h0 | ⟨b, o', h1, _⟩
      · exact h0
      · cases h1
    obtain rfl := hz rfl
    clear h hz
    go_enter Try.func54, Try.ntmps54
    go_wp2_with fail
    go_ret
    exact ⟨_, rfl, World.ownsRow_nil _ _ _ _, Below.refl _ _⟩
  | some ad =>
    clear h hz
    go_enter Try.func54, Try.ntmps54
    go_wp2_with (at_builtin; refine append_bytes rfl _ _ rfl w.heap.size _ [] rfl (rowIs.empty _ _ (Nat.le_refl _)) (some ad) _ c l rfl rfl (fun h => by cases h) (H.out.below ((Below.refl w.heap.size w).alloc (Nat.le_refl _) _) (Nat.le_refl _)) (by simp; omega) (by simp) ?_)
    intro v1 w1 hown hgr
    have M := Lib.hid (((Below.refl w.heap.size w).alloc (Nat.le_refl _) _).trans ((rowIs.empty w w.heap.size (Nat.le_refl _)).grew (by simp) hgr))
    have R := Lib.hid hown
    clear hown hgr
    go_wp2_with fail
    go_ret
    exact ⟨_, rfl, R.out, M.out⟩
set_option maxHeartbeats 1000000 in
theorem bytes_ok (B k : Nat) (s : List UInt8 × Int) (w : World) (h : OutAt w B k s) (hs : s.2 = 0) (hl : s.1.length ≤ 900000000) :
    Calls Try.prog 36 #[.pointer (some ⟨k, 0, none⟩)] w fun e w' => ∃ v, e = .returned (.tuple #[v, .int .i64 0]) ∧ rowIs w' w.heap.size v s.1 ∧ Below w.heap.size w w' := by
  obtain ⟨F, er⟩ := s
  obtain rfl : er = 0 := hs
  obtain ⟨v, hv1, hv2, hv3, hv4⟩ := h
  have c0 : w.cell? ⟨k, 0, none⟩ = some v := by rw [hv2.cell]; rfl
  have c1 : w.cell? ⟨k, 1, none⟩ = some (.int .i64 0) := by rw [hv2.cell]; rfl
  obtain ⟨a, c, rfl, h1, h2, h3⟩ := rowIs.bytes hv3
  have I := Lib.hid h2
  have Z := Lib.hid h3
  clear hv1 hv2 hv3 hv4 h2 h3
  have h1' : F.length ≤ c := h1
  generalize hF : F.length = n at *
  go_enter Try.func36, Try.ntmps36
  go_wp2_with fail
  have P := clone_any a F c w (by rw [hF]; exact h1') I.out Z.out (by show F.length ≤ _; exact (by first | exact hl | omega))
  rw [hF] at P
  with_reducible refine P.mono ?_
  clear P
  rintro e w2 ⟨v2, rfl, hr, hb⟩
  have R := Lib.hid hr
  have M := Lib.hid hb
  clear hr hb
  go_wp2_with fail
  go_ret2
  exact ⟨_, rfl, R.out, M.out⟩
set_option maxHeartbeats 1000000 in
theorem bytes_bad (B k : Nat) (s : List UInt8 × Int) (w : World) (h : OutAt w B k s) (hs : s.2 ≠ 0) :
    Calls Try.prog 36 #[.pointer (some ⟨k, 0, none⟩)] w fun e w' => e = .returned (.tuple #[.slice none 0 0, .int .i64 s.2]) ∧ Below w.heap.size w w' := by
  have c1 := h.fault
  have t1 : (s.2 == 0) = false := by simpa using hs
  generalize s.2 = er at *
  clear h hs
  go_enter Try.func36, Try.ntmps36
  go_wp2_with fail
  go_quiet (fail)
  go_wp2_with fail
  go_ret2
  exact ⟨rfl, below_drewN (Below.refl _ _) _⟩
/-- Bytes as a text, by the conversion. -/
theorem conv_string (w : World) (a : Option Addr) (l : List UInt8) (c : Nat) (h : bytesIn w a l) : (convert 40 9 (.slice a l.length c)).run Try.prog w = .ok (.string (str l)) w := by
  cases a with
  | none =>
    rcases h with rfl | ⟨_, _, h, _⟩
    · rw [run_convert_bytes_nil w 40 5 Try.underlying40 Try.underlying5 _ _ 9 Try.underlying9]
      rfl
    · cases h
  | some ad =>
    rw [run_convert_bytes_string w 40 9 5 _ _ _ Try.underlying40 Try.underlying5 Try.underlying9]
    have hl : (loadCells ad l.length).run Try.prog w = .ok ((l.map fun b => (V b)).map (Value.int .u8)).toArray w := by
      have := run_loadCells_list (P := Try.prog) w ad ((l.map fun b => (V b)).map (Value.int .u8)) (fun j v hj => by
        rcases h with rfl | ⟨bb, bo, h1, h2⟩
        · simp at hj
        · cases h1
          have hjl : j < l.length := by
            have := (List.getElem?_eq_some_iff.1 hj).1
            simpa using this
          rw [Addr.add_lit, h2 j hjl, ← hj]
          simp [hjl])
      simpa using this
    rw [run_bytesToString w ad l.length c (l.map fun b => (V b)) hl, foldl_push_bytes]
    congr 2
    unfold str
    simp only [V, ByteArray.empty, ByteArray.emptyWithCapacity, List.map_map]
    have e : ((fun n : Int => UInt8.ofNat n.toNat) ∘ fun b : UInt8 => (b.toNat : Int)) = id := by funext b; simp
    rw [e]
    simp
    rfl
theorem str_inj {a b : List UInt8} (h : str a = str b) : a = b := by
  have := congrArg (fun x => x.data.toList) h
  simpa [str] using this
end Go.Proofs.Ytjgmhaajcglpmaa
