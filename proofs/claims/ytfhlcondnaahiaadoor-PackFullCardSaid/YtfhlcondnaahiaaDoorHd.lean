/- Numbers as bytes: plain words. -/
import Derived.Test.YtfhlcondnaahiaaDoorGlBase
import Derived.Lib.AppendStr
import Derived.Lib.SliceRun
section
namespace Go.Proofs.YtfhlcondnaahiaaDoor.Gl
open Go.RowKit

/-- A number's bytes: seven bits each, the lowest first. -/
def numBytes (n : Nat) : List UInt8 := if _h : n < 128 then [UInt8.ofNat n] else UInt8.ofNat (n % 128 + 128) :: numBytes (n / 128)
termination_by n
decreasing_by omega
end Go.Proofs.YtfhlcondnaahiaaDoor.Gl
end
section
/- A writer in memory; the contracts of Begin, takes, number. -/
namespace Go.Proofs.YtfhlcondnaahiaaDoor.Gl
open Go.RowKit

/-- Block k is a writer that holds these bytes, and this fault; all that is its own is above B. -/
def OutAt (w : World) (B k : Nat) (s : List UInt8 × Int) : Prop := ∃ v, B ≤ k ∧ blockIs w k [v, .int .i64 s.2] 144 ∧ rowIs w B v s.1 ∧ ∀ g, v.ownBlock = some g → g ≠ k
theorem OutAt.below {w w' : World} {B k : Nat} {s : List UInt8 × Int} (h : OutAt w B k s) (hb : Below w.heap.size w w') : OutAt w' B k s := by
  obtain ⟨v, h1, h2, h3, h4⟩ := h
  exact ⟨v, h1, h2.below hb h2.lt, rowIs.below h3 hb (Nat.le_refl _), h4⟩
theorem OutAt.mono {w : World} {B B' k : Nat} {s : List UInt8 × Int} (h : OutAt w B k s) (hb : B' ≤ B) : OutAt w B' k s := by
  obtain ⟨v, h1, h2, h3, h4⟩ := h
  exact ⟨v, by omega, h2, rowIs.mono h3 hb, h4⟩
theorem OutAt.fault {w : World} {B k : Nat} {s : List UInt8 × Int} (h : OutAt w B k s) : w.cell? ⟨k, 1, none⟩ = some (.int .i64 s.2) := by
  obtain ⟨v, h1, h2, h3, h4⟩ := h
  rw [h2.cell]; rfl
theorem OutAt.lt {w : World} {B k : Nat} {s : List UInt8 × Int} (h : OutAt w B k s) : B ≤ k ∧ k < w.heap.size := by
  obtain ⟨v, h1, h2, h3, h4⟩ := h
  exact ⟨h1, h2.lt⟩
end Go.Proofs.YtfhlcondnaahiaaDoor.Gl
end
section
/- The contracts of number and Num. -/
namespace Go.Proofs.YtfhlcondnaahiaaDoor.Gl
open Go.RowKit

/-- Blocks of other things than bytes are as they were, but block k. -/
def KeptT (k : Nat) (w w' : World) : Prop := w.heap.size ≤ w'.heap.size ∧ ∀ j, j < w.heap.size → j ≠ k → (∀ cur fz, w.heap[j]? ≠ some (.cells cur 5 fz)) → w'.heap[j]? = w.heap[j]?
theorem KeptT.refl (k : Nat) (w : World) : KeptT k w w := ⟨Nat.le_refl _, fun _ _ _ _ => rfl⟩
theorem KeptT.trans {k : Nat} {x y z : World} (h : KeptT k x y) (g : KeptT k y z) : KeptT k x z :=
  ⟨Nat.le_trans h.1 g.1, fun j hj hk ht => by
    have e := h.2 j hj hk ht
    exact (g.2 j (Nat.lt_of_lt_of_le hj h.1) hk (fun cur fz => by rw [e]; exact ht cur fz)).trans e⟩
theorem KeptT.setCell {k : Nat} {x y : World} (h : KeptT k x y) (o : Nat) (v : Value) : KeptT k x (y.setCell ⟨k, o, none⟩ v) :=
  ⟨by simpa [World.setCell] using h.1, fun j hj hk ht => by
    rw [heap_setCell_other y ⟨k, o, none⟩ j v hk]
    exact h.2 j hj hk ht⟩
theorem KeptT.alloc {k : Nat} {x y : World} (h : KeptT k x y) (o : Obj) : KeptT k x (y.alloc o) :=
  ⟨Nat.le_trans h.1 (by simp), fun j hj hk ht => by
    rw [Below.heap_alloc y o j (Nat.lt_of_lt_of_le hj h.1)]
    exact h.2 j hj hk ht⟩
theorem KeptT.grown {k B : Nat} {w w' : World} {v : Value} {F : List UInt8} (hr : rowIs w B v F) (hg : w.grownBy w' v.ownBlock) : KeptT k w w' :=
  ⟨hg.size, fun j hj _ ht => hg.block j hj (fun e => by
    rcases hr.2 with ⟨rfl, h0⟩ | ⟨g', cap, cur, rfl, hba, hh, hn, hc, hs, htt⟩
    · cases e
    · cases e
      exact ht _ _ hh)⟩
theorem KeptT.is {k b : Nat} {w w' : World} {cs : List Value} {t : TypeId} (h : KeptT k w w') (hb : blockIs w b cs t) (hk : b ≠ k) (ht : t ≠ 5) : blockIs w' b cs t := by
  unfold blockIs at hb ⊢
  rw [h.2 b (Array.getElem?_eq_some_iff.1 hb).1 hk (fun cur fz e => by rw [hb] at e; simp at e; exact ht e.2.1)]
  exact hb
theorem KeptT.of_below {k B : Nat} {w w' : World} (h : Below w.heap.size w w') : KeptT k w w' := ⟨h.size, fun j hj _ _ => h.block j hj⟩
end Go.Proofs.YtfhlcondnaahiaaDoor.Gl
end
section
/- The contracts of text, Text and Flag. -/
namespace Go.Proofs.YtfhlcondnaahiaaDoor.Gl
open Go.RowKit

/-- Bytes as a text. -/
def str (l : List UInt8) : ByteArray := ⟨l.toArray⟩
theorem str_size (l : List UInt8) : (str l).size = l.length := by simp [str, ByteArray.size]
end Go.Proofs.YtfhlcondnaahiaaDoor.Gl
end
section
/- The contracts of Clone and Bytes; texts of bytes. -/
namespace Go.Proofs.YtfhlcondnaahiaaDoor.Gl
open Go.RowKit

set_option maxRecDepth 100000 in
set_option maxHeartbeats 1000000 in
theorem clone_any (a : Option Addr) (l : List UInt8) (c : Nat) (w : World) (hlc : l.length ≤ c) (h : bytesIn w a l) (hz : a = none → c = 0) (hl : l.length ≤ 900000000) :
    Calls Tryd.prog 54 #[.slice a l.length c] w fun e w' => ∃ v, e = .returned v ∧ rowIs w' w.heap.size v l ∧ Below w.heap.size w w' := by
  have q := fun (w : World) (a : Option Addr) (n c n' c' : Nat) => Go.Lib.run_eql_slice_nil (P := Tryd.prog) w 30 _ a n c n' c' Tryd.underlying30
  have H := Lib.hid h
  have Z := Lib.hid hz
  cases a with
  | none =>
    obtain rfl : l = [] := by
      rcases h with h0 | ⟨b, o', h1, _⟩
      · exact h0
      · cases h1
    obtain rfl := hz rfl
    clear h hz
    go_enter Tryd.func54, Tryd.ntmps54
    go_wp2_with fail
    go_ret
    exact ⟨_, rfl, World.ownsRow_nil _ _ _ _, Below.refl _ _⟩
  | some ad =>
    clear h hz
    go_enter Tryd.func54, Tryd.ntmps54
    go_wp2_with (at_builtin; refine append_bytes rfl _ _ rfl w.heap.size _ [] rfl (rowIs.empty _ _ (Nat.le_refl _)) (some ad) _ c l rfl rfl (fun h => by cases h) (H.out.below ((Below.refl w.heap.size w).alloc (Nat.le_refl _) _) (Nat.le_refl _)) (by simp; omega) (by simp) ?_)
    intro v1 w1 hown hgr
    have M := Lib.hid (((Below.refl w.heap.size w).alloc (Nat.le_refl _) _).trans ((rowIs.empty w w.heap.size (Nat.le_refl _)).grew (by simp) hgr))
    have R := Lib.hid hown
    clear hown hgr
    go_wp2_with fail
    go_ret
    exact ⟨_, rfl, R.out, M.out⟩
/-- Bytes as a text, by the conversion. -/
theorem conv_string (w : World) (a : Option Addr) (l : List UInt8) (c : Nat) (h : bytesIn w a l) : (convert 30 9 (.slice a l.length c)).run Tryd.prog w = .ok (.string (str l)) w := by
  cases a with
  | none =>
    rcases h with rfl | ⟨_, _, h, _⟩
    · rw [run_convert_bytes_nil w 30 5 Tryd.underlying30 Tryd.underlying5 _ _ 9 Tryd.underlying9]
      rfl
    · cases h
  | some ad =>
    rw [run_convert_bytes_string w 30 9 5 _ _ _ Tryd.underlying30 Tryd.underlying5 Tryd.underlying9]
    have hl : (loadCells ad l.length).run Tryd.prog w = .ok ((l.map fun b => (V b)).map (Value.int .u8)).toArray w := by
      have := run_loadCells_list (P := Tryd.prog) w ad ((l.map fun b => (V b)).map (Value.int .u8)) (fun j v hj => by
        rcases h with rfl | ⟨bb, bo, h1, h2⟩
        · simp at hj
        · cases h1
          have hjl : j < l.length := by
            have := (List.getElem?_eq_some_iff.1 hj).1
            simpa using this
          rw [Addr.add_lit, h2 j hjl, ← hj]
          simp [hjl])
      simpa using this
    rw [run_bytesToString w ad l.length c (l.map fun b => (V b)) hl, foldl_push_bytes]
    congr 2
    unfold str
    simp only [V, ByteArray.empty, ByteArray.emptyWithCapacity, List.map_map]
    have e : ((fun n : Int => UInt8.ofNat n.toNat) ∘ fun b : UInt8 => (b.toNat : Int)) = id := by funext b; simp
    rw [e]
    simp
    rfl
end Go.Proofs.YtfhlcondnaahiaaDoor.Gl
end
section
/- The contract of glyphs; literals as arguments. -/
namespace Go.Proofs.YtfhlcondnaahiaaDoor.Gl
open Go.RowKit

theorem OutAt.alloc {w : World} {B k : Nat} {s : List UInt8 × Int} (h : OutAt w B k s) (o : Obj) : OutAt (w.alloc o) B k s := h.below ((Below.refl _ _).alloc (Nat.le_refl _) _)
end Go.Proofs.YtfhlcondnaahiaaDoor.Gl
end
