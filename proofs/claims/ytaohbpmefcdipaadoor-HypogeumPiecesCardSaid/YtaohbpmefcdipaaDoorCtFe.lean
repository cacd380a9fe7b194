/- Bytes as texts; the contract of End. -/
import Derived.Test.YtaohbpmefcdipaaDoorCtFa
import Derived.Lib.ConvBytes
namespace Go.Proofs.YtaohbpmefcdipaaDoor.Ct
open Go.RowKit

def str (l : List UInt8) : ByteArray := ⟨l.toArray⟩
theorem str_size (l : List UInt8) : (str l).size = l.length := by simp [str, ByteArray.size]
theorem str_toList (l : List UInt8) : (str l).toList = l := by
  rw [ByteArray.toList_eq]; simp [str]
/-- Bytes as a text, by the conversion. -/
theorem conv_string (w : World) (a : Option Addr) (l : List UInt8) (c : Nat) (h : bytesIn w a l) : (convert 22 9 (.slice a l.length c)).run Tryd.prog w = .ok (.string (str l)) w := by
  cases a with
  | none =>
    rcases h with rfl | ⟨_, _, h, _⟩
    · rw [run_convert_bytes_nil w 22 5 Tryd.underlying22 Tryd.underlying5 _ _ 9 Tryd.underlying9]
      rfl
    · cases h
  | some ad =>
    rw [run_convert_bytes_string w 22 9 5 _ _ _ Tryd.underlying22 Tryd.underlying5 Tryd.underlying9]
    have hl : (loadCells ad l.length).run Tryd.prog w = .ok ((l.map fun b => (V b)).map (Value.int .u8)).toArray w := by
      have := run_loadCells_list (P := Tryd.prog) w ad ((l.map fun b => (V b)).map (Value.int .u8)) (fun j v hj => by
        rcases h with rfl | ⟨bb, bo, h1, h2⟩
        · simp at hj
        · cases h1
          have hjl : j < l.length := by
            have := (List.getElem?_eq_some_iff.1 hj).1
            simpa using this
          rw [Addr.add_lit, h2 j hjl, ← hj]
          simp [hjl])
      simpa using this
    rw [run_bytesToString w ad l.length c (l.map fun b => (V b)) hl, foldl_push_bytes]
    congr 2
    unfold str
    simp only [V, ByteArray.empty, ByteArray.emptyWithCapacity, List.map_map]
    have e : ((fun n : Int => UInt8.ofNat n.toNat) ∘ fun b : UInt8 => (b.toNat : Int)) = id := by funext b; simp
    rw [e]
    simp
    rfl
theorem str_inj {a b : List UInt8} (h : str a = str b) : a = b := by
  have := congrArg (fun x => x.data.toList) h
  simpa [str] using this

set_option maxRecDepth 100000 in
theorem kclear_any (k g b : Nat) (r : Rl) (pv : Value) (L : List UInt8) (w : World) (h : KnifeAt w k g b r pv L) :
    Calls Tryd.prog 33 #[.pointer (some ⟨k, 0, none⟩)] w fun e w' => e = .returned (.tuple #[]) ∧ KnifeAt w' k g b r pv (List.replicate L.length 0) ∧ But2 g b w w' := by
  obtain ⟨c0, -⟩ := kn_cells h.kn
  have H := Lib.hid h
  clear h
  go_enter Tryd.func33, Tryd.ntmps33
  go_wp2_with fail
  with_reducible refine (clear_any g b r.poly L w H.out.roll).mono ?_
  rintro e w1 ⟨rfl, hr, hb⟩
  have R1 := Lib.hid hr
  have B1 := Lib.hid hb
  clear hr hb
  go_wp2_with fail
  go_end0
  exact ⟨rfl, ⟨H.out.ok, blockIs.but2 B1.out H.out.kn H.out.kg H.out.kb, R1.out, H.out.kg, H.out.kb⟩, B1.out⟩
set_option maxRecDepth 100000 in
theorem end_any (k g b B Bp : Nat) (r : Rl) (pv : Value) (L P : List UInt8) (w : World) (h : KnifeAt w k g b r pv L) (hf : fitW L P) (hr : rowIs w Bp pv P) (hB : B ≤ Bp) (hk : k < B) (hg : g < B) (hb : b < B) :
    Calls Tryd.prog 19 #[.pointer (some ⟨k, 0, none⟩)] w fun e w' => e = .returned (.tuple #[pv, .bool (decide (0 < P.length))]) ∧ KnifeAt w' k g b r (.slice none 0 0) (List.replicate 64 0) ∧ rowIs w' Bp pv P ∧ ButF k g b B w w' := by
  have HK := Lib.hid h
  have HFT := Lib.hid hf
  have HR := Lib.hid hr
  have HKB := Lib.hid (show k < B ∧ g < B ∧ b < B ∧ B ≤ Bp from ⟨hk, hg, hb, hB⟩)
  obtain ⟨va, vc, rfl, -, -, -⟩ := hr.bytes
  clear h hf hr hk hg hb hB
  obtain ⟨-, -, -, -, -, c5⟩ := kn_cells HK.out.kn
  have f5 := HK.out.kn.free 5
  have K1 := Lib.hid (HK.out.put (.slice none 0 0))
  have R1 := Lib.hid (rowV.is (rowV.set (a := ⟨k, 5, none⟩) HR.out.v (Nat.lt_of_lt_of_le HKB.out.1 HKB.out.2.2.2) (.slice none 0 0)))
  have M1 := Lib.hid ((ButF.refl k g b B w).setCell 5 (.slice none 0 0))
  clear HK HR
  go_enter Tryd.func19, Tryd.ntmps19
  go_wp2_with fail
  with_reducible refine (kclear_any k g b r _ L _ K1.out).mono ?_
  rintro e w1 ⟨rfl, hk2, hb2⟩
  have K2 := Lib.hid hk2
  have R2 := Lib.hid (rowV.is (R1.out.v.kept hb2 (Nat.lt_of_lt_of_le HKB.out.2.1 HKB.out.2.2.2) (Nat.lt_of_lt_of_le HKB.out.2.2.1 HKB.out.2.2.2)))
  have M2 := Lib.hid (M1.out.trans (ButF.of_but2 hb2))
  clear hk2 hb2 K1 R1 M1
  have e64 := HFT.out.1
  rw [e64] at K2
  clear e64
  go_wp2_with fail
  go_ret2
  refine ⟨?_, K2.out, R2.out, M2.out⟩
  by_cases h0 : 0 < P.length
  · have h1 : (0 : Int) < (P.length : Int) := by omega
    simp [h0]
  · have h1 : ¬ (0 : Int) < (P.length : Int) := by omega
    simp [h0]
end Go.Proofs.YtaohbpmefcdipaaDoor.Ct
