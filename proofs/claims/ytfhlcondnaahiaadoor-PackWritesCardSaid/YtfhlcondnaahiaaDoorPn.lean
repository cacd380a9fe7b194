/- pack.Name. -/
import Derived.Test.YtfhlcondnaahiaaDoorPh
namespace Go.Proofs.YtfhlcondnaahiaaDoor
open Go.RowKit Sha

def packName (b : List UInt8) : List UInt8 := [112, 47] ++ (hexL (sha b)).take 40
theorem str_size' (l : List UInt8) : (str l).size = l.length := by simp [str, ByteArray.size]
theorem str_take40 (T : List UInt8) (h : 40 ≤ T.length) (w : World) : (Instr.slice 9 (.string (str T)) none (some (.int .i64 40)) none).run Tryd.prog w = .ok (.string (str (T.take 40))) w := by
  have := run_slice_string_h (P := Tryd.prog) w 9 (str T) Tryd.underlying9 .i64 40 (by omega) (by rw [str_size']; omega)
  have e : (str T).extract 0 40 = str (T.take 40) := by
    apply ByteArray.ext
    rw [ByteArray.data_extract]
    apply Array.toList_inj.1
    simp [str]
  rw [this]
  exact congrArg (fun x => Result.ok (Value.string x) w) e
theorem name_glue (X : List UInt8) : (⟨#[112, 47]⟩ : ByteArray) ++ str X = str ([112, 47] ++ X) := by
  apply ByteArray.ext
  apply Array.ext'
  simp [str]
set_option maxRecDepth 100000 in
theorem name_any (a : Option Addr) (c : Nat) (l : List UInt8) (w : World) (h : Pt.ok w ⟨a, c, l⟩) (hl : l.length ≤ 1000000) (ht : tables w) :
    Calls Tryd.prog 23 #[.slice a l.length c] w fun e w' => e = .returned (.string (str (packName l))) ∧ Below w.heap.size w w' := by
  have OF := of_lit w [⟨a, c, l⟩] ht (fun p hp => by rw [List.mem_singleton.1 hp]; exact h) (by simpa using hl) (by simp) 1 rfl #[.slice a l.length c] rfl w (Below.refl _ _)
  rw [show ([⟨a, c, l⟩] : List Pt).map Pt.l = [l] from rfl, show [l].flatten = l by simp] at OF
  have h32 : (sha l).length = 32 := sha_length _
  have TX := Lib.hid (fun X => stext_any (sha l) X h32)
  have cut := str_take40 (hexL (sha l)) (by rw [hexL_length, h32]; omega)
  have glue := name_glue ((hexL (sha l)).take 40)
  have gz : (str ((hexL (sha l)).take 40)).size = 40 := by rw [str_size', List.length_take, hexL_length, h32]; rfl
  unfold packName
  generalize sha l = D at *
  clear h hl ht
  go_enter Tryd.func23, Tryd.ntmps23
  go_wp2_with (with_reducible refine OF.mono ?_; rintro e w2 ⟨rfl, kb⟩)
  have TX2 := TX.out w2
  clear TX OF
  go_wp2_with (with_reducible refine TX2.mono ?_; rintro e w3 ⟨rfl, kb2⟩)
  go_wp2_with fail
  go_ret
  exact ⟨rfl, kb.trans (kb2.mono kb.size)⟩
end Go.Proofs.YtfhlcondnaahiaaDoor
