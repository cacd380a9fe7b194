/- pack: isKind, sizeOf, tellCount, Name. -/
import Derived.Test.YtfhlcondnaahiaaDoorGc
namespace Go.Proofs.YtfhlcondnaahiaaDoor
open Go.RowKit Sha

set_option maxRecDepth 100000 in
theorem isKind_yes (kd : Int) (h : kd = 1 ∨ kd = 2) (w : World) :
    Calls Tryd.prog 24 #[.int .i64 kd] w fun e w' => e = .returned (.bool true) ∧ w = w' := by
  rcases h with rfl | rfl
  all_goals
    go_enter Tryd.func24, Tryd.ntmps24
    go_wp2_with fail
    go_ret
    exact ⟨rfl, rfl⟩
/-- How many bytes a blob of these parts has, as sizeOf tells. -/
def sizeR (n : Nat) : Value := if n ≤ 131072 then .tuple #[.int .i64 (n : Int), .bool true] else .tuple #[.int .i64 0, .bool false]
set_option maxRecDepth 100000 in
set_option maxHeartbeats 1000000 in
theorem sizeOf_any (a : Option Addr) (c : Nat) (ls : List (List UInt8)) (w : World) (hl : ls.length ≤ 1000000) (hp : partsIn w a ls) :
    Calls Tryd.prog 25 #[.slice a ls.length c] w fun e w' => e = .returned (sizeR ls.flatten.length) ∧ w = w' := by
  have HP := Lib.hid hp
  obtain ⟨B, hB⟩ : ∃ B, B = sizeR ls.flatten.length := ⟨_, rfl⟩
  rw [← hB]
  have HB := Lib.hid hB
  clear hp hB
  go_enter Tryd.func25, Tryd.ntmps25
  go_wp2_with fail
  go_loopw [9, 4] (fun i v wr => ∃ k s : Nat, k ≤ ls.length ∧ i = .int .i64 k ∧ (ls.take k).flatten.length = s ∧ s ≤ 131072 ∧ v = .int .i64 (s : Int) ∧ w = wr) (fun i _ _ => ls.length - (intOf i).toNat)
  case atStart => exact ⟨0, 0, by omega, rfl, rfl, by omega, rfl, rfl⟩
  case round =>
    obtain ⟨k, s, hk, rfl, hs, hs2, rfl, rfl⟩ := hrel
    by_cases hlt : k < ls.length
    · rcases HP.out with h0 | ⟨pb, po, rfl, hpp⟩
      · simp [h0] at hlt
      obtain ⟨aj, cj, hcell, hlc, hcc, hin⟩ := hpp k hlt
      have hle := flatten_le2 ls k hlt
      have HFT : Hid ((ls.take (k + 1)).flatten.length = (ls.take k).flatten.length + (ls.getD k []).length) := Lib.hid (by rw [flatten_take ls k hlt, List.length_append])
      clear hpp hin
      have p : 0 ≤ (k : Int) := by omega
      have q : (k : Int) < (ls.length : Int) := by omega
      generalize (ls.getD k []).length = L at *
      have HS := Lib.hid hs
      have HLE := Lib.hid hle
      have e1 : IntKind.i64.wrap (131072 - (s : Int)) = 131072 - (s : Int) := by rw [IntWalk.i64_in _ (by omega)]
      clear hs hle
      by_cases hgt : 131072 < s + L
      · have g1 : (131072 : Int) - (s : Int) < (L : Int) := by omega
        have hd : sizeR ls.flatten.length = .tuple #[.int .i64 0, .bool false] := by
          unfold sizeR
          rw [if_neg]
          have := HS.out
          have := HLE.out
          omega
        have HD : Hid (B = _) := Lib.hid (HB.out.trans hd)
        clear hd hgt
        go_wp2_with fail
        refine bodyPost_ret (v := B) ((results_tmp2 (t := 2) (u := 3) rfl _ _ _).trans ?_) rfl ?_
        · rw [HD.out]; rfl
        · exact ⟨rfl, rfl⟩
      · have g1 : ¬ (131072 : Int) - (s : Int) < (L : Int) := by omega
        have g2 : IntKind.i64.wrap ((s : Int) + (L : Int)) = ((s + L : Nat) : Int) := by
          rw [IntWalk.i64_in _ (by omega)]; omega
        go_wp2_with fail
        go_roundw
        case rel =>
          refine ⟨k + 1, s + L, by omega, by go_num, by have := HS.out; have := HFT.out; omega, by omega, ?_⟩
          exact ⟨rfl, trivial⟩
        case measure => simp [intOf]; omega
    · have hd : sizeR ls.flatten.length = .tuple #[.int .i64 (s : Int), .bool true] := by
        rw [List.take_of_length_le (by omega)] at hs
        unfold sizeR
        rw [hs, if_pos hs2]
      have HD : Hid (B = _) := Lib.hid (HB.out.trans hd)
      clear hd
      have q : ¬ (k : Int) < (ls.length : Int) := by omega
      clear hs
      go_wp2_with fail
      refine bodyPost_ret (v := B) ((results_tmp2 (t := 2) (u := 3) rfl _ _ _).trans ?_) rfl ?_
      · rw [HD.out]; rfl
      · exact ⟨rfl, rfl⟩
theorem wrap8 (n p : Nat) : IntKind.u8.wrap ((n : Int) / (p : Int)) = V (UInt8.ofNat (n / p)) := by
  rw [IntKind.wrap_u8']
  have : (V (UInt8.ofNat (n / p))) = ((n / p % 256 : Nat) : Int) := by unfold V; simp
  rw [this, Int.natCast_emod, Int.natCast_ediv]
  rfl
end Go.Proofs.YtfhlcondnaahiaaDoor
