/- (pack.Writer).Close. -/
import Derived.Test.YtfhlcondnaahiaaDoorPh
namespace Go.Proofs.YtfhlcondnaahiaaDoor
open Go.RowKit Sha

theorem results_tmp4 {fn : Func} {t u v x : Tmp} (h : fn.results = #[.tmp t, .tmp u, .tmp v, .tmp x]) (tmps : Array Value) (P : Program) (w : World) :
    (results fn tmps).run P w = .ok (.tuple #[tmps.getD t undef, tmps.getD u undef, tmps.getD v undef, tmps.getD x undef]) w := by
  simp [results, h]
theorem parts_one_but {X : World} {g q n c tb : Nat} {l : List UInt8} (hg : X.cell? ⟨g, 0, none⟩ = some (.slice (some ⟨q, 0, none⟩) n c)) (hn : n = l.length) (hc : n ≤ c ∧ c ≤ 9223372036854775807) (hb : bytesIn X (some ⟨q, 0, none⟩) l) (h1 : g ≠ tb) (h2 : q ≠ tb) (Y : World) (k : But tb X Y) : partsW Y (some ⟨g, 0, none⟩) [l] := by
  refine Or.inr ⟨g, 0, rfl, fun j hj => ?_⟩
  obtain rfl : j = 0 := by simpa using hj
  refine ⟨some ⟨q, 0, none⟩, c, ?_, hn ▸ hc.1, hc.2, (fun h => by cases h), ?_⟩
  · have := k.cell hg h1
    rw [hn] at this
    exact this
  · rcases hb with h | ⟨b, o, e, hcell⟩
    · exact Or.inl h
    · cases e
      exact Or.inr ⟨_, _, rfl, fun i hi => k.cell (hcell i hi) h2⟩
set_option maxRecDepth 100000 in
theorem close_none (wb : Nat) (PC : List Value) (v1 v2 m : Value) (base : Nat) (X : World) (hPC : PC.length = 97) (hI : blockIs X wb (PC ++ [v1, v2, m]) 80) (h : X.ownsRow base 66 35 v2 0 []) :
    Calls Tryd.prog 9 #[.pointer (some ⟨wb, 0, none⟩)] X fun e w' => e = .returned (.tuple #[.string (str []), .slice none 0 0, .slice none 0 0, .int .i64 15]) ∧ X = w' := by
  have CN := count_any wb PC v1 v2 m base 0 _ X hPC hI h
  clear h hI
  go_enter Tryd.func9, Tryd.ntmps9
  go_wp2_with (with_reducible refine CN.mono ?_; rintro e y3 ⟨rfl, rfl⟩)
  refine bodyPost_ret (v := .tuple #[.string (str []), .slice none 0 0, .slice none 0 0, .int .i64 15]) (results_tmp4 (t := 2) (u := 3) (v := 4) (x := 5) rfl _ _ _) rfl ?_
  exact ⟨rfl, rfl⟩

end Go.Proofs.YtfhlcondnaahiaaDoor
