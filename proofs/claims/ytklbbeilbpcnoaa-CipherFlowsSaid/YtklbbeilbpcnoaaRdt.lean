/- Hide of whatever comes; pour; a text copied into a block, in a region that draws. -/
import Derived.Test.YtklbbeilbpcnoaaRds
namespace Go.Proofs.Ytklbbeilbpcnoaa
open Go.RowKit Sha Aes

set_option maxRecDepth 100000 in
set_option maxHeartbeats 2000000 in
theorem hide_empty (fb g : Nat) (ws : List W) (N : List UInt8) (n : Nat) (a : Option Addr) (c : Nat) (ls : List (List UInt8)) (w : World) (hl : ls.length ≤ 100000) (h0 : ls.flatten = [])
    (hf : blockIs w fb (flowCells g N n) 65) (hp : partsB w a ls) :
    Calls Try.prog 18 #[.pointer (some ⟨fb, 0, none⟩), .slice a ls.length c] w fun e w' => ∃ v, e = .returned v ∧ ownB w' w.heap.size v (hideL ws N n ls.flatten) ∧ blockIs w' fb (flowCells g N (n + ls.flatten.length)) 65 ∧ But fb w w' := by
  have HC := Lib.hid (concat_any a c ls w hl (by rw [h0]; decide) hp)
  have hz := zeroBlk
  have HF := Lib.hid hf
  rw [h0] at HC ⊢
  have e1 : hideL ws N n [] = [] := rfl
  rw [e1, List.length_nil, Nat.add_zero]
  clear hp hf h0 e1
  generalize ls.length = nl at *
  go_enter Try.func18, Try.ntmps18
  go_wp2_with fail
  with_reducible refine HC.out.mono ?_
  rintro e w1 ⟨v, rfl, own, kk⟩
  obtain ⟨a', c', rfl, _⟩ := own.form
  have O2 : Hid (ownB (w1.alloc (.cells (zeros 16).toArray 23 (0, 0))) w.heap.size (.slice a' ([] : List UInt8).length c') []) := Lib.hid (World.ownsRow.alloc own _)
  have F2 : Hid (blockIs (w1.alloc (.cells (zeros 16).toArray 23 (0, 0))) fb (flowCells g N n) 65) := Lib.hid ((HF.out.below kk HF.out.lt).alloc _)
  have B2 : Hid (But fb w (w1.alloc (.cells (zeros 16).toArray 23 (0, 0)))) := Lib.hid ((But.of_below kk).trans (But.of_below (alloc_below w1 _)))
  clear own kk HC
  go_wp2_with fail
  generalize w1.alloc (.cells (zeros 16).toArray 23 (0, 0)) = w2 at *
  go_loopw [15] (fun i wr => i = .int .i64 0 ∧ w2 = wr) (fun _ _ => 0)
  case atStart => exact ⟨rfl, rfl⟩
  case round =>
    obtain ⟨rfl, rfl⟩ := hrel
    go_wp2_with fail
    go_ret
    exact ⟨_, rfl, O2.out, F2.out, B2.out⟩
/-- Hide, whatever is handed in. -/
theorem hide_any (fb g : Nat) (ws : List W) (N : List UInt8) (n : Nat) (a : Option Addr) (c : Nat) (ls : List (List UInt8)) (w : World) (hN : N.length = 16) (hn : n ≤ 1099511627776) (hl : ls.length ≤ 100000) (hm : ls.flatten.length ≤ 900000)
    (hf : blockIs w fb (flowCells g N n) 65) (hk : blockIs w g (keyRow ws) 59) (hfg : fb ≠ g) (hp : partsB w a ls) :
    Calls Try.prog 18 #[.pointer (some ⟨fb, 0, none⟩), .slice a ls.length c] w fun e w' => ∃ v, e = .returned v ∧ ownB w' w.heap.size v (hideL ws N n ls.flatten) ∧ blockIs w' fb (flowCells g N (n + ls.flatten.length)) 65 ∧ But fb w w' := by
  by_cases h0 : ls.flatten = []
  · exact hide_empty fb g ws N n a c ls w hl h0 hf hp
  · exact hide_some fb g ws N n a c ls w hN hn hl hm h0 hf hk hfg hp
theorem hideL_length (ws : List W) (N : List UInt8) (n : Nat) (l : List UInt8) : (hideL ws N n l).length = l.length := by simp [hideL]
/-- From a block on it is the flow of the number so many further. -/
theorem hide_further (ws : List W) (N : List UInt8) (s : Nat) (l : List UInt8) (hN : N.length = 16) : hideL ws N (16 * s) l = hideL ws (plus N s) 0 l := by
  have e : ∀ i, sb ws N (16 * s + i) = sb ws (plus N s) (0 + i) := fun i => by
    unfold sb
    rw [plus_plus N s ((0 + i) / 16) hN, show s + (0 + i) / 16 = (16 * s + i) / 16 by omega, show (0 + i) % 16 = (16 * s + i) % 16 by omega]
  unfold hideL
  exact List.map_congr_left fun i _ => by rw [e i]

set_option maxRecDepth 100000 in
set_option maxHeartbeats 4000000 in
theorem pour_any (K N : List UInt8) (p : Int) (a : Option Addr) (c : Nat) (F : List UInt8) (w : World) (hK : K.length = 32) (hN : N.length = 16) (hF : F.length ≤ c) :
    Calls Try.prog 21 #[.agg (pourCells K N p (.slice a F.length c)).toArray] w fun e w' => e = .returned (.slice a (F.take 150).length c) ∧ Below w.heap.size w w' := by
  have c49 : Hid ((pourCells K N p (.slice a F.length c))[49]? = some (.slice a F.length c)) := Lib.hid (by
    unfold pourCells
    rw [List.getElem?_append_right (by rw [byteCells_length]; omega), byteCells_length, hK, List.getElem?_append_right (by rw [byteCells_length]; omega), byteCells_length, hN]; rfl)
  have G1 := Lib.hid (blockIs.new w (pourCells K N p (.slice a F.length c)) 45)
  have B1 := Lib.hid (alloc_below w (.cells (pourCells K N p (.slice a F.length c)).toArray 45 (0, 0)))
  generalize pourCells K N p (.slice a F.length c) = C at *
  have d1 : (w.alloc (.cells C.toArray 45 (0, 0))).cell? ⟨w.heap.size, 49, none⟩ = some (.slice a F.length c) := by rw [G1.out.cell]; exact c49.out
  go_enter Try.func21, Try.ntmps21
  go_upto_region 1 with fail
  generalize w.alloc (.cells C.toArray 45 (0, 0)) = w1 at *
  go_cut [2] (fun v wx => v = .slice a (F.take 150).length c ∧ w1 = wx)
  case first =>
    go_wp2_with fail
    all_goals
      go_meet
      case rel => exact ⟨by congr 1; rw [List.length_take]; omega, rfl⟩
  obtain ⟨rfl, rfl⟩ := hcut
  go_wp2_with fail
  go_ret
  exact ⟨rfl, B1.out⟩
theorem step_copy_text {P : Program} {w : World} {ops : Array Oper} {o : Oper} {a : Act} {K : Act → World → Prop} {Q : Exit → Act → World → Prop} {E : Prop} (hgd : o.guard = none) (d s : Operand) (dT sT : TypeId)
    (ho : o.op = .call { callee := .builtin .copy, args := #[d, s], argTypes := #[dT, sT] }) (elem : TypeId) (hu : P.underlying dT = some (.slice elem)) (hsz : (P.info? elem).map (·.size) = some 1)
    (g off dLen dCap : Nat) (hd : a.eval d = .slice (some ⟨g, off, none⟩) dLen dCap) (l : List UInt8) (hs : a.eval s = .string (str l)) (cur : List Value) (t : TypeId) (hg : blockIs w g cur t) (hn : l.length ≤ dLen)
    (hfit : off + l.length ≤ cur.length)
    (h : ∀ w', Hid (blockIs w' g (splice cur off (byteCells l)) t) → Hid (But g w w') → K (a.put o.dst (goInt l.length)) w') :
    if Region.wanted o (yielded ops a.tmps) = true then Oper.wp P o a w K Q else E := by
  have hw : Region.wanted o (yielded ops a.tmps) = true := by simp [Region.wanted, hgd]
  rw [if_pos hw]
  have hst := run_storeCells_at P g off t (byteCells l) 0 cur.toArray w hg (by simpa [byteCells_length] using hfit) (byteCells_one l)
  have hz : ∀ w, (Go.sizeOf elem).run P w = .ok 1 w := fun w => by
    cases hq : P.info? elem with
    | none => simp [hq] at hsz
    | some i =>
      have : i.size = 1 := by simpa [hq] using hsz
      simp [sizeOf, typeInfo, hq, this]
  have hmin : Nat.min (str l).size dLen = l.length := by rw [str_size]; exact Nat.min_eq_left hn
  have hcs : ((str l).data.toList.map fun x => Value.int .u8 (x.toNat : Int)) = byteCells l := rfl
  have hrun : (Builtin.copy_ #[dT, sT] o.type #[.slice (some ⟨g, off, none⟩) dLen dCap, .string (str l)]).run P w = .ok (goInt l.length) (w.setRow g (splice cur off (byteCells l)).toArray) := by
    simp only [Nat.add_zero] at hst
    simp [Builtin.copy_, run_underlying hu, Builtin.lenOf, Builtin.firstCells, hz, hmin]
    rw [hcs, List.take_of_length_le (by rw [byteCells_length]; exact Nat.le_refl _), hst]
    simp [splice]
  unfold Oper.wp
  simp [execOp, ho, resolve, invoke, builtin, hd, hs, hrun, Result.andThen]
  exact h _ (show _ = _ by simpa using setRow_heap w g _ _ t _ hg) ⟨rfl, rfl, rfl, by simp [World.setRow], fun k _ hk => setRow_other w g k _ hk⟩
end Go.Proofs.Ytklbbeilbpcnoaa
