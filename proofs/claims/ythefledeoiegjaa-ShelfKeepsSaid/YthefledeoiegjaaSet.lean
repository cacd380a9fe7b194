/- The contracts of set, has, IsName. -/
import Derived.Test.YthefledeoiegjaaSt
import Derived.WalkSpells
import Derived.Test.YthefledeoiegjaaShelf
import Derived.Lib.ConvBytes
import Derived.Maps.Own
import Derived.Maps.OwnOps
import Derived.Maps.OwnSet
namespace Go.Proofs.Ythefledeoiegjaa
open Go.RowKit Go.MapKept
open Go.ChangeMaps (setBlock)

theorem but_setBlock {w : World} {g : Nat} {o o' : Obj} (_h : w.heap[g]? = some o) : But g w (setBlock w g o') :=
  ⟨rfl, rfl, rfl, by simp [setBlock], fun k _ hk => by simp [setBlock, Ne.symm hk]⟩
section
variable {w : World} {ops : Array Oper} {rest : List Oper} {o : Oper} {a : Act} {Q : Exit → Act → World → Prop}
theorem at_put (hg : o.guard = none) (x y z : Operand) (hop : o.op = Op.mapUpdate 48 x y z) (g : Nat) (L : List Ent) (n : List UInt8) (ob : Ob)
    (hx : a.eval x = .map (some g)) (hy : a.eval y = .string (str n)) (hz : a.eval z = .agg #[.string (str ob.1), .bool ob.2]) (h : mapIs w g L)
    (hK : ∀ w', Hid (mapIs w' g (put L n ob)) → Hid (But g w w') → wpList Try.prog ops Q rest (a.put o.dst undef) w') : wpList Try.prog ops Q (o :: rest) a w := by
  refine wpList_plain hg fun K' hK' => ?_
  obtain ⟨es, clock, hrun, h2⟩ := run_put h n ob
  have hb : ∃ o', w.heap[g]? = some o' := by
    obtain ⟨es0, c0, h1, _⟩ := h
    exact ⟨_, h1⟩
  obtain ⟨o', hb⟩ := hb
  simp only [objV] at hrun
  unfold Oper.wp
  simp [execOp, hop, hx, hy, hz, hrun, Result.andThen]
  exact hK' _ _ (hK _ (Lib.hid h2) (Lib.hid (but_setBlock hb)))
theorem at_del (hg : o.guard = none) (x y : Operand) (hop : o.op = Op.call { callee := Callee.builtin Builtin.delete, args := #[x, y], argTypes := #[48, 9] }) (g : Nat) (L : List Ent) (n : List UInt8)
    (hx : a.eval x = .map (some g)) (hy : a.eval y = .string (str n)) (h : mapIs w g L)
    (hK : ∀ w', Hid (mapIs w' g (del L n)) → Hid (But g w w') → wpList Try.prog ops Q rest (a.put o.dst (.tuple #[])) w') : wpList Try.prog ops Q (o :: rest) a w := by
  refine wpList_plain hg fun K' hK' => ?_
  obtain ⟨es, clock, hrun, h2⟩ := run_del h n o.type
  have hb : ∃ o', w.heap[g]? = some o' := by
    obtain ⟨es0, c0, h1, _⟩ := h
    exact ⟨_, h1⟩
  obtain ⟨o', hb⟩ := hb
  unfold Oper.wp
  simp [execOp, hop, resolve, invoke, builtin, hx, hy, hrun, Result.andThen]
  exact hK' _ _ (hK _ (Lib.hid h2) (Lib.hid (but_setBlock hb)))
end
theorem Step.of_but {k g : Nat} {w w' : World} (h : But g w w') : Step k (some g) w (some g) w' :=
  ⟨h.os, h.tape, h.output, h.size, fun j hj _ hm => h.block j hj (fun e => hm (by rw [e])), Or.inl rfl⟩
theorem But.of_drew {g : Nat} {w w' : World} (h : But g w.drew w') : But g w w' := ⟨h.os, h.tape, h.output, h.size, h.block⟩
/-- The map has turned. -/
theorem ShAt.turn {w w' : World} {B k g : Nat} {s : Sh} (h : ShAt w B k (some g) s) (hb : But g w w') {L : List Ent} (hm : mapIs w' g L) : ShAt w' B k (some g) { s with objs := L } :=
  ⟨h.lo, hb.is h.is (fun e => (h.map g rfl).2.ne_block h.is e.symm), fun e => (by cases e), fun g' e => (by cases e; exact ⟨(h.map g rfl).1, hm⟩)⟩
/-- A map is made, behind a block of cells. -/
theorem ShAt.made {w : World} {B k : Nat} {s : Sh} (h : ShAt w B k none s) (o : Obj) : ShAt (((w.setCell ⟨k, 1, none⟩ (.map (some (w.heap.size + 1)))).alloc o).alloc (.map #[] 0)) B k (some (w.heap.size + 1)) s := by
  have hlt := h.is.lt
  refine ⟨h.lo, ((h.is.set 1 (.map (some (w.heap.size + 1)))).alloc o).alloc _, fun e => (by cases e), fun g' e => ?_⟩
  cases e
  refine ⟨by have := h.lo; omega, ?_⟩
  rw [h.nil rfl]
  have e : ((w.setCell ⟨k, 1, none⟩ (.map (some (w.heap.size + 1)))).alloc o).heap.size = w.heap.size + 1 := by simp
  have := mapIs.new ((w.setCell ⟨k, 1, none⟩ (.map (some (w.heap.size + 1)))).alloc o)
  rw [e] at this
  exact this
theorem Step.made {k : Nat} {w : World} (o : Obj) : Step k none w (some (w.heap.size + 1)) (((w.setCell ⟨k, 1, none⟩ (.map (some (w.heap.size + 1)))).alloc o).alloc (.map #[] 0)) := by
  have h := (((Step.refl k none w).setCell 1 (.map (some (w.heap.size + 1)))).alloc o).alloc (.map #[] 0)
  exact ⟨h.os, h.tape, h.output, h.size, h.block, Or.inr (fun g e => by cases e; omega)⟩
theorem eql_map_nil (w : World) (p : Option Nat) : (binOp .eql 48 (.map p) (.map none)).run Try.prog w = .ok (.bool p.isNone) w :=
  run_eql_map_nil w _ _ _ p Try.underlying48
set_option maxRecDepth 100000 in
set_option maxHeartbeats 2000000 in
theorem set_any (B k : Nat) (m : Option Nat) (s : Sh) (n : List UInt8) (ob : List UInt8) (of : Bool) (w : World) (h : ShAt w B k m s) :
    Calls Try.prog 22 #[.pointer (some ⟨k, 0, none⟩), .string (str n), .agg #[.string (str ob), .bool of]] w fun e w' => e = .returned (.tuple #[]) ∧ ∃ m', ShAt w' B k m' { s with objs := put s.objs n (ob, of) } ∧ Step k m w m' w' := by
  have q := fun (w : World) (p : Option Nat) => eql_map_nil w p
  have hmm := @run_makeMap Try.prog
  have H := Lib.hid (h.below ((Below.refl _ _).alloc (Nat.le_refl _) (.cells #[.string (str ob), .bool of] 58 (0, 0))))
  have H0 := Lib.hid ((Step.refl k m w).alloc (.cells #[.string (str ob), .bool of] 58 (0, 0)))
  have hlt := h.is.lt
  have HH := Lib.hid h
  have c1 := h.c1
  have f1 := h.free 1
  clear h
  cases m with
  | none =>
    go_enter Try.func22, Try.ntmps22
    go_wp2_with fail
    have M1 := Lib.hid (HH.out.made (.cells #[.string (str ob), .bool of] 58 (0, 0)))
    have M2 := Lib.hid (Step.made (k := k) (w := w) (.cells #[.string (str ob), .bool of] 58 (0, 0)))
    have es : ((w.setCell ⟨k, 1, none⟩ (.map (some (w.heap.size + 1)))).alloc (.cells #[.string (str ob), .bool of] 58 (0, 0))).heap.size = w.heap.size + 1 := by simp
    have d0 : (((w.setCell ⟨k, 1, none⟩ (.map (some (w.heap.size + 1)))).alloc (.cells #[.string (str ob), .bool of] 58 (0, 0))).alloc (.map #[] 0)).cell? ⟨w.heap.size, 0, none⟩ = some (.string (str ob)) := by
      rw [World.cell?_alloc_old _ _ _ (by rw [es]; simp), World.cell?_alloc_at _ _ _ _ (by simp)]; rfl
    have d1 : (((w.setCell ⟨k, 1, none⟩ (.map (some (w.heap.size + 1)))).alloc (.cells #[.string (str ob), .bool of] 58 (0, 0))).alloc (.map #[] 0)).cell? ⟨w.heap.size, 1, none⟩ = some (.bool of) := by
      rw [World.cell?_alloc_old _ _ _ (by rw [es]; simp), World.cell?_alloc_at _ _ _ _ (by simp)]; rfl
    have e1 := M1.out.c1
    clear c1 f1 hlt es H H0 HH
    generalize ((w.setCell ⟨k, 1, none⟩ (.map (some (w.heap.size + 1)))).alloc (.cells #[.string (str ob), .bool of] 58 (0, 0))).alloc (.map #[] 0) = w1 at *
    generalize w.heap.size + 1 = g at *
    generalize w.heap.size = b at *
    go_still_tail 6, (by kernel_rfl)
    change wpList _ _ _ _ _ w1.drew
    go_wp2_with (at_mapUpdate; refine at_put rfl _ _ _ rfl g s.objs n (ob, of) rfl rfl rfl (M1.out.map g rfl).2 (fun w2 P1 P2 => ?_))
    go_end0
    exact ⟨rfl, some g, M1.out.turn (But.of_drew P2.out) P1.out, M2.out.trans (Step.of_but (But.of_drew P2.out))⟩
  | some g =>
    go_enter Try.func22, Try.ntmps22
    go_wp2_with fail
    have d0 : (w.alloc (.cells #[.string (str ob), .bool of] 58 (0, 0))).cell? ⟨w.heap.size, 0, none⟩ = some (.string (str ob)) := by rw [World.cell?_alloc_at _ _ _ _ rfl]; rfl
    have d1 : (w.alloc (.cells #[.string (str ob), .bool of] 58 (0, 0))).cell? ⟨w.heap.size, 1, none⟩ = some (.bool of) := by rw [World.cell?_alloc_at _ _ _ _ rfl]; rfl
    have e1 := H.out.c1
    clear c1 f1 hlt HH
    generalize w.alloc (.cells #[.string (str ob), .bool of] 58 (0, 0)) = w1 at *
    generalize w.heap.size = b at *
    go_still_tail 6, (by kernel_rfl)
    change wpList _ _ _ _ _ w1.drew
    go_wp2_with (at_mapUpdate; refine at_put rfl _ _ _ rfl g s.objs n (ob, of) rfl rfl rfl (H.out.map g rfl).2 (fun w2 P1 P2 => ?_))
    go_end0
    exact ⟨rfl, some g, H.out.turn (But.of_drew P2.out) P1.out, H0.out.trans (Step.of_but (But.of_drew P2.out))⟩
theorem ShAt.look {w : World} {B k : Nat} {m : Option Nat} {s : Sh} (h : ShAt w B k m s) (c : Bool) (n : List UInt8) :
    (Instr.lookup 48 (.map m) (.string (str n)) c).run Try.prog w = .ok (if c then .tuple #[.agg #[.string (str (obOr (get s.objs n)).1), .bool (obOr (get s.objs n)).2], .bool (has s.objs n)] else .agg #[.string (str (obOr (get s.objs n)).1), .bool (obOr (get s.objs n)).2]) w := by
  cases m with
  | none =>
    rw [h.nil rfl]
    exact run_look_nil c w n
  | some g => exact run_look c (h.map g rfl).2 n
theorem ShAt.len {w : World} {B k : Nat} {m : Option Nat} {s : Sh} (h : ShAt w B k m s) (ty : TypeId) : (Builtin.len_ #[48] ty #[.map m]).run Try.prog w = .ok (.int .i64 (s.objs.length : Int)) w := by
  cases m with
  | none =>
    rw [h.nil rfl]
    exact run_len_map_nil w ty
  | some g => exact run_len_map (h.map g rfl).2 ty
set_option maxRecDepth 100000 in
set_option maxHeartbeats 1000000 in
theorem has_any (B k : Nat) (m : Option Nat) (s : Sh) (n : List UInt8) (w : World) (h : ShAt w B k m s) :
    Calls Try.prog 25 #[.pointer (some ⟨k, 0, none⟩), .string (str n)] w fun e w' => e = .returned (.bool (has s.objs n)) ∧ Below w.heap.size w w' := by
  have c1 := h.c1
  have q := h.look true n
  simp only [if_true] at q
  clear h
  generalize has s.objs n = y at *
  generalize (obOr (get s.objs n)).1 = b at *
  generalize (obOr (get s.objs n)).2 = f at *
  go_enter Try.func25, Try.ntmps25
  go_wp2_with fail
  go_ret
  exact ⟨rfl, (Below.refl _ _).alloc (Nat.le_refl _) _⟩
/-- May a byte stand in a name? -/
def okByte (x : UInt8) : Bool := (decide (97 ≤ V x) && decide (V x ≤ 122)) || ((decide (48 ≤ V x) && decide (V x ≤ 57)) || (V x == 45 || V x == 47))
def isName (l : List UInt8) : Bool := decide (1 ≤ l.length) && (decide (l.length ≤ 64) && l.all okByte)
set_option maxRecDepth 100000 in
set_option maxHeartbeats 1000000 in
theorem inName_any (x : UInt8) (w : World) : Calls Try.prog 30 #[.int .u8 (V x)] w fun e w' => e = .returned (.bool (okByte x)) ∧ w = w' := by
  unfold okByte
  generalize V x = v
  by_cases h1 : 97 ≤ v
  · by_cases h2 : v ≤ 122
    · have e : (decide (97 ≤ v) && decide (v ≤ 122)) = true := by simp [h1, h2]
      go_enter Try.func30, Try.ntmps30
      go_wp2_with fail
      go_ret
      exact ⟨ret_bool (by simp [h1, h2]), rfl⟩
    · have e4 : ¬ v ≤ 57 := by omega
      have e3 : 48 ≤ v := by omega
      have e5 : (v == 45) = false := by simp; omega
      have e6 : (v == 47) = false := by simp; omega
      go_enter Try.func30, Try.ntmps30
      go_wp2_with fail
      go_ret
      exact ⟨ret_bool (by simp [h2, e4]), rfl⟩
  · by_cases h3 : 48 ≤ v
    · by_cases h4 : v ≤ 57
      · go_enter Try.func30, Try.ntmps30
        go_wp2_with fail
        go_ret
        exact ⟨ret_bool (by simp), rfl⟩
      · have e5 : (v == 45) = false := by simp; omega
        have e6 : (v == 47) = false := by simp; omega
        go_enter Try.func30, Try.ntmps30
        go_wp2_with fail
        go_ret
        exact ⟨ret_bool (by simp [h4]; omega), rfl⟩
    · cases e5 : (v == 45)
      · cases e6 : (v == 47)
        all_goals
          go_enter Try.func30, Try.ntmps30
          go_wp2_with fail
          go_ret
          exact ⟨ret_bool (by simp; try omega), rfl⟩
      · go_enter Try.func30, Try.ntmps30
        go_wp2_with fail
        go_ret
        exact ⟨ret_bool (by simp), rfl⟩
theorem conv_bytes (w : World) (l : List UInt8) : ∃ c w', (convert 9 34 (.string (str l))).run Try.prog w = .ok (.slice (some ⟨w.heap.size, 0, none⟩) l.length c) w' ∧ bytesIn w' (some ⟨w.heap.size, 0, none⟩) l ∧ Below w.heap.size w w' := by
  have r := Lib.run_convert_string_bytes (P := Try.prog) w 9 34 5 (str l) Try.underlying9 Try.underlying34 Try.underlying5
  rw [str_size] at r
  refine ⟨_, _, r, Or.inr ⟨_, _, rfl, fun j hj => ?_⟩, ⟨?_, ?_, ?_, ?_, fun k hk => Lib.bytesWorld_at_old w _ _ k hk⟩⟩
  · rw [Nat.zero_add, Lib.bytesWorld_cell _ _ _ _ (by rw [str_size]; exact hj)]
    simp [str, V]
  · simp [Lib.bytesWorld, World.freeze, World.alloc, World.drew, -World.alloc_eq, -World.drew_eq]
  · simp [Lib.bytesWorld, World.freeze, World.alloc, World.drew, -World.alloc_eq, -World.drew_eq]
  · simp [Lib.bytesWorld, World.freeze, World.alloc, World.drew, -World.alloc_eq, -World.drew_eq]
  · rw [Lib.bytesWorld_size]; omega
set_option maxRecDepth 100000 in
set_option maxHeartbeats 2000000 in
theorem isName_any (l : List UInt8) (w : World) (hl : l.length ≤ 9223372036854775807) : Calls Try.prog 24 #[.string (str l)] w fun e w' => e = .returned (.bool (isName l)) ∧ Below w.heap.size w w' := by
  have hs := str_size l
  by_cases h1 : l.length < 1
  · have hz : Hid (isName l = false) := Lib.hid (by simp [isName]; omega)
    have q0 : ((str l).size : Int) < 1 := by rw [hs]; omega
    clear hs
    go_enter Try.func24, Try.ntmps24
    go_wp2_with fail
    go_ret
    exact ⟨ret_bool hz.out.symm, Below.refl _ _⟩
  · by_cases h2 : 64 < l.length
    · have hz : Hid (isName l = false) := Lib.hid (by simp [isName]; omega)
      have q0 : ¬ ((str l).size : Int) < 1 := by rw [hs]; omega
      have q1 : 64 < ((str l).size : Int) := by rw [hs]; omega
      clear hs
      go_enter Try.func24, Try.ntmps24
      go_wp2_with fail
      all_goals first
        | (exfalso; omega)
        | (go_ret
           exact ⟨ret_bool hz.out.symm, Below.refl _ _⟩)
    · have q0 : ¬ ((str l).size : Int) < 1 := by rw [hs]; omega
      have q1 : ¬ 64 < ((str l).size : Int) := by rw [hs]; omega
      have hn : Hid (isName l = l.all okByte) := Lib.hid (by simp [isName, show 1 ≤ l.length by omega, show l.length ≤ 64 by omega])
      obtain ⟨c, w0, hrun, hin, hb⟩ := conv_bytes w l
      have I := Lib.hid hin
      have B0 := Lib.hid hb
      have h2' : l.length ≤ 64 := by omega
      clear hs hin hb
      go_enter Try.func24, Try.ntmps24
      go_wp2_with fail
      go_loopw [16] (fun i wr => ∃ j : Nat, j ≤ l.length ∧ i = .int .i64 (j : Int) ∧ Hid ((l.take j).all okByte = true) ∧ wr = w0) (fun i _ => l.length - (intOf i).toNat)
      case atStart => exact ⟨0, Nat.zero_le _, rfl, Lib.hid (by simp), rfl⟩
      case round =>
        obtain ⟨j, hj, rfl, K1, rfl⟩ := hrel
        have p0 : 0 ≤ (j : Int) := by omega
        by_cases hlt : j < l.length
        · have q2 : (j : Int) < (l.length : Int) := by omega
          obtain ⟨bb, bo, hbo, hcs⟩ : ∃ b o, some (⟨w.heap.size, 0, none⟩ : Addr) = some ⟨b, o, none⟩ ∧ ∀ j, j < l.length → wr.cell? ⟨b, o + j, none⟩ = some (.int .u8 (V (l.getD j 0))) := by
            rcases I.out with h | h
            · rw [h] at hlt; simp at hlt
            · exact h
          cases hbo
          have d := hcs j hlt
          rw [Nat.zero_add] at d
          clear hcs
          have T := Lib.hid (List.take_succ_eq_append_getElem hlt)
          have G : Hid (l.getD j 0 = l[j]) := Lib.hid (by simp [hlt])
          have AL : Hid (okByte (l.getD j 0) = false → l.all okByte = false) := Lib.hid (fun h => by
            rw [List.all_eq_false]
            exact ⟨l[j], List.getElem_mem hlt, by rw [← G.out, h]; simp⟩)
          have AT : Hid (okByte (l.getD j 0) = true → (l.take (j + 1)).all okByte = true) := Lib.hid (fun h => by
            rw [T.out, List.all_append, K1.out]
            simp only [List.all_cons, List.all_nil, Bool.and_true, Bool.true_and]
            rw [← G.out, h])
          generalize l.getD j 0 = x at *
          clear T G
          cases hx : okByte x with
          | true =>
            go_wp2_with (go_at_call 30; (with_reducible refine (inName_any x _).mono ?_); rintro e w' ⟨rfl, rfl⟩; rw [hx])
            go_roundw
            case rel => exact ⟨j + 1, by omega, by go_num, Lib.hid (AT.out hx), by first | exact trivial | rfl⟩
            case measure => simp [intOf]; omega
          | false =>
            go_wp2_with (go_at_call 30; (with_reducible refine (inName_any x _).mono ?_); rintro e w' ⟨rfl, rfl⟩; rw [hx])
            (try rw [Exit.noGoto_ret])
            go_ret
            exact ⟨ret_bool (by rw [hn.out, AL.out hx]), B0.out⟩
        · obtain rfl : j = l.length := by omega
          have K2 : Hid (isName l = true) := Lib.hid (by rw [hn.out]; have := K1.out; rwa [List.take_length] at this)
          go_wp2_with fail
          go_ret
          exact ⟨ret_bool K2.out.symm, B0.out⟩
end Go.Proofs.Ythefledeoiegjaa
