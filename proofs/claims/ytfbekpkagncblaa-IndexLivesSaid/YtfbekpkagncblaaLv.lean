/- Live: its first half. -/
import Derived.Test.YtfbekpkagncblaaSl
import Derived.Test.YtfbekpkagncblaaLc
import Derived.Carry
namespace Go.Proofs.Ytfbekpkagncblaa
open Go.RowKit Go.MapKept
open Go.ChangeMaps (setBlock)

section
variable {w : World} {ops : Array Oper} {rest : List Oper} {o : Oper} {a : Act} {Q : Exit → Act → World → Prop}
theorem load_many {P : Program} (hw : Region.wanted o (yielded ops a.tmps) = true) (ty : TypeId) (x : Operand) (ho : o.op = .load ty x)
    (b f : Nat) (hx : a.eval x = .pointer (some ⟨b, f, none⟩)) (cs : List Value) (d : TypeDesc) (hc : w.rangeAt b f cs)
    (hu : P.underlying ty = some d) (hd : d.isRow = true) (hi : (P.info? ty).map (·.size) = some cs.length)
    (h : wpList P ops Q rest (a.put o.dst (.agg cs.toArray)) w) : wpList P ops Q (o :: rest) a w :=
  BigFrame.wpList_want hw fun K hK => by
    unfold Oper.wp execOp
    simp only [ho, hx, Instr.loadAt, Instr.sureAddr, Sem.run_bind, Sem.run_pure, Result.andThen_ok, run_loadVar_mid w b f ty cs d hc hu hd hi]
    exact hK _ _ h
theorem zero_nm (w : World) : (zeroValue 29).run Try.prog w = .ok (.agg #[.string ⟨#[]⟩, .slice none 0 0, .slice none 0 0]) w := by kernel_rfl
theorem store_new (hgd : o.guard = none) (x y : Operand) (ho : o.op = .store 29 x y)
    (cs zs : List Value) (hx : a.eval x = .pointer (some ⟨w.heap.size, 0, none⟩)) (hy : a.eval y = .agg cs.toArray) (hc : cs.length = 3) (hz : zs.length = 3) (h1 : ∀ v ∈ cs, v.oneCell' = true)
    (h : ∀ w', Hid (blockIs w' w.heap.size cs 29) → Hid (Below w.heap.size w w') → wpList Try.prog ops Q rest (a.put o.dst undef) w') : wpList Try.prog ops Q (o :: rest) a (w.alloc (.cells zs.toArray 29 (0, 0))) := by
  refine wpList_store_block hgd 29 x y ho w.heap.size 0 cs hx hy zs 29 (blockIs.new w zs _) (by rw [hc]; exact info_nm) (by omega) h1 ?_
  intro w' g1 g2 g3
  refine h w' (Lib.hid ?_) (Lib.hid ?_)
  · have := g1.out
    rw [splice_all zs cs (by omega)] at this
    exact this
  · exact ((Below.refl w.heap.size w).alloc (Nat.le_refl _) _).trans (g2.out.below (Nat.le_refl _) (by simp))
end
/-- A row of names with what they replace, and no packs. -/
def nmIn (w : World) (a : Option Addr) (E : List NmE) : Prop := E = [] ∨ ∃ b o, a = some ⟨b, o, none⟩ ∧ ∀ i (h : i < E.length), ∃ ov, textsIn w ov E[i].2 ∧ w.rangeAt b (o + i * 3) (nmCells E[i].1 ov)
theorem range_below {w w' : World} {b o : Nat} {cs : List Value} (h : w.rangeAt b o cs) {B : Nat} (hb : Below B w w') (hB : w.heap.size ≤ B) : w'.rangeAt b o cs := by
  intro j v hj
  have := h j v hj
  exact (hb.cell (p := ⟨b, o + j, none⟩) (Nat.lt_of_lt_of_le (block_lt_of_cell this) hB)).trans this
theorem nmIn.below {w w' : World} {a : Option Addr} {E : List NmE} (h : nmIn w a E) {B : Nat} (hb : Below B w w') (hB : w.heap.size ≤ B) : nmIn w' a E := by
  rcases h with h | ⟨b, o, e, h⟩
  · exact Or.inl h
  · refine Or.inr ⟨b, o, e, fun i hi => ?_⟩
    obtain ⟨ov, h1, h2⟩ := h i hi
    exact ⟨ov, h1.below hb hB, range_below h2 hb hB⟩
theorem nmIn.at {w : World} {a : Option Addr} {E : List NmE} (h : nmIn w a E) (i : Nat) (hi : i < E.length) : ∃ b o ov, a = some ⟨b, o, none⟩ ∧ textsIn w ov E[i].2 ∧ w.rangeAt b (o + i * 3) (nmCells E[i].1 ov) := by
  rcases h with h | ⟨b, o, e, h⟩
  · subst h; exact absurd hi (Nat.not_lt_zero i)
  · obtain ⟨ov, h1, h2⟩ := h i hi
    exact ⟨b, o, ov, e, h1, h2⟩
theorem get_put (n m : List UInt8) (o : Ob) : ∀ L : List Ent, get (put L n o) m = if n = m then some o else get L m
  | [] => by simp [put, get]
  | p :: L => by
    unfold put
    by_cases h : p.1 = n
    · rw [if_pos h]
      by_cases h2 : n = m
      · simp [get, h2]
      · have h3 : ¬ p.1 = m := fun e => h2 (h.symm.trans e)
        simp [get, h2, h3]
    · rw [if_neg h]
      by_cases h2 : p.1 = m
      · have h3 : ¬ n = m := fun e => h (h2.trans e.symm)
        simp [get, h2, h3]
      · rw [get, if_neg h2, get_put n m o L, get, if_neg h2]
/-- The set's names. -/
def GIs (M : List Ent) (G : List (List UInt8)) : Prop := ∀ n, has M n = true ↔ n ∈ G
theorem GIs.put {M : List Ent} {G : List (List UInt8)} (h : GIs M G) (n : List UInt8) : GIs (put M n ()) (G ++ [n]) := fun m => by
  have := h m
  unfold has at this ⊢
  rw [get_put]
  by_cases e : n = m
  · simp [e]
  · rw [if_neg e, this, List.mem_append, List.mem_singleton]
    exact ⟨Or.inl, fun h => h.resolve_right (fun h2 => e h2.symm)⟩
theorem goneL_take (E : List NmE) (j : Nat) (h : j < E.length) : goneL (E.take (j + 1)) = goneL (E.take j) ++ E[j].2 := by
  unfold goneL
  rw [List.take_succ_eq_append_getElem h, List.flatMap_append]
  congr 1
  exact List.flatMap_singleton ..
/-- Behind j files: those that are neither gone nor there already, each once. -/
def LivI (E : List NmE) (j : Nat) (D : List LvE) : Prop := (D.map Prod.fst).Nodup ∧ (∀ n, n ∈ D.map Prod.fst ↔ (n ∈ (E.take j).map Prod.fst ∧ n ∉ goneL E)) ∧ D.length ≤ j
theorem names_take (E : List NmE) (j : Nat) (h : j < E.length) : (E.take (j + 1)).map Prod.fst = (E.take j).map Prod.fst ++ [E[j].1] := by
  rw [List.take_succ_eq_append_getElem h, List.map_append]
  rfl
theorem LivI.start (E : List NmE) : LivI E 0 [] := ⟨.nil, (fun n => by simp), Nat.le_refl _⟩
theorem LivI.skip {E : List NmE} {j : Nat} {D : List LvE} (h : LivI E j D) (hj : j < E.length) (hi : E[j].1 ∈ goneL E ++ D.map Prod.fst) : LivI E (j + 1) D := by
  refine ⟨h.1, (fun n => ?_), Nat.le_succ_of_le h.2.2⟩
  rw [names_take E j hj, List.mem_append, List.mem_singleton, h.2.1 n]
  refine ⟨fun hn => ⟨Or.inl hn.1, hn.2⟩, fun hn => ⟨?_, hn.2⟩⟩
  rcases hn.1 with h1 | rfl
  · exact h1
  · rcases List.mem_append.1 hi with h2 | h2
    · exact absurd h2 hn.2
    · exact ((h.2.1 _).1 h2).1
theorem LivI.take {E : List NmE} {j : Nat} {D : List LvE} (h : LivI E j D) (hj : j < E.length) (hi : E[j].1 ∉ goneL E ++ D.map Prod.fst) (v : Value) : LivI E (j + 1) (D ++ [(E[j].1, v)]) := by
  have h1 : E[j].1 ∉ goneL E := fun hh => hi (List.mem_append.2 (Or.inl hh))
  have h2 : E[j].1 ∉ D.map Prod.fst := fun hh => hi (List.mem_append.2 (Or.inr hh))
  refine ⟨?_, (fun n => ?_), by rw [List.length_append]; have := h.2.2; simp; omega⟩
  · rw [List.map_append, List.nodup_append]
    refine ⟨h.1, by simp, fun x hx y hy => ?_⟩
    simp at hy
    subst hy
    exact fun e => h2 (e ▸ hx)
  · rw [names_take E j hj, List.map_append, List.mem_append, List.mem_append, h.2.1 n]
    simp only [List.map_cons, List.map_nil, List.mem_singleton]
    refine ⟨fun hn => ?_, fun hn => ?_⟩
    · rcases hn with hn | rfl
      · exact ⟨Or.inl hn.1, hn.2⟩
      · exact ⟨Or.inr rfl, h1⟩
    · rcases hn.1 with h3 | h3
      · exact Or.inl ⟨h3, hn.2⟩
      · exact Or.inr h3
/-- The names that Live answers: those that are alive, each once, in their order. -/
def LivesIs (E : List NmE) (L : List (List UInt8)) : Prop := risen L ∧ (∀ n, n ∈ L ↔ alive E n) ∧ L.length ≤ E.length
theorem LivI.sorted {E : List NmE} {D D' : List LvE} (h : LivI E E.length D) (hp : D'.Perm D) (hs : D'.Pairwise fun x y => Op.bytesLess y.1 x.1 = false) : LivesIs E (D'.map Prod.fst) := by
  have hpn := hp.map Prod.fst
  have hnd : (D'.map Prod.fst).Nodup := hpn.nodup_iff.2 h.1
  refine ⟨?_, fun n => ?_, by rw [List.length_map, hp.length_eq]; exact h.2.2⟩
  · have h2 : (D'.map Prod.fst).Pairwise fun x y => Op.bytesLess y x = false := List.pairwise_map.2 hs
    exact (h2.and hnd).imp fun ⟨h3, h4⟩ => less_total _ _ (Ne.symm h4) h3
  · rw [hpn.mem_iff, h.2.1 n, List.take_length]
    rfl
theorem build_nm (n : List UInt8) (v : Value) (hv : v.oneCell' = true) (w : World) : (Instr.build 29 #[(0, .string (str n)), (1, .agg #[.slice none 0 0, v])]).run Try.prog w = .ok (.agg (nmCells n v).toArray) w := by kernel_rfl
theorem row_below {w w' : World} {base n sz B : Nat} {t : TypeId} {v : Value} {xs : List Value} (h : w.ownsRow base t sz v n xs) (hb : Below B w w') (hB : w.heap.size ≤ B) : w'.ownsRow base t sz v n xs :=
  h.kept (row := none) ⟨hb.os, hb.tape, hb.output, hb.size, fun k hk _ => hb.block k (by omega)⟩ (by cases v.ownBlock <;> simp)
theorem row_but {w w' : World} {base n sz B : Nat} {t : TypeId} {v : Value} {xs : List Value} (h : w.ownsRow base t sz v n xs) (hb : But B w w') (hB : B < base) : w'.ownsRow base t sz v n xs :=
  h.kept (row := some B) ⟨hb.os, hb.tape, hb.output, hb.size, fun k hk hn => hb.block k hk (fun e => hn (by rw [e]))⟩ (by
    cases hv : v.ownBlock with
    | none => exact Or.inl rfl
    | some b => exact Or.inr (fun e => by have := (h.lt b hv).1; cases e; omega))
theorem own_one {w : World} {base n sz : Nat} {t : TypeId} {v : Value} {xs : List Value} (h : w.ownsRow base t sz v n xs) : v.oneCell' = true := by
  rcases h.2 with ⟨rfl, -⟩ | ⟨g, cap, cur, rfl, -⟩ <;> rfl
set_option maxRecDepth 100000 in
set_option maxHeartbeats 8000000 in
theorem live_any (a : Option Addr) (c : Nat) (E : List NmE) (w : World) (hl : E.length ≤ 1000) (hE : ∀ e ∈ E, e.2.length ≤ 1000) (h : nmIn w a E) :
    Calls Try.prog 4 #[.slice a E.length c] w fun e w' => (∃ v D, e = .returned v ∧ w'.ownsRow w.heap.size 29 3 v D.length (lvCells D) ∧ LivesIs E (D.map Prod.fst)) ∧ Below w.heap.size w w' := by
  have H := Lib.hid h
  have HEB := Lib.hid hE
  clear h hE
  have hzn := zero_nm
  have hmm := @run_makeMap Try.prog
  have A0 := alloc_below w (.map #[] 0)
  have HM0 := Lib.hid (mapIs.new w)
  have HA0 := Lib.hid A0
  have HG0 : Hid (GIs [] (goneL (E.take 0))) := Lib.hid (fun n => by simp [has, get, goneL])
  clear A0
  go_enter Try.func4, Try.ntmps4
  go_wp2_with fail
  generalize w.alloc (.map #[] 0) = w0 at *
  go_loopw [16] (fun i wr => ∃ (j : Nat) (M : List Ent), j ≤ E.length ∧ i = .int .i64 j ∧ Hid (mapIs wr w.heap.size M) ∧ Hid (GIs M (goneL (E.take j))) ∧ Hid (Below w.heap.size w wr)) (fun i _ => E.length - (intOf i).toNat)
  case atStart => exact ⟨0, [], Nat.zero_le _, rfl, HM0, HG0, HA0⟩
  case round =>
    clear HM0 HG0 HA0
    obtain ⟨j, M, hj, rfl, HM, HG, HB⟩ := hrel
    have p0 : 0 ≤ (j : Int) := by omega
    by_cases hlt : j < E.length
    · have q0 : (j : Int) < (E.length : Int) := by omega
      obtain ⟨b, o, ov, rfl, hov, hr⟩ := H.out.at j hlt
      have hol := HEB.out _ (List.getElem_mem hlt)
      have HGT := Lib.hid (goneL_take E j hlt)
      generalize E[j].1 = nm at *
      generalize E[j].2 = O at *
      obtain ⟨oa, oc, rfl, o1, o2, o3, o4⟩ := hov
      have HO := Lib.hid o4
      have HOL := Lib.hid hol
      obtain ⟨cs, hcs⟩ : ∃ cs, cs = nmCells nm (.slice oa O.length oc) := ⟨_, rfl⟩
      rw [← hcs] at hr
      have R1 := Lib.hid (range_below hr HB.out (Nat.le_refl _))
      have HC3 : Hid (cs.length = 3) := Lib.hid (by rw [hcs]; rfl)
      have HCO : Hid (∀ v ∈ cs, v.oneCell' = true) := Lib.hid (by
        rw [hcs]
        intro v hv
        simp only [nmCells, List.mem_cons, List.not_mem_nil, or_false] at hv
        rcases hv with rfl | rfl | rfl <;> rfl)
      have HIN : Hid ((Try.prog.info? 29).map (·.size) = some cs.length) := Lib.hid (by rw [HC3.out]; exact info_nm)
      have HCS := Lib.hid hcs
      clear hcs hr o4 hol
      go_wp2_with (first | (refine load_many (by rfl) 29 _ rfl b (o + j * 3) rfl cs _ R1.out Try.underlying29 rfl HIN.out ?_) | (refine store_new rfl _ _ rfl cs [.string ⟨#[]⟩, .slice none 0 0, .slice none 0 0] rfl rfl HC3.out rfl HCO.out ?_))
      intro w5 h1 h2
      have hk5 := h1.out
      rw [HCS.out] at hk5
      have HK5 := Lib.hid hk5
      have HM5 := Lib.hid (HM.out.of_block (h2.out.block _ HM.out.lt))
      have HB5 := Lib.hid (HB.out.trans (h2.out.mono HB.out.size))
      have HGW : Hid (w.heap.size ≤ wr.heap.size) := Lib.hid HB.out.size
      clear h1 h2 hk5 HM HB R1
      generalize wr.heap.size = g at *
      have c2 : w5.cell? ⟨g, 2, none⟩ = some (.slice oa O.length oc) := by rw [HK5.out.cell]; rfl
      go_wp2_with fail
      go_loopw [24] (fun i wr => ∃ (m : Nat) (M : List Ent), m ≤ O.length ∧ i = .int .i64 m ∧ Hid (mapIs wr w.heap.size M) ∧ Hid (GIs M (goneL (E.take j) ++ O.take m)) ∧ Hid (Below w.heap.size w wr)) (fun i _ => O.length - (intOf i).toNat)
      case atStart => exact ⟨0, M, Nat.zero_le _, rfl, HM5, Lib.hid (by rw [List.take_zero, List.append_nil]; exact HG.out), HB5⟩
      case round =>
        clear HM5 HG HB5 c2 HK5
        obtain ⟨m, M, hm, rfl, HM, HG, HB⟩ := hrel
        have pm : 0 ≤ (m : Int) := by omega
        by_cases hml : m < O.length
        · have qm : (m : Int) < (O.length : Int) := by omega
          obtain ⟨ab, ao, rfl, ac⟩ := (HO.out.below HB.out (Nat.le_refl _)).at m (by rw [txs_length]; exact hml)
          rw [txs_get O m hml] at ac
          have HTK : Hid (O.take (m + 1) = O.take m ++ [O[m]]) := Lib.hid (List.take_succ_eq_append_getElem hml)
          generalize O[m] = s at *
          go_wp2_with (refine at_put rfl _ _ _ rfl w.heap.size M s () rfl rfl rfl HM.out ?_)
          intro w6 h1 h2
          have HGP : Hid (GIs (put M s ()) (goneL (E.take j) ++ O.take (m + 1))) := Lib.hid (by rw [HTK.out, ← List.append_assoc]; exact HG.out.put s)
          have HB6 := Lib.hid (HB.out.trans (h2.out.below (Nat.le_refl _) HB.out.size))
          clear h2 HB HM HG ac
          go_wp2_with fail
          go_roundw
          case rel => exact ⟨m + 1, put M s (), by omega, by go_num, h1, HGP, HB6⟩
          case measure => simp [intOf]; omega
        · obtain rfl : m = O.length := by omega
          have qm : ¬ ((O.length : Int) < (O.length : Int)) := by omega
          have HGN : Hid (GIs M (goneL (E.take (j + 1)))) := Lib.hid (by rw [HGT.out]; have := HG.out; rw [List.take_length] at this; exact this)
          go_wp2_with fail
          go_roundw
          case rel => exact ⟨j + 1, M, by omega, by go_num, HM, HGN, HB⟩
          case measure => simp [intOf]; omega
    · obtain rfl : j = E.length := by omega
      have q0 : ¬ ((E.length : Int) < (E.length : Int)) := by omega
      have HGE : Hid (GIs M (goneL E)) := Lib.hid (by have := HG.out; rw [List.take_length] at this; exact this)
      clear HG
      clear hmm
      go_wp2_with fail
      go_loopw [35, 8] (fun i v wr => ∃ (j : Nat) (M : List Ent) (D : List LvE), j ≤ E.length ∧ i = .int .i64 j ∧ Hid (mapIs wr w.heap.size M) ∧ Hid (GIs M (goneL E ++ D.map Prod.fst)) ∧ Hid (LivI E j D) ∧ Hid (∀ d ∈ D, d.2.oneCell' = true) ∧ Hid (wr.ownsRow (w.heap.size + 1) 29 3 v D.length (lvCells D)) ∧ Hid (Below w.heap.size w wr)) (fun i _ _ => E.length - (intOf i).toNat)
      case atStart => exact ⟨0, M, [], Nat.zero_le _, rfl, HM, Lib.hid (by rw [List.map_nil, List.append_nil]; exact HGE.out), Lib.hid (LivI.start E), Lib.hid (fun d hd => absurd hd (List.not_mem_nil)), Lib.hid (World.ownsRow_nil _ _ _ _), HB⟩
      case round =>
        clear HM HGE HB
        obtain ⟨j, M, D, hj, rfl, HM, HG, HI, HON, HD, HB⟩ := hrel
        have p0 : 0 ≤ (j : Int) := by omega
        by_cases hlt : j < E.length
        · have q0 : (j : Int) < (E.length : Int) := by omega
          obtain ⟨b, o, ov, rfl, hov, hr⟩ := H.out.at j hlt
          have hol := HEB.out _ (List.getElem_mem hlt)
          have HSK := Lib.hid (fun hi => HI.out.skip hlt hi)
          have HTA := Lib.hid (fun hi v => HI.out.take hlt hi v)
          have HDL := Lib.hid HI.out.2.2
          have HMW : Hid (w.heap.size < wr.heap.size) := Lib.hid HM.out.lt
          generalize E[j].1 = nm at *
          generalize E[j].2 = O at *
          have HOV := Lib.hid hov
          obtain ⟨oa, oc, rfl, o1, o2, o3, o4⟩ := hov
          have HOL := Lib.hid hol
          obtain ⟨cs, hcs⟩ : ∃ cs, cs = nmCells nm (.slice oa O.length oc) := ⟨_, rfl⟩
          rw [← hcs] at hr
          have R1 := Lib.hid (range_below hr HB.out (Nat.le_refl _))
          have HC3 : Hid (cs.length = 3) := Lib.hid (by rw [hcs]; rfl)
          have HCO : Hid (∀ v ∈ cs, v.oneCell' = true) := Lib.hid (by
            rw [hcs]
            intro v hv
            simp only [nmCells, List.mem_cons, List.not_mem_nil, or_false] at hv
            rcases hv with rfl | rfl | rfl <;> rfl)
          have HIN : Hid ((Try.prog.info? 29).map (·.size) = some cs.length) := Lib.hid (by rw [HC3.out]; exact info_nm)
          have HCS := Lib.hid hcs
          clear hcs hr o4 hol
          go_wp2_with (first | (refine load_many (by rfl) 29 _ rfl b (o + j * 3) rfl cs _ R1.out Try.underlying29 rfl HIN.out ?_) | (refine store_new rfl _ _ rfl cs [.string ⟨#[]⟩, .slice none 0 0, .slice none 0 0] rfl rfl HC3.out rfl HCO.out ?_))
          intro w5 h1 h2
          have hk5 := h1.out
          rw [HCS.out] at hk5
          have HK5 := Lib.hid hk5
          have HM5 := Lib.hid (HM.out.of_block (h2.out.block _ HM.out.lt))
          have HB5 := Lib.hid (HB.out.trans (h2.out.mono HB.out.size))
          have HD5 : Hid (w5.ownsRow (w.heap.size + 1) 29 3 _ D.length (lvCells D)) := Lib.hid (HD.out.kept (row := none) ⟨h2.out.os, h2.out.tape, h2.out.output, h2.out.size, fun k hk _ => h2.out.block k hk⟩ (by cases (Value.ownBlock _) <;> simp))
          have HNG : Hid (∀ b, Value.ownBlock _ = some b → b < wr.heap.size) := Lib.hid (fun b hb => (HD.out.lt b hb).2)
          clear h1 h2 hk5 HM HB R1 HD
          generalize wr.heap.size = g at *
          have c0 : w5.cell? ⟨g, 0, none⟩ = some (.string (str nm)) := by rw [HK5.out.cell]; rfl
          obtain ⟨r, hr⟩ : ∃ r, r = has M nm := ⟨_, rfl⟩
          have lk : (Instr.lookup 34 (.map (some w.heap.size)) (.string (str nm)) true).run Try.prog w5 = .ok (.tuple #[.agg #[], .bool (has M nm)]) w5 := run_look true HM5.out nm
          rw [← hr] at lk
          have HRR := Lib.hid hr
          clear hr
          cases r with
          | true =>
            have hin : nm ∈ goneL E ++ D.map Prod.fst := (HG.out nm).1 HRR.out.symm
            have HI6 := Lib.hid (HSK.out hin)
            have HM6 : Hid (mapIs (w5.alloc (.cells #[] 35)) w.heap.size M) := Lib.hid (HM5.out.of_block ((alloc_below w5 _).block _ HM5.out.lt))
            have HD6 := Lib.hid (HD5.out.alloc (.cells #[] 35))
            have HB6 := Lib.hid (HB5.out.alloc HB5.out.size (.cells #[] 35))
            clear HM5 HD5 HB5 HSK HTA HI hin
            go_wp2_with fail
            go_roundw
            case rel => exact ⟨j + 1, M, D, by omega, by go_num, HM6, HG, HI6, HON, HD6, HB6⟩
            case measure => simp [intOf]; omega
          | false =>
            have hni : nm ∉ goneL E ++ D.map Prod.fst := fun h => by have := (HG.out nm).2 h; rw [← HRR.out] at this; cases this
            have HI6 := Lib.hid (fun v => HTA.out hni v)
            have HM6 : Hid (mapIs (w5.alloc (.cells #[] 35)) w.heap.size M) := Lib.hid (HM5.out.of_block ((alloc_below w5 _).block _ HM5.out.lt))
            have HD6 := Lib.hid (HD5.out.alloc (.cells #[] 35))
            have HB6 := Lib.hid (HB5.out.alloc HB5.out.size (.cells #[] 35))
            have HK6 := Lib.hid (HK5.out.alloc (.cells #[] 35))
            have c06 : (w5.alloc (.cells #[] 35)).cell? ⟨g, 0, none⟩ = some (.string (str nm)) := by rw [HK6.out.cell]; rfl
            clear HM5 HD5 HB5 HSK HTA HI hni HK5
            go_wp2_with (refine at_put rfl _ _ _ rfl w.heap.size M nm () rfl rfl rfl HM6.out ?_)
            intro w7 h1 h2
            have HK7 := Lib.hid (h2.out.is HK6.out (Ne.symm (HM6.out.ne_block HK6.out)))
            have HD7 : Hid (w7.ownsRow (w.heap.size + 1) 29 3 _ D.length (lvCells D)) := Lib.hid (row_but HD6.out h2.out (Nat.lt_succ_self _))
            have HB7 := Lib.hid (HB6.out.trans (h2.out.below (Nat.le_refl _) HB6.out.size))
            have HGP : Hid (GIs (put M nm ()) (goneL E ++ (D.map Prod.fst ++ [nm]))) := Lib.hid (by rw [← List.append_assoc]; exact HG.out.put nm)
            clear h2 HM6 HD6 HB6 HK6 c06
            go_wp2_with fail
            refine wp_region_noPanic ?_
            refine wp_region_held_drew (S := fun x => Below w.heap.size w x ∧ blockIs x g (nmCells nm (.slice oa O.length oc)) 29) (by kernel_rfl) ⟨HB7.out.drew, HK7.out⟩ (fun hH => ?_)
            have HD8 := Lib.hid HD7.out.drew
            have HM8 : Hid (mapIs w7.drew w.heap.size (put M nm ())) := h1
            have HO8 := Lib.hid (HOV.out.below HB7.out.drew (Nat.le_refl _))
            have PC := file_any (.slice oa O.length oc) O w7.drew HO8.out (by have := HOL.out; omega)
            clear h1 HD7 HB7 HK7
            generalize w7.drew = y0 at *
            refine wpAnyH_take (i := 0) (oi := { dst := some 52, op := Op.move (Operand.tmp 8), type := 24, pos := "index.go:86", after := #[], guard := none }) (v := u8) rfl (by kernel_rfl) (by kernel_rfl) (by kernel_rfl) (fun _ _ _ h => h) (Or.inl ⟨by rfl, fun wx hS => ?_⟩) hH ?_
            · go_simp
            simp only [Act.put, List.setIfInBounds_toArray, List.set_cons_zero, List.set_cons_succ]
            refine wpAnyH_take (i := 1) (oi := { dst := some 53, op := Op.fieldAddr 29 (Operand.tmp 10) 0, type := 0, pos := "index.go:86", after := #[], guard := none }) (v := .pointer (some ⟨g, 0, none⟩)) rfl (by kernel_rfl) (by kernel_rfl) (by kernel_rfl) (fun _ _ _ h => h) (Or.inl ⟨by rfl, fun wx hS => ?_⟩) hH ?_
            · go_simp
            simp only [Act.put, List.setIfInBounds_toArray, List.set_cons_zero, List.set_cons_succ]
            refine wpAnyH_take (i := 2) (oi := { dst := some 54, op := Op.load 9 (Operand.tmp 53), type := 9, pos := "index.go:86", after := #[{ on := 1, ground := Ground.data }], guard := none }) (v := .string (str nm)) rfl (by kernel_rfl) (by kernel_rfl) (by kernel_rfl) (fun _ _ _ h => h) (Or.inl ⟨by rfl, fun wx hS => ?_⟩) hH ?_
            · have c0 : wx.cell? ⟨g, 0, none⟩ = some (.string (str nm)) := (by rw [hS.2.cell]; rfl); go_simp
            simp only [Act.put, List.setIfInBounds_toArray, List.set_cons_zero, List.set_cons_succ]
            refine wpAnyH_take (i := 3) (oi := { dst := some 55, op := Op.fieldAddr 29 (Operand.tmp 10) 1, type := 0, pos := "index.go:86", after := #[], guard := none }) (v := .pointer (some ⟨g, 1, none⟩)) rfl (by kernel_rfl) (by kernel_rfl) (by kernel_rfl) (fun _ _ _ h => h) (Or.inl ⟨by rfl, fun wx hS => ?_⟩) hH ?_
            · go_simp
            simp only [Act.put, List.setIfInBounds_toArray, List.set_cons_zero, List.set_cons_succ]
            refine wpAnyH_take (i := 4) (oi := { dst := some 56, op := Op.load 27 (Operand.tmp 55), type := 27, pos := "index.go:86", after := #[{ on := 3, ground := Ground.data }], guard := none }) (v := .agg #[.slice none 0 0, .slice oa O.length oc]) rfl (by kernel_rfl) (by kernel_rfl) (by kernel_rfl) (fun _ _ _ h => h) (yieldsIf_load_mid (by rfl) 27 _ rfl g 1 rfl [.slice none 0 0, .slice oa O.length oc] _ (fun wx hS j u hj => (hS.2.cell (1 + j)).trans (by rw [Nat.add_comm]; exact hj)) Try.underlying27 rfl (by kernel_rfl)) hH ?_
            simp only [Act.put, List.setIfInBounds_toArray, List.set_cons_zero, List.set_cons_succ]
            refine wpAnyH_ready (rs := [5]) (by kernel_rfl) (by simp) ?_
            refine AllReadyH.cons (o := { dst := some 57, op := Op.call { callee := Callee.value (Operand.func 7), args := #[Operand.tmp 56], argTypes := #[27] }, type := 27, pos := "index.go:86", after := #[{ on := 4, ground := Ground.data }], guard := none }) rfl (fun KK hKK => ?_) AllReadyH.nil
            go_simp
            with_reducible refine PC.mono ?_
            clear PC
            rintro e y1 ⟨⟨v2, rfl, r2⟩, kb⟩
            have hN := And.intro (hH.1.trans (kb.mono hH.1.size)) (hH.2.below kb hH.2.lt)
            have HV1 : Hid (v2.oneCell' = true) := Lib.hid (own_one r2)
            have HM9 := Lib.hid (HM8.out.of_block (kb.block _ HM8.out.lt))
            have HD9 := Lib.hid (row_below HD8.out kb (Nat.le_refl _))
            clear hH kb HM8 HD8 HO8 r2
            refine hKK.out _ _ hN (fun hH => ?_)
            clear hKK KK hN
            try simp only [Act.put, List.setIfInBounds_toArray, List.set_cons_zero, List.set_cons_succ]
            refine wpAnyH_take (i := 6) (oi := { dst := some 58, op := Op.build 29 #[(0, Operand.tmp 54), (1, Operand.tmp 57)], type := 29, pos := "index.go:86", after := #[{ on := 2, ground := Ground.data }, { on := 5, ground := Ground.data }], guard := none }) (v := .agg (nmCells nm v2).toArray) rfl (by kernel_rfl) (by kernel_rfl) (by kernel_rfl) (fun _ _ _ h => h) (Or.inl ⟨by rfl, fun wx hS => ?_⟩) hH ?_
            · have bn := build_nm nm v2 HV1.out wx; go_simp; rfl
            simp only [Act.put, List.setIfInBounds_toArray, List.set_cons_zero, List.set_cons_succ]
            refine wpAnyH_ready (rs := [7]) (by kernel_rfl) (by simp) ?_
            refine AllReadyH.cons (o := { dst := some 59, op := Op.buildSlice 24 1 #[(0, Operand.tmp 58)], type := 24, pos := "index.go:86", after := #[{ on := 6, ground := Ground.data }], guard := none }) rfl (fun KK hKK => ?_) AllReadyH.nil
            have kb := alloc_below y1 (.cells (nmCells nm v2).toArray 29)
            have hN := And.intro (hH.1.trans (kb.mono hH.1.size)) (hH.2.below kb hH.2.lt)
            have KB := blockIs.new y1 (nmCells nm v2) 29
            have HM10 := Lib.hid (HM9.out.of_block (kb.block _ HM9.out.lt))
            have HD10 := Lib.hid (row_below HD9.out kb (Nat.le_refl _))
            clear hH kb HM9 HD9
            refine step_build_nm (by rfl) _ rfl (nmCells nm v2) rfl rfl ?_
            refine hKK.out _ _ hN (fun hH => ?_)
            clear hKK KK hN
            try simp only [Act.put, List.setIfInBounds_toArray, List.set_cons_zero, List.set_cons_succ]
            generalize y1.alloc (.cells (nmCells nm v2).toArray 29) = y2 at *
            generalize y1.heap.size = gb at *
            refine wpAnyH_ready (rs := [8]) (by kernel_rfl) (by simp) ?_
            refine AllReadyH.cons (o := { dst := some 60, op := Op.call { callee := Callee.builtin Builtin.append, args := #[Operand.tmp 52, Operand.tmp 59], argTypes := #[24, 24] }, type := 24, pos := "index.go:86", after := #[{ on := 0, ground := Ground.data }, { on := 7, ground := Ground.data }, { on := 5, ground := Ground.chain }], guard := none }) rfl (fun KK hKK => ?_) AllReadyH.nil
            have hm10 := HM10.out.lt
            refine step_append_nm (by rfl) _ _ rfl (w.heap.size + 1) u8 D rfl HD10.out gb 1 nm v2 HV1.out rfl KB (by have := HDL.out; omega) (by omega) ?_
            intro v9 y3 q1 q2 q3
            have hN := And.intro (hH.1.trans (q3.out.mono (Nat.le_succ _))) ((q2.out.block g hH.2.lt (fun e => Nat.lt_irrefl _ (HNG.out g e.symm))).trans hH.2)
            have HM11 := Lib.hid (HM10.out.of_block (q3.out.block _ (Nat.lt_succ_self _)))
            clear hH HM10 HD10 q2 q3
            refine hKK.out _ _ hN (fun hH => ?_)
            clear hKK KK hN
            try simp only [Act.put, List.setIfInBounds_toArray, List.set_cons_zero, List.set_cons_succ]
            refine wpAnyH_take (i := 9) (oi := { dst := some 8, op := Op.assign (Operand.tmp 60), type := 24, pos := "index.go:86", after := #[{ on := 8, ground := Ground.data }, { on := 8, ground := Ground.chain }, { on := 0, ground := Ground.phase }, { on := 1, ground := Ground.phase }, { on := 2, ground := Ground.phase }, { on := 3, ground := Ground.phase }, { on := 4, ground := Ground.phase }, { on := 5, ground := Ground.phase }, { on := 6, ground := Ground.phase }, { on := 7, ground := Ground.phase }, { on := 8, ground := Ground.phase }], guard := none }) (v := v9) rfl (by kernel_rfl) (by kernel_rfl) (by kernel_rfl) (fun _ _ _ h => h) (Or.inl ⟨by rfl, fun wx hS => ?_⟩) hH ?_
            · go_simp
            simp only [Act.put, List.setIfInBounds_toArray, List.set_cons_zero, List.set_cons_succ]
            refine wpAnyH_done (by kernel_rfl) ?_ _
            refine NoPanic.normal ?_
            have HB11 := Lib.hid hH.1
            have HG11 : Hid (GIs (put M nm ()) (goneL E ++ (D ++ [(nm, v2)]).map Prod.fst)) := Lib.hid (by rw [List.map_append]; exact HGP.out)
            have HI11 := Lib.hid (HI6.out v2)
            have HON11 : Hid (∀ d ∈ D ++ [(nm, v2)], d.2.oneCell' = true) := Lib.hid (fun d hd => by
              rcases List.mem_append.1 hd with h | h
              · exact HON.out d h
              · rw [List.mem_singleton.1 h]; exact HV1.out)
            clear hH
            go_wp2_with fail
            go_roundw
            case rel => exact ⟨j + 1, put M nm (), D ++ [(nm, v2)], by omega, by go_num, HM11, HG11, HI11, HON11, q1, HB11⟩
            case measure => simp [intOf]; omega
        · obtain rfl : j = E.length := by omega
          have q0 : ¬ ((E.length : Int) < (E.length : Int)) := by omega
          have HIF : Hid (LivI E E.length D) := HI
          have PS := sort_any (w.heap.size + 1) _ D HON.out wr HD.out (by have := HI.out.2.2; omega)
          have HGB : Hid (∀ w', wr.grownBy w' (Value.ownBlock _) → Below w.heap.size w w') := Lib.hid (fun w' hg => HB.out.trans ((own_grown HD.out hg (by have := HM.out.lt; omega)).mono (Nat.le_succ _)))
          clear HM HG HI HD HB HON
          go_wp2_with fail
          with_reducible refine PS.mono ?_
          clear PS
          rintro e w9 ⟨rfl, D', hpm, hso, hrow, hgr⟩
          have HB9 := Lib.hid (HGB.out w9 hgr)
          have HR9 := Lib.hid (LivI.sorted HIF.out hpm hso)
          have HRW := Lib.hid hrow
          clear hpm hso hrow hgr HGB HIF
          go_wp2_with fail
          go_ret
          exact ⟨⟨_, D', rfl, Go.Joins.ownsRow_le HRW.out (Nat.le_succ _), HR9.out⟩, HB9.out⟩
end Go.Proofs.Ytfbekpkagncblaa
