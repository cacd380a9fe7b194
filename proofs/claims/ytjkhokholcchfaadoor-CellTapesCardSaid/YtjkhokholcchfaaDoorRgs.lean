/- The laws' first question: rings. -/
import Derived.Test.YtjkhokholcchfaaDoorFrm
import Derived.BigQuiet
namespace Go.Proofs.YtjkhokholcchfaaDoor
open Go.RowKit Sha

set_option maxRecDepth 100000 in
theorem wpList_load_mid_if {P : Program} {ops : Array Oper} {rest : List Oper} {op : Oper} {a : Act} {w : World} {Q : Exit → Act → World → Prop} (hw : Region.wanted op (yielded ops a.tmps) = true) (ty : TypeId) (x : Operand) (ho : op.op = .load ty x)
    (b o : Nat) (hx : a.eval x = .pointer (some ⟨b, o, none⟩)) (cs : List Value) (d : TypeDesc) (hc : w.rangeAt b o cs)
    (hu : P.underlying ty = some d) (hd : d.isRow = true) (hi : (P.info? ty).map (·.size) = some cs.length)
    (h : wpList P ops Q rest (a.put op.dst (.agg cs.toArray)) w) : wpList P ops Q (op :: rest) a w :=
  BigFrame.wpList_want hw fun _ hK => wp_load_mid ty x ho b o hx cs d hc hu hd hi (hK _ _ h)
set_option maxRecDepth 100000 in
theorem wpList_build_if {P : Program} {ops : Array Oper} {rest : List Oper} {o : Oper} {a : Act} {w : World} {Q : Exit → Act → World → Prop} (hw : Region.wanted o (yielded ops a.tmps) = true) (ty : TypeId) (ho : o.op = .build ty #[])
    (v : Value) (hrun : (Instr.build ty #[]).run P w = .ok v w) (h : wpList P ops Q rest (a.put o.dst v) w) : wpList P ops Q (o :: rest) a w := by
  refine BigFrame.wpList_want hw fun K hK => ?_
  unfold Oper.wp execOp
  simp only [ho, Sem.run_bind, List.map_toArray, List.map_nil, hrun, Result.andThen_ok, Sem.run_pure]
  exact hK _ _ h
set_option maxRecDepth 100000 in
theorem neq_apart (l m : List UInt8) (hl : l.length = 32) (hm : m.length = 32) (h : l ≠ m) (w : World) : (binOp .neq 34 (.agg (byteCells l).toArray) (.agg (byteCells m).toArray)).run Tryd.prog w = .ok (.bool true) w := by
  rw [run_neq_struct, eq_sums l m hl hm, show (l == m) = false by simpa using h]
  rfl
set_option maxRecDepth 100000 in
theorem zeros_bytes (n : Nat) : zeros n = byteCells (List.replicate n 0) := by
  simp [zeros, byteCells]
  right
  rfl
set_option maxRecDepth 100000 in
theorem build28 (w : World) : (Instr.build 34 #[]).run Tryd.prog w = .ok (.agg (zeros 32).toArray) w := by kernel_rfl

set_option maxRecDepth 100000 in
set_option maxHeartbeats 2000000 in
theorem rings_any (w : World) (ht : tables w) :
    Calls Tryd.prog 27 #[] w fun e w' => e = .returned (.bool true) ∧ Below w.heap.size w w' := by
  have hzr := zeroRing
  have hcv : (convert 22 22 (.slice (some ⟨w.heap.size, 0, none⟩) 4 4)).run Tryd.prog (w.alloc (.cells #[.int .u8 119, .int .u8 111, .int .u8 114, .int .u8 100] 5)) = .ok (.slice (some ⟨w.heap.size, 0, none⟩) 4 4) (w.alloc (.cells #[.int .u8 119, .int .u8 111, .int .u8 114, .int .u8 100] 5 (4, 5))) := Joins.run_convert_bytes_const_at w 22 5 _ 4 4 _ rfl Tryd.underlying22 Tryd.underlying5
  have C0 : Hid ((w.alloc (.cells #[.int .u8 119, .int .u8 111, .int .u8 114, .int .u8 100] 5 (4, 5))).heap[w.heap.size]? = some (.cells (byteCells wordL).toArray 5 (4, 5))) := Lib.hid (heap_alloc_new w _)
  have B0 : Hid (Below w.heap.size w (w.alloc (.cells #[.int .u8 119, .int .u8 111, .int .u8 114, .int .u8 100] 5 (4, 5)))) := Lib.hid (alloc_below w _)
  have Z0 : Hid (w.heap.size < (w.alloc (.cells #[.int .u8 119, .int .u8 111, .int .u8 114, .int .u8 100] 5 (4, 5))).heap.size) := Lib.hid (by simp)
  have HT := Lib.hid ht
  clear ht
  obtain ⟨L, hL⟩ : ∃ L, L = ringL ringS := ⟨_, rfl⟩
  obtain ⟨m1, hm1⟩ : ∃ m, m = hmac ringS hideW := ⟨_, rfl⟩
  obtain ⟨m2, hm2⟩ : ∃ m, m = hmac ringS markW := ⟨_, rfl⟩
  obtain ⟨m3, hm3⟩ : ∃ m, m = hmac ringS nameW := ⟨_, rfl⟩
  have HLM : Hid (byteCells L = byteCells m1 ++ (byteCells m2 ++ byteCells m3)) := Lib.hid (by rw [hL, hm1, hm2, hm3]; simp [ringL, byteCells])
  have l1 : m1.length = 32 := by rw [hm1]; exact hmac_length _ _
  have l2 : m2.length = 32 := by rw [hm2]; exact hmac_length _ _
  have l3 : m3.length = 32 := by rw [hm3]; exact hmac_length _ _
  have hq := neq_apart m1 m2 l1 l2 (by rw [hm1, hm2]; exact ring_apart)
  have hq2 := neq_apart m3 (List.replicate 32 0) l3 (by simp) (by rw [hm3]; exact ring_named)
  rw [← zeros_bytes] at hq2
  have HMK : Hid (∀ (X : World) (g h : Nat), tables X → bytesIn X (some ⟨g, 0, none⟩) wordL → bytesIn X (some ⟨h, 0, none⟩) saltL → Calls Tryd.prog 29 #[.slice (some ⟨g, 0, none⟩) 4 4, .slice (some ⟨h, 0, none⟩) 16 16, .int .i64 1] X fun e w' => e = .returned (.tuple #[.agg (byteCells L).toArray, .int .i64 0]) ∧ Below X.heap.size X w') := Lib.hid (fun X g h t1 t2 t3 => by
    have := make_ok (some ⟨g, 0, none⟩) (some ⟨h, 0, none⟩) 4 16 wordL saltL 1 X (by decide) (by decide) (by decide) (by decide) t2 rfl (by decide) (by decide) t3 (by decide) (by decide) t1
    rw [show (1 : Int).toNat = 1 from rfl, ringS_eq, ← hL] at this
    exact this)
  have HMB : Hid (∀ (X : World) (h : Nat), Calls Tryd.prog 29 #[.slice none 0 0, .slice (some ⟨h, 0, none⟩) 16 16, .int .i64 1] X fun e w' => e = .returned (.tuple #[.agg (zeros 96).toArray, .int .i64 1]) ∧ Below X.heap.size X w') := Lib.hid (fun X h => make_bad none (some ⟨h, 0, none⟩) 0 16 [] saltL 1 X (Or.inl rfl))
  have HL : Hid ((byteCells L).length = 96) := Lib.hid (by rw [hL, byteCells_length]; exact ringL_length _)
  have HL1 : Hid (∀ v ∈ byteCells L, v.oneCell' = true) := Lib.hid (byteCells_one L)
  have M1 : Hid ((byteCells m1).length = 32) := Lib.hid (by rw [byteCells_length, l1])
  have M2 : Hid ((byteCells m2).length = 32) := Lib.hid (by rw [byteCells_length, l2])
  have M3 : Hid ((byteCells m3).length = 32) := Lib.hid (by rw [byteCells_length, l3])
  clear hL hm1 hm2 hm3 l1 l2 l3
  generalize byteCells L = LL at *
  generalize byteCells m1 = x1 at *
  generalize byteCells m2 = x2 at *
  generalize byteCells m3 = x3 at *
  have SB : Hid (∀ x ∈ zeros 96, x.oneCell' = true) := Lib.hid (by rw [zeros_bytes]; exact byteCells_one _)
  go_enter Tryd.func27, Tryd.ntmps27
  go_wp2_with fail
  generalize w.alloc (.cells #[.int .u8 119, .int .u8 111, .int .u8 114, .int .u8 100] 5 (4, 5)) = w0 at *
  with_reducible refine (salt_any w0).mono ?_
  rintro e w1 ⟨rfl, hw1⟩
  have b1 : Below w0.heap.size w0 w1 := by rw [hw1]; exact alloc_below w0 _
  have S1 : Hid (bytesIn w1 (some ⟨w0.heap.size, 0, none⟩) saltL) := Lib.hid (salt_in _ _ _ _ (by rw [hw1]; exact heap_alloc_new w0 _))
  have S0 : Hid (bytesIn w1 (some ⟨w.heap.size, 0, none⟩) wordL) := Lib.hid (salt_in _ _ _ _ (by rw [b1.block _ Z0.out]; exact C0.out))
  have B1 := Lib.hid (B0.out.trans (b1.mono B0.out.size))
  have T1 := Lib.hid (HT.out.below B1.out HT.out.2.2.1 HT.out.2.2.2)
  clear hw1 b1 B0 C0 Z0 hcv
  go_wp2_with fail
  with_reducible refine (HMK.out w1 _ _ T1.out S0.out S1.out).mono ?_
  rintro e w2 ⟨rfl, k2⟩
  have B2 := Lib.hid (B1.out.trans (k2.mono B1.out.size))
  clear S1 S0 B1 T1 k2 HMK
  have N2 := Lib.hid (blockIs.new w2 (zeros 96) 58)
  have D2 := Lib.hid (B2.out.trans ((alloc_below w2 (.cells (zeros 96).toArray 58 (0, 0))).mono B2.out.size))
  go_wp2_with (refine wpList_store_block rfl 58 _ _ rfl w2.heap.size 0 LL rfl rfl (zeros 96) 58 N2.out (by rw [infoRing, HL.out]) (by simp [zeros, HL.out]) HL1.out ?_)
  intro w3 h1 h2 h3
  have h1 := h1.out
  rw [splice_all _ _ (by simp [zeros, HL.out])] at h1
  have E3 := Lib.hid h1
  have D3 := Lib.hid (D2.out.trans (h2.out.below B2.out.size D2.out.size))
  clear h1 h2 h3 N2 D2 B2
  generalize w2.heap.size = g at *
  go_wp2_with fail
  with_reducible refine (salt_any w3).mono ?_
  rintro e w4 ⟨rfl, hw1⟩
  have b1 : Below w3.heap.size w3 w4 := by rw [hw1]; exact alloc_below w3 _
  have E4 := Lib.hid (E3.out.below b1 E3.out.lt)
  have D4 := Lib.hid (D3.out.trans (b1.mono D3.out.size))
  clear hw1 b1 E3 D3
  go_wp2_with fail
  with_reducible refine (HMB.out w4 _).mono ?_
  rintro e w5 ⟨rfl, b1⟩
  have E5 := Lib.hid (E4.out.below b1 E4.out.lt)
  have D5 := Lib.hid (D4.out.trans (b1.mono D4.out.size))
  clear b1 E4 D4 HMB
  have N5 := Lib.hid (blockIs.new w5 (zeros 96) 58)
  have A5 := Lib.hid (alloc_below w5 (.cells (zeros 96).toArray 58 (0, 0)))
  have E6 := Lib.hid (E5.out.below A5.out E5.out.lt)
  have D6 := Lib.hid (D5.out.trans (A5.out.mono D5.out.size))
  have hne : Hid (g ≠ w5.heap.size) := Lib.hid (Nat.ne_of_lt E5.out.lt)
  have hle : Hid (w.heap.size ≤ w5.heap.size) := Lib.hid D5.out.size
  clear E5 D5 A5
  go_wp2_with (refine wpList_store_block rfl 58 _ _ rfl w5.heap.size 0 (zeros 96) rfl rfl (zeros 96) 58 N5.out (by rw [infoRing]; rfl) (by simp [zeros]) SB.out ?_)
  intro w7 h1 h2 h3
  have E7 := Lib.hid (h2.out.is E6.out hne.out)
  have D7 := Lib.hid (D6.out.trans (h2.out.below hle.out D6.out.size))
  clear h1 h2 h3 E6 D6 N5 hne hle
  have R1 : Hid (w7.rangeAt g 0 x1) := Lib.hid (by
    have h := E7.out
    rw [HLM.out] at h
    exact rangeAt_block (p := []) h)
  have R2 : Hid (w7.rangeAt g 32 x2) := Lib.hid (by
    have h := E7.out
    rw [HLM.out] at h
    have := rangeAt_block (p := x1) (cs := x2) h
    rwa [M1.out] at this)
  have R3 : Hid (w7.rangeAt g 64 x3) := Lib.hid (by
    have h := E7.out
    rw [HLM.out, show x1 ++ (x2 ++ x3) = (x1 ++ x2) ++ (x3 ++ []) by simp] at h
    have := rangeAt_block (p := x1 ++ x2) (cs := x3) h
    rwa [List.length_append, M1.out, M2.out] at this)
  have hgt := egt28
  have hb := build28
  go_wp2_with (first
    | (refine wpList_load_mid_if (by rfl) 34 _ rfl g 0 rfl x1 _ R1.out Tryd.underlying34 rfl (by rw [info28, M1.out]) ?_)
    | (refine wpList_load_mid_if (by rfl) 34 _ rfl g 32 rfl x2 _ R2.out Tryd.underlying34 rfl (by rw [info28, M2.out]) ?_)
    | (refine wpList_load_mid_if (by rfl) 34 _ rfl g 64 rfl x3 _ R3.out Tryd.underlying34 rfl (by rw [info28, M3.out]) ?_)
    | (refine wpList_build_if (by rfl) 34 rfl _ (hb _) ?_))
  go_ret
  exact ⟨rfl, D7.out⟩
end Go.Proofs.YtjkhokholcchfaaDoor
