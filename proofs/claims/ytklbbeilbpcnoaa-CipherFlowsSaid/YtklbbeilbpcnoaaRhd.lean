/- hypogeumref02.Hide: the document's flow. -/
import Derived.Test.YtklbbeilbpcnoaaRtn
import Derived.Test.YtklbbeilbpcnoaaRds
namespace Go.Proofs.Ytklbbeilbpcnoaa
open Go.RowKit Sha Aes

theorem ownB.still {w w' : World} {base : Nat} {v : Value} {l : List UInt8} (h : ownB w base v l) (k : Below w.heap.size w w') : ownB w' base v l := by
  refine ⟨h.1, ?_⟩
  rcases h.2 with h0 | ⟨q, cap, cur, hv, hq, hc, r⟩
  · exact .inl h0
  · exact .inr ⟨q, cap, cur, hv, hq, (k.block q (Array.getElem?_eq_some_iff.1 hc).1).trans hc, r⟩
/-- The first k bytes, hidden. -/
def hideP (ws : List W) (N : List UInt8) (p : Nat) (B : List UInt8) (k : Nat) : List UInt8 := (List.range k).map fun i => B.getD i 0 ^^^ sb ws N (p + i)
theorem hideP_next (ws : List W) (N : List UInt8) (p : Nat) (B : List UInt8) (k : Nat) : hideP ws N p B (k + 1) = hideP ws N p B k ++ [B.getD k 0 ^^^ sb ws N (p + k)] := by
  simp [hideP, List.range_succ]
theorem hideP_len (ws : List W) (N : List UInt8) (p : Nat) (B : List UInt8) (k : Nat) : (hideP ws N p B k).length = k := by simp [hideP]
/-- What the document remembers of the last block. -/
def seen (ws : List W) (N : List UInt8) (S : List UInt8) (z : Int) : Prop := ∀ n : Nat, z = (n : Int) → S = Aes.turn ws (plus N n)
theorem step_app2 {w : World} {ops : Array Oper} {o : Oper} {a : Act} {K : Act → World → Prop} {Q : Exit → Act → World → Prop} {E : Prop} (hgd : o.guard = none) (s x : Operand)
    (ho : o.op = .call { callee := .builtin .append, args := #[s, x], argTypes := #[28, 28] })
    (base : Nat) (v : Value) (xs : List UInt8) (hs : a.eval s = v) (hown : ownB w base v xs) (A : Option Addr) (n c : Nat) (l : List UInt8) (hnl : n = l.length) (hx : a.eval x = .slice A n c) (hA : A = none → c = 0) (hb : bytesIn w A l)
    (hn : xs.length + l.length ≤ 1000000) (hbase : base ≤ w.heap.size)
    (h : ∀ v' w', Hid (ownB w' base v' (xs ++ l)) → Hid (Below base w w') → K (a.put o.dst v') w') : if Region.wanted o (yielded ops a.tmps) = true then Oper.wp Try.prog o a w K Q else E := by
  have hw : Region.wanted o (yielded ops a.tmps) = true := by simp [Region.wanted, hgd]
  rw [if_pos hw]
  obtain ⟨i0, hi, hz0, hz1, hz2⟩ := info_parts info_u8
  subst hnl
  cases A with
  | none =>
    have hl : l = [] := by
      rcases hb with h | ⟨_, _, h, _⟩
      · exact h
      · cases h
    subst hl
    have hx : a.eval x = .slice none 0 0 := by rw [hx, hA rfl]; rfl
    have hrun := run_append_owned_none (P := Try.prog) (w := w) base 28 o.type 5 i0 1 Try.underlying28 hi v xs.length (byteCells xs) hown
    unfold Oper.wp execOp
    simp only [ho, resolve, invoke, builtin, Sem.run_bind, Sem.run_pure, Result.andThen_ok, List.map_toArray, List.map_cons, List.map_nil, hs, hx, hrun]
    exact h v w (Lib.hid (by rw [List.append_nil]; exact hown)) (Lib.hid (Below.refl _ _))
  | some ad =>
    refine wp_append_own w s x 28 ho base 5 i0 (.int .u8 0) 1 1 Try.underlying28 hi hz0 hz1 hz2 rfl (by decide) v xs.length (byteCells xs) hs hown ad l.length c (byteCells l) hx (by rw [byteCells_length, Nat.mul_one]) (fun j u hj => ?_) (byteCells_one l) (by unfold maxLen; omega) (by omega) hbase (fun v' w' r1 r2 _ => ?_)
    · have hlt := (List.getElem?_eq_some_iff.1 hj).1
      rw [byteCells_length] at hlt
      rcases hb with h0 | ⟨bb, bo, he, hc⟩
      · rw [h0] at hlt; exact absurd hlt (Nat.not_lt_zero _)
      · obtain rfl := Option.some.inj he
        rw [Addr.add_lit, hc j hlt]
        rw [byteCells_get l j hlt] at hj
        exact hj
    · refine h v' w' (Lib.hid ?_) (Lib.hid (grown_below hown r2 hbase))
      unfold ownB
      rw [List.length_append, byteCells_append]
      exact r1
theorem keyIs.below {w w' : World} {kb g : Nat} {K : List UInt8} (h : keyIs w kb g K) (k : Below w.heap.size w w') : keyIs w' kb g K := ⟨h.1.below k h.1.lt, h.2.below k h.2.lt⟩

set_option maxRecDepth 100000 in
set_option maxHeartbeats 4000000 in
theorem docHide_any (kb g : Nat) (K N B : List UInt8) (p : Nat) (w : World) (hN : N.length = 16) (hp : p ≤ 1099511627776) (hB : B.length ≤ 1000) (hk : keyIs w kb g K) :
    Calls Try.prog 22 #[.pointer (some ⟨kb, 0, none⟩), .string (str N), .int .i64 p, .string (str B)] w fun e w' => e = .returned (.string (str (hideL (Aes.words K 60) N p B))) ∧ Below w.heap.size w w' := by
  have HNL := Lib.hid hN
  have HBL := Lib.hid hB
  have HPL := Lib.hid hp
  have HK := Lib.hid hk
  have hs := str_size B
  clear hN hk hB hp
  go_enter Try.func22, Try.ntmps22
  go_wp2_with fail
  go_loopw [12, 9, 10, 11] (fun i v s h wr => ∃ (k : Nat) (S : List UInt8) (z : Int), k ≤ B.length ∧ i = .int .i64 k ∧ s = .string (str S) ∧ h = .int .i64 z ∧ ownB wr w.heap.size v (hideP (Aes.words K 60) N p B k) ∧ seen (Aes.words K 60) N S z ∧ Below w.heap.size w wr) (fun i _ _ _ _ => ((B.length : Int) - intOf i).toNat)
  case atStart => exact ⟨0, [], -1, by omega, rfl, rfl, rfl, World.ownsRow_nil _ _ _ _, fun n h => by omega, Below.refl _ _⟩
  case round =>
    obtain ⟨k, SS, zz, hk, rfl, rfl, rfl, h1, h2, h3⟩ := hrel
    have H1 := Lib.hid h1
    have H2 := Lib.hid h2
    have H3 := Lib.hid h3
    clear h1 h2 h3
    by_cases hlt : k < B.length
    · have q : (k : Int) < (B.length : Int) := by omega
      have hpl := HPL.out
      have hbl := HBL.out
      obtain ⟨n, hn⟩ : ∃ n, n = (p + k) / 16 := ⟨_, rfl⟩
      obtain ⟨m, hm⟩ : ∃ m, m = (p + k) % 16 := ⟨_, rfl⟩
      have a1 : IntKind.i64.wrap ((p : Int) + (k : Int)) = (p : Int) + (k : Int) := IntWalk.i64_in _ (by omega)
      have a2 : ((p : Int) + (k : Int)) / 16 = (n : Int) := by omega
      have a3 : 0 ≤ (p : Int) + (k : Int) := by omega
      have a4 : ((p : Int) + (k : Int)).tdiv 16 = (n : Int) := by rw [Int.tdiv_eq_ediv_of_nonneg a3]; exact a2
      have a5 : IntKind.i64.wrap (n : Int) = (n : Int) := IntWalk.i64_in _ (by omega)
      have a6 : ((p : Int) + (k : Int)) % 16 = (m : Int) := by omega
      have a7 : ((p : Int) + (k : Int)).tmod 16 = (m : Int) := by rw [Int.tmod_eq_emod_of_nonneg a3]; exact a6
      have nl : n ≤ 36028797018963968 := by omega
      have ix := fun X => index_str B k hlt X
      have ml : m < 16 := by omega
      have p0 : 0 ≤ (k : Int) := by omega
      have HX := Lib.hid (hideP_next (Aes.words K 60) N p B k)
      have HSB : Hid (sb (Aes.words K 60) N (p + k) = (Aes.turn (Aes.words K 60) (plus N n)).getD m 0) := Lib.hid (by unfold sb; rw [hn, hm])
      rw [HSB.out] at HX
      have HTL := Lib.hid (turn_length (Aes.words K 60) (plus N n))
      have PP := fun X => refPlus_any N n X HNL.out nl
      have PT := fun X hX => docTurn_any kb g K (plus N n) X (by rw [plus_len, HNL.out]) hX
      have PP := Lib.hid PP
      have PT := Lib.hid PT
      have HSN : Hid (seen (Aes.words K 60) N (Aes.turn (Aes.words K 60) (plus N n)) (n : Int)) := Lib.hid (fun n' h => by rw [show n' = n by omega])
      clear hn hm
      obtain ⟨TB, hTB⟩ : ∃ TB, TB = Aes.turn (Aes.words K 60) (plus N n) := ⟨_, rfl⟩
      rw [← hTB] at HX HTL HSN
      have HTB := Lib.hid hTB.symm
      have PT : Hid (∀ X, keyIs X kb g K → Calls Try.prog 15 #[.pointer (some ⟨kb, 0, none⟩), .string (str (plus N n))] X fun e w' => e = .returned (.string (str TB)) ∧ Below X.heap.size X w') := Lib.hid (by rw [hTB]; exact PT.out)
      clear hTB HSB
      go_upto_if 26 with fail
      go_cut [10, 11] (fun s' h' wx => s' = .string (str TB) ∧ h' = .int .i64 (n : Int) ∧ Below wr.heap.size wr wx)
      case first =>
        by_cases he : zz = (n : Int)
        · have bn : ((n : Int) != zz) = false := by simp [he]
          have HE := Lib.hid he
          have HS2 := Lib.hid ((H2.out n he).trans HTB.out)
          clear he
          go_wp2_with fail
          go_meet
          case rel => exact ⟨by rw [HS2.out], by rw [HE.out], Below.refl _ _⟩
        · have bn : ((n : Int) != zz) = true := by simp; omega
          clear he
          go_wp2_with fail
          with_reducible refine (PP.out _).mono ?_
          rintro e w1 ⟨rfl, k1⟩
          have K1 := Lib.hid k1
          clear k1
          go_wp2_with fail
          with_reducible refine (PT.out _ (HK.out.below (H3.out.trans (K1.out.mono H3.out.size)))).mono ?_
          rintro e w2 ⟨rfl, k2⟩
          have K2 := Lib.hid k2
          clear k2
          go_wp2_with fail
          go_meet
          case rel => exact ⟨rfl, rfl, K1.out.trans (K2.out.mono K1.out.size)⟩
      case rest =>
        obtain ⟨rfl, rfl, h4⟩ := hcut
        have O4 := Lib.hid (H1.out.still h4)
        have B4 := Lib.hid (H3.out.trans (h4.mono H3.out.size))
        clear h4 H1 H3 PP PT
        have iy := fun X => index_str TB m (by rw [HTL.out]; exact ml) X
        generalize B.getD k 0 = x at *
        generalize TB.getD m 0 = y at *
        have xy := V_xor x y
        generalize x ^^^ y = z at *
        have C1 := Lib.hid (blockIs.new wc [.int .u8 (V z)] 5)
        have O5 : Hid (ownB (wc.alloc (.cells [.int .u8 (V z)].toArray 5 (0, 0))).drew w.heap.size _ (hideP (Aes.words K 60) N p B k)) := Lib.hid (O4.out.still (alloc_below wc (.cells [.int .u8 (V z)].toArray 5 (0, 0))).drew)
        have B5 : Hid (Below w.heap.size w (wc.alloc (.cells [.int .u8 (V z)].toArray 5 (0, 0))).drew) := Lib.hid (B4.out.trans ((alloc_below wc (.cells [.int .u8 (V z)].toArray 5 (0, 0))).drew.mono B4.out.size))
        have IN : Hid (bytesIn (wc.alloc (.cells [.int .u8 (V z)].toArray 5 (0, 0))).drew (some ⟨wc.heap.size, 0, none⟩) [z]) := Lib.hid (Or.inr ⟨_, _, rfl, fun j hj => by
          have : j = 0 := by simpa using hj
          subst this
          exact (C1.out.cell 0).trans rfl⟩)
        have HLL := Lib.hid (hideP_len (Aes.words K 60) N p B k)
        clear C1 O4 B4
        go_wp2_with fail
        refine wp_region_noPanic ?_
        refine wp_region_held_drew (S := fun _ => True) (by kernel_rfl) trivial (fun hH => ?_)
        refine wpAnyH_take (i := 0) (oi := { dst := some 33, op := Op.move (Operand.tmp 9), type := 28, pos := "ref.go:129", after := #[], guard := none }) (v := u9) rfl (by kernel_rfl) (by kernel_rfl) (by kernel_rfl) (fun _ _ _ h => h) (Or.inl ⟨by rfl, fun wx hS => ?_⟩) hH ?_
        · go_simp
        simp only [Act.put, List.setIfInBounds_toArray, List.set_cons_zero, List.set_cons_succ]
        refine wpAnyH_take (i := 1) (oi := { dst := some 34, op := Op.move (Operand.tmp 3), type := 9, pos := "ref.go:129", after := #[], guard := none }) (v := .string (str B)) rfl (by kernel_rfl) (by kernel_rfl) (by kernel_rfl) (fun _ _ _ h => h) (Or.inl ⟨by rfl, fun wx hS => ?_⟩) hH ?_
        · go_simp
        simp only [Act.put, List.setIfInBounds_toArray, List.set_cons_zero, List.set_cons_succ]
        refine wpAnyH_take (i := 2) (oi := { dst := some 35, op := Op.move (Operand.tmp 12), type := 3, pos := "ref.go:129", after := #[], guard := none }) (v := .int .i64 (k : Int)) rfl (by kernel_rfl) (by kernel_rfl) (by kernel_rfl) (fun _ _ _ h => h) (Or.inl ⟨by rfl, fun wx hS => ?_⟩) hH ?_
        · go_simp
        simp only [Act.put, List.setIfInBounds_toArray, List.set_cons_zero, List.set_cons_succ]
        refine wpAnyH_take (i := 3) (oi := { dst := some 36, op := Op.index 9 (Operand.tmp 34) (Operand.tmp 35), type := 5, pos := "ref.go:129", after := #[{ on := 1, ground := Ground.data }, { on := 2, ground := Ground.data }], guard := none }) (v := .int .u8 (V x)) rfl (by kernel_rfl) (by kernel_rfl) (by kernel_rfl) (fun _ _ _ h => h) (Or.inl ⟨by rfl, fun wx hS => ?_⟩) hH ?_
        · have e1 := ix wx; go_simp
        simp only [Act.put, List.setIfInBounds_toArray, List.set_cons_zero, List.set_cons_succ]
        refine wpAnyH_take (i := 4) (oi := { dst := some 37, op := Op.move (Operand.tmp 10), type := 9, pos := "ref.go:129", after := #[], guard := none }) (v := .string (str TB)) rfl (by kernel_rfl) (by kernel_rfl) (by kernel_rfl) (fun _ _ _ h => h) (Or.inl ⟨by rfl, fun wx hS => ?_⟩) hH ?_
        · go_simp
        simp only [Act.put, List.setIfInBounds_toArray, List.set_cons_zero, List.set_cons_succ]
        refine wpAnyH_take (i := 5) (oi := { dst := some 38, op := Op.move (Operand.tmp 2), type := 3, pos := "ref.go:129", after := #[], guard := none }) (v := .int .i64 (p : Int)) rfl (by kernel_rfl) (by kernel_rfl) (by kernel_rfl) (fun _ _ _ h => h) (Or.inl ⟨by rfl, fun wx hS => ?_⟩) hH ?_
        · go_simp
        simp only [Act.put, List.setIfInBounds_toArray, List.set_cons_zero, List.set_cons_succ]
        refine wpAnyH_take (i := 6) (oi := { dst := some 39, op := Op.move (Operand.tmp 12), type := 3, pos := "ref.go:129", after := #[], guard := none }) (v := .int .i64 (k : Int)) rfl (by kernel_rfl) (by kernel_rfl) (by kernel_rfl) (fun _ _ _ h => h) (Or.inl ⟨by rfl, fun wx hS => ?_⟩) hH ?_
        · go_simp
        simp only [Act.put, List.setIfInBounds_toArray, List.set_cons_zero, List.set_cons_succ]
        refine wpAnyH_take (i := 7) (oi := { dst := some 40, op := Op.binOp BinOp.add 3 (Operand.tmp 38) (Operand.tmp 39) 3, type := 3, pos := "ref.go:129", after := #[{ on := 5, ground := Ground.data }, { on := 6, ground := Ground.data }], guard := none }) (v := .int .i64 ((p : Int) + (k : Int))) rfl (by kernel_rfl) (by kernel_rfl) (by kernel_rfl) (fun _ _ _ h => h) (Or.inl ⟨by rfl, fun wx hS => ?_⟩) hH ?_
        · have e1 := a1; go_simp
        simp only [Act.put, List.setIfInBounds_toArray, List.set_cons_zero, List.set_cons_succ]
        refine wpAnyH_take (i := 8) (oi := { dst := some 41, op := Op.binOp BinOp.rem 3 (Operand.tmp 40) (Operand.const (Value.int IntKind.i64 16)) 3, type := 3, pos := "ref.go:129", after := #[{ on := 7, ground := Ground.data }], guard := none }) (v := .int .i64 (m : Int)) rfl (by kernel_rfl) (by kernel_rfl) (by kernel_rfl) (fun _ _ _ h => h) (Or.inl ⟨by rfl, fun wx hS => ?_⟩) hH ?_
        · have e1 := a6; have e2 := a3; go_simp
        simp only [Act.put, List.setIfInBounds_toArray, List.set_cons_zero, List.set_cons_succ]
        refine wpAnyH_take (i := 9) (oi := { dst := some 42, op := Op.index 9 (Operand.tmp 37) (Operand.tmp 41), type := 5, pos := "ref.go:129", after := #[{ on := 4, ground := Ground.data }, { on := 8, ground := Ground.data }], guard := none }) (v := .int .u8 (V y)) rfl (by kernel_rfl) (by kernel_rfl) (by kernel_rfl) (fun _ _ _ h => h) (Or.inl ⟨by rfl, fun wx hS => ?_⟩) hH ?_
        · have e1 := iy wx; go_simp
        simp only [Act.put, List.setIfInBounds_toArray, List.set_cons_zero, List.set_cons_succ]
        refine wpAnyH_take (i := 10) (oi := { dst := some 43, op := Op.binOp BinOp.xor 5 (Operand.tmp 36) (Operand.tmp 42) 5, type := 5, pos := "ref.go:129", after := #[{ on := 3, ground := Ground.data }, { on := 9, ground := Ground.data }], guard := none }) (v := .int .u8 (V z)) rfl (by kernel_rfl) (by kernel_rfl) (by kernel_rfl) (fun _ _ _ h => h) (Or.inl ⟨by rfl, fun wx hS => ?_⟩) hH ?_
        · have e1 := xy; go_simp
        simp only [Act.put, List.setIfInBounds_toArray, List.set_cons_zero, List.set_cons_succ]
        refine wpAnyH_ready (rs := [11]) (by kernel_rfl) (by simp) ?_
        refine AllReadyH.cons (o := { dst := some 44, op := Op.buildSlice 28 1 #[(0, Operand.tmp 43)], type := 28, pos := "ref.go:129", after := #[{ on := 10, ground := Ground.data }], guard := none }) rfl (fun KK hKK => ?_) AllReadyH.nil
        go_simp
        refine hKK.out _ _ trivial (fun hH => ?_)
        clear hKK KK hH
        try simp only [Act.put, List.setIfInBounds_toArray, List.set_cons_zero, List.set_cons_succ]
        refine wpAnyH_ready (rs := [12]) (by kernel_rfl) (by simp) ?_
        refine AllReadyH.cons (o := { dst := some 45, op := Op.call { callee := Callee.builtin Builtin.append, args := #[Operand.tmp 33, Operand.tmp 44], argTypes := #[28, 28] }, type := 28, pos := "ref.go:129", after := #[{ on := 0, ground := Ground.data }, { on := 11, ground := Ground.data }], guard := none }) rfl (fun KK hKK => ?_) AllReadyH.nil
        refine step_app2 rfl _ _ rfl w.heap.size u9 (hideP (Aes.words K 60) N p B k) rfl O5.out (some ⟨wc.heap.size, 0, none⟩) 1 1 [z] rfl rfl (fun h => by cases h) IN.out (by rw [HLL.out]; simp; omega) B5.out.size ?_
        intro v3 x3 r1 r2
        have r1 := r1.out
        rw [← HX.out] at r1
        have O6 := Lib.hid r1
        have B6 := Lib.hid (B5.out.trans r2.out)
        clear r1 r2 O5 B5 IN HX
        refine hKK.out _ _ trivial (fun hH => ?_)
        clear hKK KK hH
        try simp only [Act.put, List.setIfInBounds_toArray, List.set_cons_zero, List.set_cons_succ]
        refine wpAnyH_ready (rs := [13]) (by kernel_rfl) (by simp) ?_
        refine AllReadyH.cons (o := { dst := some 9, op := Op.assign (Operand.tmp 45), type := 28, pos := "ref.go:129", after := #[{ on := 12, ground := Ground.data }, { on := 12, ground := Ground.chain }, { on := 0, ground := Ground.phase }, { on := 1, ground := Ground.phase }, { on := 2, ground := Ground.phase }, { on := 3, ground := Ground.phase }, { on := 4, ground := Ground.phase }, { on := 5, ground := Ground.phase }, { on := 6, ground := Ground.phase }, { on := 7, ground := Ground.phase }, { on := 8, ground := Ground.phase }, { on := 9, ground := Ground.phase }, { on := 10, ground := Ground.phase }, { on := 11, ground := Ground.phase }, { on := 12, ground := Ground.phase }], guard := none }) rfl (fun KK hKK => ?_) AllReadyH.nil
        go_simp
        refine hKK.out _ _ trivial (fun hH => ?_)
        clear hKK KK hH
        try simp only [Act.put, List.setIfInBounds_toArray, List.set_cons_zero, List.set_cons_succ]
        refine wpAnyH_done (by kernel_rfl) ?_ _
        refine NoPanic.normal ?_
        go_wp2_with fail
        go_roundw
        case rel => exact ⟨k + 1, TB, n, by omega, by go_num, rfl, rfl, O6.out, HSN.out, B6.out⟩
        case measure => simp [intOf]; omega
    · have HKE := Lib.hid (show k = B.length by omega)
      have q : ¬ (k : Int) < (B.length : Int) := by omega
      have h1 := H1.out
      have e : hideP (Aes.words K 60) N p B k = hideL (Aes.words K 60) N p B := by rw [HKE.out]; rfl
      rw [e] at h1
      obtain ⟨a, c, rfl, _, _, hin, _⟩ := h1.form
      clear e h1 H1
      generalize hF : hideL (Aes.words K 60) N p B = F at *
      have HFE := Lib.hid hF
      clear hF
      have cv := conv_string wr a F c hin
      clear hin
      go_wp2_with fail
      go_ret
      exact ⟨by rw [HFE.out]; rfl, H3.out⟩
end Go.Proofs.Ytklbbeilbpcnoaa
