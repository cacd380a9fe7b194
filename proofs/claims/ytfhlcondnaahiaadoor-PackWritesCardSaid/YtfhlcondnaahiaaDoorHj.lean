/- The document's Writer: Close; Add of no kind. -/
import Derived.Test.YtfhlcondnaahiaaDoorTk
import Derived.Test.YtfhlcondnaahiaaDoorRx
import Derived.Test.YtfhlcondnaahiaaDoorHc
import Derived.Test.YtfhlcondnaahiaaDoorPs
section
namespace Go.Proofs.YtfhlcondnaahiaaDoor
open Go.RowKit Sha

set_option maxRecDepth 100000 in
set_option maxHeartbeats 4000000 in
theorem rclose_none (RG F B : List UInt8) (used : Nat) (lv : Value) (base rb : Nat) (w : World) (hRG : RG.length = 96) (hR : RefAt w base rb RG F used B [] lv) :
    Calls Tryd.prog 14 #[.pointer (some ⟨rb, 0, none⟩)] w fun e w' => e = .returned (.tuple #[.string (str []), .string (str []), .slice none 0 0, .int .i64 15]) ∧ w = w' := by
  obtain ⟨al, cl, hlv, -⟩ := own_ensW hR.2.1 (fun x hx => absurd hx List.not_mem_nil)
  have e99 := ref_at99 hRG hR.1
  rw [hlv, List.length_nil] at e99
  go_enter Tryd.func14, Tryd.ntmps14
  go_wp2_with fail
  refine bodyPost_ret (v := .tuple #[.string (str []), .string (str []), .slice none 0 0, .int .i64 15]) (results_tmp4 (t := 2) (u := 3) (v := 4) (x := 5) rfl _ _ _) rfl ?_
  exact ⟨rfl, rfl⟩
set_option maxRecDepth 100000 in
set_option maxHeartbeats 8000000 in
theorem rclose_any (H M C F : List UInt8) (used : Nat) (B : List UInt8) (L : List En) (lv : Value) (base rb : Nat) (w : World) (hH : H.length = 32) (hM : M.length = 32) (hC : C.length = 32) (hF : F.length ≤ 400) (hu : used ≤ 60000)
    (hL : L.length ≤ 20) (hB : B.length ≤ 50000) (hf : ∀ x ∈ L, x.fine) (hne : L ≠ []) (hR : RefAt w base rb (H ++ (M ++ C)) F used B L lv) :
    Calls Tryd.prog 14 #[.pointer (some ⟨rb, 0, none⟩)] w fun e w' => e = .returned (.tuple #[.string (str (packName (closeB H M F (16 * used) B L))), .string (str (closeB H M F (16 * used) B L)), lv, .int .i64 0]) ∧
      RefAt w' base rb (H ++ (M ++ C)) F (used + 1) [] [] (.slice none 0 0) ∧ w'.ownsRow base 93 35 lv L.length (enCells L) ∧ Kp (fun k => k = rb) w w' := by
  have RGL : Hid ((H ++ (M ++ C)).length = 96) := Lib.hid (by simp [hH, hM, hC])
  have hHL : (headB L).length ≤ 7 + 37 * L.length := headP_len L hf (by omega) L.length
  have WR := Lib.hid (fun X (h : blockIs X rb (refCells (H ++ (M ++ C)) F (used : Int) B lv) 52) => rwrite_any H M C F used B lv rb 104 104 [104, 101, 97, 100] (headB L) X hH hM hC hF hu (by rfl) (by decide) (by omega) h)
  have SL : Hid ((wseal H M 104 [104, 101, 97, 100] (tbytes F (16 * used) 16) (headB L)).length = (headB L).length + 48) := Lib.hid (wseal_length _ _ _ _ _ _ (tbytes_16 _ _))
  rw [show str [104, 101, 97, 100] = ⟨#[104, 101, 97, 100]⟩ from rfl] at WR
  unfold closeB
  generalize wseal H M 104 [104, 101, 97, 100] (tbytes F (16 * used) 16) (headB L) = SB at *
  generalize H ++ (M ++ C) = RG at *
  obtain ⟨al, cl, hlv, hle⟩ := own_ensW hR.2.1 (fun x hx => (hf x hx).1)
  have LE := Lib.hid hle
  have LVv := Lib.hid hlv
  have R0 := Lib.hid hR.1
  have L0 := Lib.hid hR.2.1
  have WB0 := Lib.hid hR.2.2
  have HFI := Lib.hid hf
  have LM := Lib.hid hL
  have BM := Lib.hid hB
  have HHL := Lib.hid hHL
  have NEL : Hid (0 < L.length) := Lib.hid (List.length_pos_iff.2 hne)
  have PBG : Hid (∀ X, Calls Tryd.prog 34 #[.int .u8 104] X fun e w' => e = .returned (.string (str [72, 89, 104])) ∧ Below X.heap.size X w') := Lib.hid (fun X => Gl.refBegin_any 104 X)
  have PNM : Hid (∀ (m : Nat) X, m < 4611686018427387904 → Calls Tryd.prog 35 #[.int .i64 m] X fun e w' => e = .returned (.string (str (Gl.numBytes m))) ∧ Below X.heap.size X w') := Lib.hid (fun m X h => Gl.refNum_any m X h)
  have PNA := Lib.hid (fun X (h : (B ++ (SB ++ be4 SB.length)).length ≤ 100000) => refName_any (B ++ (SB ++ be4 SB.length)) X h)
  have PFO := Lib.hid (fun X (h : SB.length ≤ 1000000000) => rfour_any SB.length h X)
  obtain ⟨HD, hHD⟩ : ∃ HD, HD = headB L := ⟨_, rfl⟩
  have HDE := Lib.hid hHD
  clear hH hM hC hF hu hL hB hf hne hR hlv hle hHL hHD
  obtain ⟨n, hnl⟩ : ∃ n, n = L.length := ⟨_, rfl⟩
  have NL := Lib.hid hnl
  have lvn : Hid (lv = .slice al n cl) := Lib.hid (hnl ▸ LVv.out)
  have c1 : ((n : Int) == 0) = false := by have := NEL.out; have := NL.out; simp; omega
  have c2 : ¬ (n : Int) = 0 := by have := NEL.out; have := NL.out; omega
  have e99 : Hid (∀ X, Below w.heap.size w X → X.cell? ⟨rb, 99, none⟩ = some (.slice al n cl)) := Lib.hid (fun X h => lvn.out ▸ ref_at99 RGL.out (R0.out.below h R0.out.lt))
  have f99 := e99.out w (Below.refl _ _)
  clear hnl
  go_enter Tryd.func14, Tryd.ntmps14
  go_upto_region 3 with fail
  clear c1 c2 f99
  refine wp_region_noPanic ?_
  refine wp_region_held_drew (S := fun w' => Below w.heap.size w w') (by kernel_rfl) (below_drew' (Below.refl _ _)) (fun hH => ?_)
  generalize w.drew = z0 at *
  refine tk (i := 1) (oi := { dst := some 18, op := Op.move (Operand.tmp 0), type := 36, pos := "ref.go:87", after := #[], guard := none }) (v := .pointer (some ⟨rb, 0, none⟩)) rfl (fun wx hS => ?_) hH ?_
  · go_simp
  refine tk (i := 2) (oi := { dst := some 19, op := Op.nilCheck (Operand.tmp 18), type := 0, pos := "ref.go:87", after := #[⟨1, .data⟩], guard := none }) (v := .pointer (some ⟨rb, 0, none⟩)) rfl (fun wx hS => ?_) hH ?_
  · go_simp
  refine tk (i := 3) (oi := { dst := some 20, op := Op.fieldAddr 52 (Operand.tmp 19) 4, type := 0, pos := "ref.go:87", after := #[⟨2, .data⟩], guard := none }) (v := .pointer (some ⟨rb, 99, none⟩)) rfl (fun wx hS => ?_) hH ?_
  · go_simp
  refine tk (i := 4) (oi := { dst := some 21, op := Op.load 41 (Operand.tmp 20), type := 41, pos := "ref.go:87", after := #[⟨3, .data⟩], guard := none }) (v := .slice al n cl) rfl (fun wx hS => ?_) hH ?_
  · have e1 := e99.out wx hS; go_simp
  refine tk (i := 5) (oi := { dst := some 22, op := Op.call { callee := Callee.builtin Builtin.len, args := #[Operand.tmp 21], argTypes := #[41] }, type := 3, pos := "ref.go:87", after := #[⟨4, .data⟩], guard := none }) (v := .int .i64 (n : Int)) rfl (fun wx hS => ?_) hH ?_
  · go_simp
  refine wpAnyH_ready (rs := [0]) (by kernel_rfl) (by simp) ?_
  refine AllReadyH.cons (o := { dst := some 17, op := Op.call { callee := Callee.value (Operand.func 34), args := #[Operand.const (Value.int IntKind.u8 104)], argTypes := #[5] }, type := 9, pos := "ref.go:87", after := #[], guard := none }) rfl (fun KK hKK => ?_) AllReadyH.nil
  go_simp
  with_reducible refine (PBG.out z0).mono ?_
  rintro e z1 ⟨rfl, kb⟩
  have hN := hH.trans (kb.mono hH.size)
  clear hH kb
  refine hKK.out _ _ hN (fun hH => ?_)
  clear hKK KK hN
  try simp only [Act.put, List.setIfInBounds_toArray, List.set_cons_zero, List.set_cons_succ]
  have PN1 := Lib.hid (fun X => PNM.out n X (by have := LM.out; have := NL.out; omega))
  refine wpAnyH_ready (rs := [6]) (by kernel_rfl) (by simp) ?_
  refine AllReadyH.cons (o := { dst := some 23, op := Op.call { callee := Callee.value (Operand.func 35), args := #[Operand.tmp 22], argTypes := #[3] }, type := 9, pos := "ref.go:87", after := #[⟨5, .data⟩, ⟨0, .chain⟩], guard := none }) rfl (fun KK hKK => ?_) AllReadyH.nil
  go_simp
  with_reducible refine (PN1.out z1).mono ?_
  rintro e z2 ⟨rfl, kb⟩
  have hN := hH.trans (kb.mono hH.size)
  clear hH kb
  refine hKK.out _ _ hN (fun hH => ?_)
  clear hKK KK hN
  try simp only [Act.put, List.setIfInBounds_toArray, List.set_cons_zero, List.set_cons_succ]
  have sa := str_size' [72, 89, 104]
  have sb := str_size' (Gl.numBytes n)
  have sc : (Gl.numBytes n).length ≤ 4 := numB_nine n (by have := LM.out; have := NL.out; omega)
  have sd : ¬ 9223372036854775807 < [72, 89, 104].length + (Gl.numBytes n).length := by simp only [List.length_cons, List.length_nil]; omega
  have se : 3 + (Gl.numBytes n).length ≤ 9223372036854775807 := by omega
  have sf : ¬ 9223372036854775807 < 3 + (Gl.numBytes n).length := by omega
  refine tk (i := 7) (oi := { dst := some 24, op := Op.binOp BinOp.add 9 (Operand.tmp 17) (Operand.tmp 23) 9, type := 9, pos := "ref.go:87", after := #[⟨0, .data⟩, ⟨6, .data⟩], guard := none }) (v := .string (str [72, 89, 104] ++ str (Gl.numBytes n))) rfl (fun wx hS => ?_) hH ?_
  · go_simp
  refine wpAnyH_ready (rs := [8]) (by kernel_rfl) (by simp) ?_
  refine AllReadyH.cons (o := { dst := some 6, op := Op.assign (Operand.tmp 24), type := 9, pos := "ref.go:87", after := #[⟨7, .data⟩, ⟨6, .chain⟩, ⟨0, .phase⟩, ⟨1, .phase⟩, ⟨2, .phase⟩, ⟨3, .phase⟩, ⟨4, .phase⟩, ⟨5, .phase⟩, ⟨6, .phase⟩, ⟨7, .phase⟩], guard := none }) rfl (fun KK hKK => ?_) AllReadyH.nil
  go_simp
  refine hKK.out _ _ hH (fun hH => ?_)
  clear hKK KK
  try simp only [Act.put, List.setIfInBounds_toArray, List.set_cons_zero, List.set_cons_succ]
  refine wpAnyH_done (by kernel_rfl) ?_ _
  refine NoPanic.normal ?_
  clear sa sb sc sd se sf
  have B3 := Lib.hid hH
  clear hH
  have HP0 : Hid (str [72, 89, 104] ++ str (Gl.numBytes n) = str (headP L 0)) := Lib.hid (by
    rw [str_append]
    unfold headP
    rw [NL.out]
    simp)
  go_wp2_with fail
  rw [HP0.out]
  go_loopw [6, 7] (fun h i wr => ∃ j : Nat, j ≤ n ∧ i = .int .i64 (j : Int) ∧ h = .string (str (headP L j)) ∧ Hid (Below w.heap.size w wr)) (fun _ i _ => n - (intOf i).toNat)
  case atStart => exact ⟨0, by omega, rfl, rfl, B3⟩
  case round =>
    obtain ⟨j, hj, rfl, rfl, BR⟩ := hrel
    have q0 : 0 ≤ (j : Int) := by omega
    have hn20 : n ≤ 20 := by have := LM.out; have := NL.out; omega
    have f99 := e99.out wr BR.out
    by_cases hlt : j < n
    · have q1 : (j : Int) < (n : Int) := by omega
      have hjl : j < L.length := NL.out ▸ hlt
      obtain ⟨x, hx⟩ : ∃ x, x = L[j] := ⟨_, rfl⟩
      have hmem : x ∈ L := hx ▸ List.getElem_mem hjl
      have X1 : Hid x.ok := Lib.hid (HFI.out x hmem).1
      have XL : Hid (x.len ≤ 2000000) := Lib.hid (HFI.out x hmem).2.2
      obtain ⟨kd, KD⟩ : ∃ kd : Nat, Hid (x.kind = (kd : Int) ∧ (kd = 1 ∨ kd = 2)) := by
        rcases (HFI.out x hmem).2.1 with e | e
        · exact ⟨1, Lib.hid ⟨e, Or.inl rfl⟩⟩
        · exact ⟨2, Lib.hid ⟨e, Or.inr rfl⟩⟩
      have HS : Hid (headP L (j + 1) = headP L j ++ (x.id ++ (Gl.numBytes kd ++ Gl.numBytes x.len))) := Lib.hid (by
        rw [headP_step L j hjl, ← hx]
        unfold enB
        rw [KD.out.1]
        rfl)
      have HPL : Hid ((headP L j).length ≤ 1000) := Lib.hid (by have h1 := headP_len L HFI.out (by have := LM.out; omega) j; have := LM.out; omega)
      have NB1 : Hid ((Gl.numBytes kd).length ≤ 4) := Lib.hid (numB_nine kd (by have := KD.out.2; omega))
      have NB2 : Hid ((Gl.numBytes x.len).length ≤ 4) := Lib.hid (numB_nine x.len XL.out)
      have PK1 := Lib.hid (fun X => PNM.out kd X (by have := KD.out.2; omega))
      have PK2 := Lib.hid (fun X => PNM.out x.len X (by have := XL.out; omega))
      rcases LE.out with h0 | ⟨b1, o1, rfl, k1⟩
      · rw [h0] at hjl; cases hjl
      have X32 : Hid ((byteCells x.id).length = 32) := Lib.hid (by rw [byteCells_length]; exact X1.out)
      have K1 : Hid (∀ X, Below wr.heap.size wr X → X.rangeAt b1 (o1 + j * 35) x.cells) := Lib.hid (fun X hX i u hi => ((BR.out.trans (hX.mono BR.out.size)).cell (block_lt_of_cell (k1 j hjl i u (hx ▸ hi)))).trans (k1 j hjl i u (hx ▸ hi)))
      have XI : Hid (∀ X, Below wr.heap.size wr X → bytesIn X (some ⟨b1, o1 + j * 35, none⟩) x.id) := Lib.hid (fun X hX => Or.inr ⟨_, _, rfl, fun i hi => K1.out X hX i _ (by unfold En.cells; rw [List.getElem?_append_left (by rw [byteCells_length]; exact hi)]; exact byteCells_get x.id i hi)⟩)
      have C0 : Hid (∀ X, Below wr.heap.size wr X → X.cell? ⟨b1, o1 + j * 35 + 32, none⟩ = some (.int .i64 (kd : Int))) := Lib.hid (fun X hX => K1.out X hX 32 _ (by unfold En.cells; rw [List.getElem?_append_right (Nat.le_of_eq X32.out), X32.out, KD.out.1]; rfl))
      have C2 : Hid (∀ X, Below wr.heap.size wr X → X.cell? ⟨b1, o1 + j * 35 + 34, none⟩ = some (.int .i64 (x.len : Int))) := Lib.hid (fun X hX => K1.out X hX 34 _ (by unfold En.cells; rw [List.getElem?_append_right (by rw [X32.out]; decide), X32.out]; rfl))
      have E9 : Hid (∀ X, Below wr.heap.size wr X → X.cell? ⟨rb, 99, none⟩ = some (.slice (some ⟨b1, o1, none⟩) n cl)) := Lib.hid (fun X hX => e99.out X (BR.out.trans (hX.mono BR.out.size)))
      obtain ⟨Q1, hQ1⟩ : ∃ q, q = headP L j ++ x.id := ⟨_, rfl⟩
      obtain ⟨Q2, hQ2⟩ : ∃ q, q = Q1 ++ Gl.numBytes kd := ⟨_, rfl⟩
      have l1 : Q1.length ≤ 1032 := by rw [hQ1, List.length_append]; have := HPL.out; have : x.id.length = 32 := X1.out; omega
      have l2 : Q2.length ≤ 1036 := by rw [hQ2, List.length_append]; have := NB1.out; omega
      have G1 : Hid (str (headP L j) ++ str x.id = str Q1) := Lib.hid (by rw [str_append, hQ1])
      have G2 : Hid (str Q1 ++ str (Gl.numBytes kd) = str Q2) := Lib.hid (by rw [str_append, hQ2])
      have G3 : Hid (str Q2 ++ str (Gl.numBytes x.len) = str (headP L (j + 1))) := Lib.hid (by rw [str_append, HS.out, hQ2, hQ1]; simp only [List.append_assoc])
      have N1 : Hid (¬ 9223372036854775807 < (headP L j).length + x.id.length) := Lib.hid (by have := HPL.out; have : x.id.length = 32 := X1.out; omega)
      have N2 : Hid (¬ 9223372036854775807 < Q1.length + (Gl.numBytes kd).length) := Lib.hid (by have := NB1.out; omega)
      have N3 : Hid (¬ 9223372036854775807 < Q2.length + (Gl.numBytes x.len).length) := Lib.hid (by have := NB2.out; omega)
      clear k1 hx hmem hjl hQ1 hQ2 l1 l2 HS
      obtain ⟨HN, hHN⟩ : ∃ q, q = headP L (j + 1) := ⟨_, rfl⟩
      rw [← hHN] at G3
      have HNE := Lib.hid hHN
      clear hHN
      generalize headP L j = HP at *
      go_upto_region 7 with fail
      clear f99
      refine wp_region_noPanic ?_
      refine wp_region_held_drew (S := fun w' => Below wr.heap.size wr w') (by kernel_rfl) (below_drew' (Below.refl _ _)) (fun hH => ?_)
      generalize wr.drew = z0 at *
      refine tk (i := 0) (oi := { dst := some 34, op := Op.move (Operand.tmp 6), type := 9, pos := "ref.go:89", after := #[], guard := none }) (v := .string (str HP)) rfl (fun wx hS => ?_) hH ?_
      · go_simp
      refine tk (i := 1) (oi := { dst := some 35, op := Op.move (Operand.tmp 0), type := 36, pos := "ref.go:89", after := #[], guard := none }) (v := .pointer (some ⟨rb, 0, none⟩)) rfl (fun wx hS => ?_) hH ?_
      · go_simp
      refine tk (i := 2) (oi := { dst := some 36, op := Op.nilCheck (Operand.tmp 35), type := 0, pos := "ref.go:89", after := #[⟨1, .data⟩], guard := none }) (v := .pointer (some ⟨rb, 0, none⟩)) rfl (fun wx hS => ?_) hH ?_
      · go_simp
      refine tk (i := 3) (oi := { dst := some 37, op := Op.fieldAddr 52 (Operand.tmp 36) 4, type := 0, pos := "ref.go:89", after := #[⟨2, .data⟩], guard := none }) (v := .pointer (some ⟨rb, 99, none⟩)) rfl (fun wx hS => ?_) hH ?_
      · go_simp
      refine tk (i := 4) (oi := { dst := some 38, op := Op.load 41 (Operand.tmp 37), type := 41, pos := "ref.go:89", after := #[⟨3, .data⟩], guard := none }) (v := .slice (some ⟨b1, o1, none⟩) n cl) rfl (fun wx hS => ?_) hH ?_
      · have e1 := E9.out wx hS; go_simp
      refine tk (i := 5) (oi := { dst := some 39, op := Op.move (Operand.tmp 7), type := 3, pos := "ref.go:89", after := #[], guard := none }) (v := .int .i64 (j : Int)) rfl (fun wx hS => ?_) hH ?_
      · go_simp
      refine tk (i := 6) (oi := { dst := some 40, op := Op.indexAddr 41 (Operand.tmp 38) (Operand.tmp 39), type := 0, pos := "ref.go:89", after := #[⟨4, .data⟩, ⟨5, .data⟩], guard := none }) (v := .pointer (some ⟨b1, o1 + j * 35, none⟩)) rfl (fun wx hS => ?_) hH ?_
      · go_simp
      refine tk (i := 7) (oi := { dst := some 41, op := Op.fieldAddr 93 (Operand.tmp 40) 0, type := 0, pos := "ref.go:89", after := #[⟨6, .data⟩], guard := none }) (v := .pointer (some ⟨b1, o1 + j * 35, none⟩)) rfl (fun wx hS => ?_) hH ?_
      · go_simp
      refine tk (i := 8) (oi := { dst := some 42, op := Op.slice 24 (Operand.tmp 41) none none none, type := 30, pos := "ref.go:89", after := #[⟨7, .data⟩], guard := none }) (v := .slice (some ⟨b1, o1 + j * 35, none⟩) 32 32) rfl (fun wx hS => ?_) hH ?_
      · go_simp
      refine tk (i := 9) (oi := { dst := some 43, op := Op.convert 30 9 (Operand.tmp 42), type := 9, pos := "ref.go:89", after := #[⟨8, .data⟩], guard := none }) (v := .string (str x.id)) rfl (fun wx hS => ?_) hH ?_
      · have e1 := conv_string wx _ x.id 32 (XI.out wx hS); rw [show x.id.length = 32 from X1.out] at e1; go_simp
      refine tk (i := 10) (oi := { dst := some 44, op := Op.binOp BinOp.add 9 (Operand.tmp 34) (Operand.tmp 43) 9, type := 9, pos := "ref.go:89", after := #[⟨0, .data⟩, ⟨9, .data⟩], guard := none }) (v := .string (str Q1)) rfl (fun wx hS => ?_) hH ?_
      · have g1 := G1.out; have s1 := str_size' HP; have s2 := str_size' x.id; have s3 := N1.out; go_simp
      refine tk (i := 11) (oi := { dst := some 45, op := Op.move (Operand.tmp 0), type := 36, pos := "ref.go:89", after := #[], guard := none }) (v := .pointer (some ⟨rb, 0, none⟩)) rfl (fun wx hS => ?_) hH ?_
      · go_simp
      refine tk (i := 12) (oi := { dst := some 46, op := Op.nilCheck (Operand.tmp 45), type := 0, pos := "ref.go:89", after := #[⟨11, .data⟩], guard := none }) (v := .pointer (some ⟨rb, 0, none⟩)) rfl (fun wx hS => ?_) hH ?_
      · go_simp
      refine tk (i := 13) (oi := { dst := some 47, op := Op.fieldAddr 52 (Operand.tmp 46) 4, type := 0, pos := "ref.go:89", after := #[⟨12, .data⟩], guard := none }) (v := .pointer (some ⟨rb, 99, none⟩)) rfl (fun wx hS => ?_) hH ?_
      · go_simp
      refine tk (i := 14) (oi := { dst := some 48, op := Op.load 41 (Operand.tmp 47), type := 41, pos := "ref.go:89", after := #[⟨13, .data⟩], guard := none }) (v := .slice (some ⟨b1, o1, none⟩) n cl) rfl (fun wx hS => ?_) hH ?_
      · have e1 := E9.out wx hS; go_simp
      refine tk (i := 15) (oi := { dst := some 49, op := Op.move (Operand.tmp 7), type := 3, pos := "ref.go:89", after := #[], guard := none }) (v := .int .i64 (j : Int)) rfl (fun wx hS => ?_) hH ?_
      · go_simp
      refine tk (i := 16) (oi := { dst := some 50, op := Op.indexAddr 41 (Operand.tmp 48) (Operand.tmp 49), type := 0, pos := "ref.go:89", after := #[⟨14, .data⟩, ⟨15, .data⟩], guard := none }) (v := .pointer (some ⟨b1, o1 + j * 35, none⟩)) rfl (fun wx hS => ?_) hH ?_
      · go_simp
      refine tk (i := 17) (oi := { dst := some 51, op := Op.fieldAddr 93 (Operand.tmp 50) 1, type := 0, pos := "ref.go:89", after := #[⟨16, .data⟩], guard := none }) (v := .pointer (some ⟨b1, o1 + j * 35 + 32, none⟩)) rfl (fun wx hS => ?_) hH ?_
      · go_simp
      refine tk (i := 18) (oi := { dst := some 52, op := Op.load 3 (Operand.tmp 51), type := 3, pos := "ref.go:89", after := #[⟨17, .data⟩], guard := none }) (v := .int .i64 (kd : Int)) rfl (fun wx hS => ?_) hH ?_
      · have e1 := C0.out wx hS; go_simp
      refine tk (i := 21) (oi := { dst := some 55, op := Op.move (Operand.tmp 0), type := 36, pos := "ref.go:89", after := #[], guard := none }) (v := .pointer (some ⟨rb, 0, none⟩)) rfl (fun wx hS => ?_) hH ?_
      · go_simp
      refine tk (i := 22) (oi := { dst := some 56, op := Op.nilCheck (Operand.tmp 55), type := 0, pos := "ref.go:89", after := #[⟨21, .data⟩], guard := none }) (v := .pointer (some ⟨rb, 0, none⟩)) rfl (fun wx hS => ?_) hH ?_
      · go_simp
      refine tk (i := 23) (oi := { dst := some 57, op := Op.fieldAddr 52 (Operand.tmp 56) 4, type := 0, pos := "ref.go:89", after := #[⟨22, .data⟩], guard := none }) (v := .pointer (some ⟨rb, 99, none⟩)) rfl (fun wx hS => ?_) hH ?_
      · go_simp
      refine tk (i := 24) (oi := { dst := some 58, op := Op.load 41 (Operand.tmp 57), type := 41, pos := "ref.go:89", after := #[⟨23, .data⟩], guard := none }) (v := .slice (some ⟨b1, o1, none⟩) n cl) rfl (fun wx hS => ?_) hH ?_
      · have e1 := E9.out wx hS; go_simp
      refine tk (i := 25) (oi := { dst := some 59, op := Op.move (Operand.tmp 7), type := 3, pos := "ref.go:89", after := #[], guard := none }) (v := .int .i64 (j : Int)) rfl (fun wx hS => ?_) hH ?_
      · go_simp
      refine tk (i := 26) (oi := { dst := some 60, op := Op.indexAddr 41 (Operand.tmp 58) (Operand.tmp 59), type := 0, pos := "ref.go:89", after := #[⟨24, .data⟩, ⟨25, .data⟩], guard := none }) (v := .pointer (some ⟨b1, o1 + j * 35, none⟩)) rfl (fun wx hS => ?_) hH ?_
      · go_simp
      refine tk (i := 27) (oi := { dst := some 61, op := Op.fieldAddr 93 (Operand.tmp 60) 3, type := 0, pos := "ref.go:89", after := #[⟨26, .data⟩], guard := none }) (v := .pointer (some ⟨b1, o1 + j * 35 + 34, none⟩)) rfl (fun wx hS => ?_) hH ?_
      · go_simp
      refine tk (i := 28) (oi := { dst := some 62, op := Op.load 3 (Operand.tmp 61), type := 3, pos := "ref.go:89", after := #[⟨27, .data⟩], guard := none }) (v := .int .i64 (x.len : Int)) rfl (fun wx hS => ?_) hH ?_
      · have e1 := C2.out wx hS; go_simp
      refine wpAnyH_ready (rs := [19]) (by kernel_rfl) (by simp) ?_
      refine AllReadyH.cons (o := { dst := some 53, op := Op.call { callee := Callee.value (Operand.func 35), args := #[Operand.tmp 52], argTypes := #[3] }, type := 9, pos := "ref.go:89", after := #[⟨18, .data⟩], guard := none }) rfl (fun KK hKK => ?_) AllReadyH.nil
      go_simp
      with_reducible refine (PK1.out z0).mono ?_
      rintro e z1 ⟨rfl, kb⟩
      have hN := hH.trans (kb.mono hH.size)
      clear hH kb
      refine hKK.out _ _ hN (fun hH => ?_)
      clear hKK KK hN
      try simp only [Act.put, List.setIfInBounds_toArray, List.set_cons_zero, List.set_cons_succ]
      refine tk (i := 20) (oi := { dst := some 54, op := Op.binOp BinOp.add 9 (Operand.tmp 44) (Operand.tmp 53) 9, type := 9, pos := "ref.go:89", after := #[⟨10, .data⟩, ⟨19, .data⟩], guard := none }) (v := .string (str Q2)) rfl (fun wx hS => ?_) hH ?_
      · have g1 := G2.out; have s1 := str_size' Q1; have s2 := str_size' (Gl.numBytes kd); have s3 := N2.out; go_simp
      refine wpAnyH_ready (rs := [29]) (by kernel_rfl) (by simp) ?_
      refine AllReadyH.cons (o := { dst := some 63, op := Op.call { callee := Callee.value (Operand.func 35), args := #[Operand.tmp 62], argTypes := #[3] }, type := 9, pos := "ref.go:89", after := #[⟨28, .data⟩, ⟨19, .chain⟩], guard := none }) rfl (fun KK hKK => ?_) AllReadyH.nil
      go_simp
      with_reducible refine (PK2.out z1).mono ?_
      rintro e z2 ⟨rfl, kb⟩
      have hN := hH.trans (kb.mono hH.size)
      clear hH kb
      refine hKK.out _ _ hN (fun hH => ?_)
      clear hKK KK hN
      try simp only [Act.put, List.setIfInBounds_toArray, List.set_cons_zero, List.set_cons_succ]
      refine tk (i := 30) (oi := { dst := some 64, op := Op.binOp BinOp.add 9 (Operand.tmp 54) (Operand.tmp 63) 9, type := 9, pos := "ref.go:89", after := #[⟨20, .data⟩, ⟨29, .data⟩], guard := none }) (v := .string (str HN)) rfl (fun wx hS => ?_) hH ?_
      · have g1 := G3.out; have s1 := str_size' Q2; have s2 := str_size' (Gl.numBytes x.len); have s3 := N3.out; go_simp
      refine wpAnyH_ready (rs := [31]) (by kernel_rfl) (by simp) ?_
      refine AllReadyH.cons (o := { dst := some 6, op := Op.assign (Operand.tmp 64), type := 9, pos := "ref.go:89", after := #[⟨30, .data⟩, ⟨29, .chain⟩, ⟨0, .phase⟩, ⟨1, .phase⟩, ⟨2, .phase⟩, ⟨3, .phase⟩, ⟨4, .phase⟩, ⟨5, .phase⟩, ⟨6, .phase⟩, ⟨7, .phase⟩, ⟨8, .phase⟩, ⟨9, .phase⟩, ⟨10, .phase⟩, ⟨11, .phase⟩, ⟨12, .phase⟩, ⟨13, .phase⟩, ⟨14, .phase⟩, ⟨15, .phase⟩, ⟨16, .phase⟩, ⟨17, .phase⟩, ⟨18, .phase⟩, ⟨19, .phase⟩, ⟨20, .phase⟩, ⟨21, .phase⟩, ⟨22, .phase⟩, ⟨23, .phase⟩, ⟨24, .phase⟩, ⟨25, .phase⟩, ⟨26, .phase⟩, ⟨27, .phase⟩, ⟨28, .phase⟩, ⟨29, .phase⟩, ⟨30, .phase⟩], guard := none }) rfl (fun KK hKK => ?_) AllReadyH.nil
      go_simp
      refine hKK.out _ _ hH (fun hH => ?_)
      clear hKK KK
      try simp only [Act.put, List.setIfInBounds_toArray, List.set_cons_zero, List.set_cons_succ]
      refine wpAnyH_done (by kernel_rfl) ?_ _
      refine NoPanic.normal ?_
      have BR2 := Lib.hid (BR.out.trans (hH.mono BR.out.size))
      clear hH
      go_wp2_with fail
      go_roundw
      case rel => exact ⟨j + 1, by omega, by go_num, by rw [HNE.out], BR2⟩
      case measure => simp [intOf]; omega
    · have q1 : ¬ (j : Int) < (n : Int) := by omega
      have hjn : j = L.length := by have := NL.out; omega
      have HE : Hid (headP L j = HD) := Lib.hid (by rw [HDE.out, hjn]; rfl)
      rw [HE.out]
      have R4 := Lib.hid (R0.out.below BR.out R0.out.lt)
      have L4 := Lib.hid (row_kp L0.out (Kp.below (f := fun _ => False) BR.out) fun _ _ => id)
      have WR1 := WR.out wr R4.out
      rw [← HDE.out] at WR1
      clear hjn HE WR e99
      go_wp2_with ((with_reducible refine WR1.mono ?_); rintro e w6 ⟨rfl, hr6, k6⟩; refine Hid.out ?_)
      refine Lib.hid ?_
      have K6 := Lib.hid ((Kp.below (f := fun k => k = rb) BR.out).trans k6 fun i hi => Or.inl hi)
      have R6 := Lib.hid hr6
      have L6 := Lib.hid (row_kp L4.out k6 fun g hg e => row_type L4.out R4.out (by decide) (e ▸ hg))
      clear WR1 R4 L4 hr6 k6 f99
      have szB := str_size' B
      have szS := str_size' SB
      have gl := str_append B SB
      have gl2 := str_append (B ++ SB) (be4 SB.length)
      have ga : (B ++ SB) ++ be4 SB.length = B ++ (SB ++ be4 SB.length) := List.append_assoc ..
      have gN : ¬ 9223372036854775807 < B.length + SB.length := by have := BM.out; have := SL.out; have := HHL.out; have := LM.out; omega
      have sz2 := str_size' (B ++ SB)
      have sz4 := str_size' (be4 SB.length)
      have l4 : (be4 SB.length).length = 4 := rfl
      have gN2 : ¬ 9223372036854775807 < (B ++ SB).length + 4 := by rw [List.length_append]; have := BM.out; have := SL.out; have := HHL.out; have := LM.out; omega
      have PFO1 := Lib.hid (fun X => PFO.out X (by have := SL.out; have := HHL.out; have := LM.out; omega))
      have PNA1 := Lib.hid (fun X => PNA.out X (by rw [List.length_append, List.length_append, l4]; have := BM.out; have := SL.out; have := HHL.out; have := LM.out; omega))
      clear PFO PNA
      rw [ga] at gl2
      obtain ⟨BS2, hB2⟩ : ∃ q, q = B ++ SB := ⟨_, rfl⟩
      rw [← hB2] at gl gl2 sz2 gN2
      have HB2 := Lib.hid hB2
      clear hB2 ga
      generalize hE4 : be4 SB.length = E4 at *
      have HE4 := Lib.hid hE4
      clear hE4
      go_upto_region 9 with fail
      refine wp_region_noPanic ?_
      refine wp_region_held_drew (S := fun w' => Below w6.heap.size w6 w') (by kernel_rfl) (below_drew' (Below.refl _ _)) (fun hH => ?_)
      generalize w6.drew = z0 at *
      refine tk (i := 0) (oi := { dst := some 68, op := Op.move (Operand.tmp 0), type := 36, pos := "ref.go:92", after := #[], guard := none }) (v := .pointer (some ⟨rb, 0, none⟩)) rfl (fun wx hS => ?_) hH ?_
      · go_simp
      refine tk (i := 1) (oi := { dst := some 69, op := Op.nilCheck (Operand.tmp 68), type := 0, pos := "ref.go:92", after := #[⟨0, .data⟩], guard := none }) (v := .pointer (some ⟨rb, 0, none⟩)) rfl (fun wx hS => ?_) hH ?_
      · go_simp
      refine tk (i := 2) (oi := { dst := some 70, op := Op.fieldAddr 52 (Operand.tmp 69) 3, type := 0, pos := "ref.go:92", after := #[⟨1, .data⟩], guard := none }) (v := .pointer (some ⟨rb, 98, none⟩)) rfl (fun wx hS => ?_) hH ?_
      · go_simp
      refine tk (i := 3) (oi := { dst := some 71, op := Op.load 9 (Operand.tmp 70), type := 9, pos := "ref.go:92", after := #[⟨2, .data⟩], guard := none }) (v := .string (str B)) rfl (fun wx hS => ?_) hH ?_
      · have e1 := ref_at98 RGL.out (R6.out.below hS R6.out.lt); go_simp
      refine tk (i := 4) (oi := { dst := some 72, op := Op.move (Operand.tmp 8), type := 9, pos := "ref.go:92", after := #[], guard := none }) (v := .string (str SB)) rfl (fun wx hS => ?_) hH ?_
      · go_simp
      refine tk (i := 5) (oi := { dst := some 73, op := Op.binOp BinOp.add 9 (Operand.tmp 71) (Operand.tmp 72) 9, type := 9, pos := "ref.go:92", after := #[⟨3, .data⟩, ⟨4, .data⟩], guard := none }) (v := .string (str BS2)) rfl (fun wx hS => ?_) hH ?_
      · go_simp
      refine tk (i := 6) (oi := { dst := some 74, op := Op.move (Operand.tmp 8), type := 9, pos := "ref.go:92", after := #[], guard := none }) (v := .string (str SB)) rfl (fun wx hS => ?_) hH ?_
      · go_simp
      refine tk (i := 7) (oi := { dst := some 75, op := Op.call { callee := Callee.builtin Builtin.len, args := #[Operand.tmp 74], argTypes := #[9] }, type := 3, pos := "ref.go:92", after := #[⟨6, .data⟩], guard := none }) (v := .int .i64 (SB.length : Int)) rfl (fun wx hS => ?_) hH ?_
      · go_simp
      refine wpAnyH_ready (rs := [8]) (by kernel_rfl) (by simp) ?_
      refine AllReadyH.cons (o := { dst := some 76, op := Op.call { callee := Callee.value (Operand.func 37), args := #[Operand.tmp 75], argTypes := #[3] }, type := 9, pos := "ref.go:92", after := #[⟨7, .data⟩], guard := none }) rfl (fun KK hKK => ?_) AllReadyH.nil
      go_simp
      with_reducible refine (PFO1.out z0).mono ?_
      rintro e z1 ⟨rfl, kb⟩
      have hN := hH.trans (kb.mono hH.size)
      clear hH kb
      refine hKK.out _ _ hN (fun hH => ?_)
      clear hKK KK hN
      try simp only [Act.put, List.setIfInBounds_toArray, List.set_cons_zero, List.set_cons_succ]
      refine tk (i := 9) (oi := { dst := some 77, op := Op.binOp BinOp.add 9 (Operand.tmp 73) (Operand.tmp 76) 9, type := 9, pos := "ref.go:92", after := #[⟨5, .data⟩, ⟨8, .data⟩], guard := none }) (v := .string (str (B ++ (SB ++ E4)))) rfl (fun wx hS => ?_) hH ?_
      · go_simp
      refine wpAnyH_ready (rs := [10]) (by kernel_rfl) (by simp) ?_
      refine AllReadyH.cons (o := { dst := some 9, op := Op.assign (Operand.tmp 77), type := 9, pos := "ref.go:92", after := #[⟨9, .data⟩, ⟨8, .chain⟩, ⟨0, .phase⟩, ⟨1, .phase⟩, ⟨2, .phase⟩, ⟨3, .phase⟩, ⟨4, .phase⟩, ⟨5, .phase⟩, ⟨6, .phase⟩, ⟨7, .phase⟩, ⟨8, .phase⟩, ⟨9, .phase⟩], guard := none }) rfl (fun KK hKK => ?_) AllReadyH.nil
      go_simp
      refine hKK.out _ _ hH (fun hH => ?_)
      clear hKK KK
      try simp only [Act.put, List.setIfInBounds_toArray, List.set_cons_zero, List.set_cons_succ]
      refine wpAnyH_done (by kernel_rfl) ?_ _
      refine NoPanic.normal ?_
      have K7 := Lib.hid (K6.out.trans (Kp.below (f := fun _ => False) hH) fun _ q => q.elim)
      have R7 := Lib.hid (R6.out.below hH R6.out.lt)
      have L7 := Lib.hid (row_kp L6.out (Kp.below (f := fun _ => False) hH) fun _ _ => id)
      clear hH R6 K6 L6 gN gN2 gl gl2 sz2 sz4 l4
      have e99 := lvn.out ▸ ref_at99 RGL.out R7.out
      have hf98 : 98 < (refCells RG F ((used + 1 : Nat) : Int) B lv).length := by rw [ref_len RGL.out]; decide
      have hf99 : 99 < (refCells RG F ((used + 1 : Nat) : Int) [] lv).length := by rw [ref_len RGL.out]; decide
      go_wp2_with (refine wpList_store_cell (by rfl) 9 _ _ rfl rb 98 (.string (str [])) rfl rfl _ 52 R7.out info_str hf98 rfl rfl ?_)
      intro z4 P1 P2 P3
      have P1 := P1.out
      rw [ref_set98 RGL.out] at P1
      have K8 := Lib.hid (K7.out.trans (Kp.but (f := fun k => k = rb) P2.out (Or.inl rfl)) fun i hi => Or.inl hi)
      have L8 := Lib.hid (row_kp L7.out (Kp.but (f := fun k => k = rb) P2.out (Or.inl rfl)) fun k hk q => row_type L7.out R7.out (by decide) (q ▸ hk))
      have R8 := Lib.hid P1
      clear P1 P2 P3 R7 K7 L7 e99
      go_wp2_with (refine wpList_store_cell (by rfl) 41 _ _ rfl rb 99 (.slice none 0 0) rfl rfl _ 52 R8.out info_slR hf99 rfl rfl ?_)
      intro z5 P1 P2 P3
      have P1 := P1.out
      rw [ref_set99 RGL.out] at P1
      have K9 := Lib.hid (K8.out.trans (Kp.but (f := fun k => k = rb) P2.out (Or.inl rfl)) fun i hi => Or.inl hi)
      have L9 := Lib.hid (row_kp L8.out (Kp.but (f := fun k => k = rb) P2.out (Or.inl rfl)) fun k hk q => row_type L8.out R8.out (by decide) (q ▸ hk))
      have R9 := Lib.hid P1
      have PNM1 := PNA1.out z5
      clear P1 P2 P3 R8 K8 L8 hf98 hf99
      go_wp2_with ((with_reducible refine PNM1.mono ?_); rintro e z6 ⟨rfl, kb⟩)
      refine bodyPost_ret (v := .tuple #[.string (str (packName (B ++ (SB ++ E4)))), .string (str (B ++ (SB ++ E4))), .slice al n cl, .int .i64 0]) (results_tmp4 (t := 2) (u := 3) (v := 4) (x := 5) rfl _ _ _) rfl ?_
      refine ⟨by rw [lvn.out, HE4.out], ⟨R9.out.below kb R9.out.lt, World.ownsRow_nil _ _ _ _, WB0.out.1, Nat.le_trans WB0.out.2 (Nat.le_trans K9.out.size kb.size)⟩, row_kp L9.out (Kp.below (f := fun _ => False) kb) fun _ _ => id, K9.out.trans (Kp.below (f := fun _ => False) kb) fun _ q => q.elim⟩
end Go.Proofs.YtfhlcondnaahiaaDoor
end
section
/- Writers that there aren't; blobs of no kind. -/
namespace Go.Proofs.YtfhlcondnaahiaaDoor
open Go.RowKit Sha

theorem none_any (w : World) : Calls Tryd.prog 7 #[] w fun e w' => e = .returned (.pointer none) ∧ w = w' := by
  go_enter Tryd.func7, Tryd.ntmps7
  go_wp2_with fail
  go_ret
  exact ⟨rfl, rfl⟩
theorem count_nil (w : World) : Calls Tryd.prog 11 #[.pointer none] w fun e w' => e = .returned (.int .i64 0) ∧ w = w' := by
  go_enter Tryd.func11, Tryd.ntmps11
  go_wp2_with fail
  go_ret
  exact ⟨rfl, rfl⟩
theorem size_nil (w : World) : Calls Tryd.prog 12 #[.pointer none] w fun e w' => e = .returned (.int .i64 0) ∧ w = w' := by
  go_enter Tryd.func12, Tryd.ntmps12
  go_wp2_with fail
  go_ret
  exact ⟨rfl, rfl⟩
set_option maxRecDepth 100000 in
theorem close_nil (w : World) : Calls Tryd.prog 9 #[.pointer none] w fun e w' => e = .returned (.tuple #[.string (str []), .slice none 0 0, .slice none 0 0, .int .i64 1]) ∧ w = w' := by
  go_enter Tryd.func9, Tryd.ntmps9
  go_wp2_with fail
  refine bodyPost_ret (v := .tuple #[.string (str []), .slice none 0 0, .slice none 0 0, .int .i64 1]) (results_tmp4 (t := 2) (u := 3) (v := 4) (x := 5) rfl _ _ _) rfl ?_
  exact ⟨rfl, rfl⟩
set_option maxRecDepth 100000 in
set_option maxHeartbeats 2000000 in
theorem add_nil (w : World) : Calls Tryd.prog 8 #[.pointer none, .int .i64 1, .slice none 0 0] w fun e w' => e = .returned (.tuple #[.agg (byteCells zero32).toArray, .bool false, .int .i64 1]) ∧ Below w.heap.size w w' := by
  have hz := zeroId
  have A0 := Lib.hid (alloc_below w (.cells (zeros 32).toArray 24 (0, 0)))
  have R1 := Lib.hid (blockIs.new w (zeros 32) 24)
  go_enter Tryd.func8, Tryd.ntmps8
  go_upto_region 1 with fail
  generalize w.alloc (.cells (zeros 32).toArray 24 (0, 0)) = w1 at *
  generalize hrb : w.heap.size = rb at *
  have HRB := Lib.hid hrb
  clear hrb
  go_wp2_with (first
    | (refine wpList_store_block rfl 24 _ _ rfl rb 0 (zeros 32) rfl rfl (zeros 32) 24 R1.out (by rw [infoId]; rfl) (by simp [zeros]) zeros32_one ?_))
  intro w3 P1 P2 P3
  have P1 := P1.out
  rw [splice_all _ _ rfl, zeros_zero32] at P1
  go_wp2_with fail
  refine bodyPost_ret (v := .tuple #[.agg (byteCells zero32).toArray, .bool false, .int .i64 1]) (results_cell_two (p := 6) (t := 7) (u := 8) rfl _ _ rb _ rfl (run_loadVar_row _ _ 24 _ _ (0, 0) _ P1 Tryd.underlying24 rfl (by rw [infoId]; simp [byteCells_length, zero32]))) rfl ?_
  have A1 : Below w.heap.size w w1 := by rw [HRB.out]; exact A0.out
  exact ⟨rfl, HRB.out ▸ A1.trans (P2.out.below (Nat.le_of_eq HRB.out) A1.size)⟩
set_option maxRecDepth 100000 in
set_option maxHeartbeats 2000000 in
theorem add_bad (wb : Nat) (ki : Int) (pv : Value) (w : World) (h1 : ki ≠ 1) (h2 : ki ≠ 2) : Calls Tryd.prog 8 #[.pointer (some ⟨wb, 0, none⟩), .int .i64 ki, pv] w fun e w' => e = .returned (.tuple #[.agg (byteCells zero32).toArray, .bool false, .int .i64 1]) ∧ Below w.heap.size w w' := by
  have hz := zeroId
  have A0 := Lib.hid (alloc_below w (.cells (zeros 32).toArray 24 (0, 0)))
  have R1 := Lib.hid (blockIs.new w (zeros 32) 24)
  have ISK := Lib.hid (fun X => isKind_no ki h1 h2 X)
  clear h1 h2
  go_enter Tryd.func8, Tryd.ntmps8
  go_upto_region 1 with fail
  generalize w.alloc (.cells (zeros 32).toArray 24 (0, 0)) = w1 at *
  generalize hrb : w.heap.size = rb at *
  have HRB := Lib.hid hrb
  clear hrb
  go_wp2_with (first
    | (with_reducible refine (ISK.out w1).mono ?_; rintro e w2 ⟨rfl, rfl⟩)
    | (refine wpList_store_block rfl 24 _ _ rfl rb 0 (zeros 32) rfl rfl (zeros 32) 24 R1.out (by rw [infoId]; rfl) (by simp [zeros]) zeros32_one ?_))
  intro w3 P1 P2 P3
  have P1 := P1.out
  rw [splice_all _ _ rfl, zeros_zero32] at P1
  go_wp2_with fail
  refine bodyPost_ret (v := .tuple #[.agg (byteCells zero32).toArray, .bool false, .int .i64 1]) (results_cell_two (p := 6) (t := 7) (u := 8) rfl _ _ rb _ rfl (run_loadVar_row _ _ 24 _ _ (0, 0) _ P1 Tryd.underlying24 rfl (by rw [infoId]; simp [byteCells_length, zero32]))) rfl ?_
  have A1 : Below w.heap.size w w1 := by rw [HRB.out]; exact A0.out
  exact ⟨rfl, HRB.out ▸ A1.trans (P2.out.below (Nat.le_of_eq HRB.out) A1.size)⟩
set_option maxRecDepth 100000 in
set_option maxHeartbeats 2000000 in
theorem radd_bad (rp : Nat) (ki : Int) (s : ByteArray) (w : World) (h1 : ki ≠ 1) (h2 : ki ≠ 2) : Calls Tryd.prog 17 #[.pointer (some ⟨rp, 0, none⟩), .int .i64 ki, .string s] w fun e w' => e = .returned (.tuple #[.agg (byteCells zero32).toArray, .bool false, .int .i64 1]) ∧ Below w.heap.size w w' := by
  have hz := zeroId
  have A0 := Lib.hid (alloc_below w (.cells (zeros 32).toArray 24 (0, 0)))
  have R1 := Lib.hid (blockIs.new w (zeros 32) 24)
  have f1 : (ki == 1) = false := by simpa using h1
  have f2 : (ki != 1) = true := by simpa using h1
  have f3 : (ki == 2) = false := by simpa using h2
  have f4 : (ki != 2) = true := by simpa using h2
  have f5 : (ki = 1) = False := by simpa using h1
  have f6 : (ki = 2) = False := by simpa using h2
  clear h1 h2
  go_enter Tryd.func17, Tryd.ntmps17
  go_upto_region 1 with fail
  generalize w.alloc (.cells (zeros 32).toArray 24 (0, 0)) = w1 at *
  generalize hrb : w.heap.size = rb at *
  have HRB := Lib.hid hrb
  clear hrb
  go_wp2_with (first
    | (refine wpList_store_block rfl 24 _ _ rfl rb 0 (zeros 32) rfl rfl (zeros 32) 24 R1.out (by rw [infoId]; rfl) (by simp [zeros]) zeros32_one ?_))
  intro w3 P1 P2 P3
  have P1 := P1.out
  rw [splice_all _ _ rfl, zeros_zero32] at P1
  go_wp2_with fail
  refine bodyPost_ret (v := .tuple #[.agg (byteCells zero32).toArray, .bool false, .int .i64 1]) (results_cell_two (p := 6) (t := 7) (u := 8) rfl _ _ rb _ rfl (run_loadVar_row _ _ 24 _ _ (0, 0) _ P1 Tryd.underlying24 rfl (by rw [infoId]; simp [byteCells_length, zero32]))) rfl ?_
  have A1 : Below w.heap.size w w1 := by rw [HRB.out]; exact A0.out
  exact ⟨rfl, HRB.out ▸ A1.trans (P2.out.below (Nat.le_of_eq HRB.out) A1.size)⟩

end Go.Proofs.YtfhlcondnaahiaaDoor
end
section
/- Both writers beside one another; a blob of any kind; rows of bytes of one's own. -/
namespace Go.Proofs.YtfhlcondnaahiaaDoor
open Go.RowKit Sha

theorem run_storeVar_M {P : Program} (w : World) (g j : Nat) (ty : TypeId) (cur : Array Value) (v : Value) (t : TypeId) (fz : Nat × Nat) (hg : w.heap[g]? = some (.cells cur t fz)) (hz : fz = (0, 0) ∨ cur.size ≤ fz.1) (hi : (P.info? ty).map (·.size) = some 1) (hj : j < cur.size) (hc : v.cells = #[v]) (h1 : v.oneCell' = true) :
    (storeVar ty ⟨g, j, none⟩ v).run P w = .ok () (w.setRow g (cur.toList.set j v).toArray) := by
  have := run_storeCells_atM P g j t fz [v] 0 cur w hg hz (by simp; omega) (by simpa using h1)
  have e : cur.toList.set j v = cur.toList.take j ++ v :: cur.toList.drop (j + 1) := by rw [List.set_eq_take_append_cons_drop, if_pos (by simpa using hj)]
  cases hq : P.info? ty with
  | none => simp [hq] at hi
  | some i =>
    have hs : i.size = 1 := by simpa [hq] using hi
    simp only [Nat.add_zero, List.length_cons, List.length_nil, Nat.zero_add, List.append_assoc, List.singleton_append] at this
    simp [storeVar, sizeOf, typeInfo, hq, hc, hs, this, e]
theorem set_bytes (l : List UInt8) (j : Nat) (x : UInt8) : (byteCells l).set j (.int .u8 (V x)) = byteCells (l.set j x) := by
  unfold byteCells
  rw [List.map_set]
theorem wpList_store_M {ops : Array Oper} {rest : List Oper} {o : Oper} {a : Act} {w : World} {Q : Exit → Act → World → Prop} (hgd : o.guard = none) (x y : Operand) (ho : o.op = .store 5 x y)
    (base g j n cap : Nat) (b : UInt8) (l : List UInt8) (hx : a.eval x = .pointer (some ⟨g, j, none⟩)) (hy : a.eval y = .int .u8 (V b)) (hown : rowM w base (.slice (some ⟨g, 0, none⟩) n cap) l) (hj : j < l.length)
    (h : ∀ w', Hid (rowM w' base (.slice (some ⟨g, 0, none⟩) n cap) (l.set j b)) → Hid (But g w w') → Hid (w'.heap.size = w.heap.size) → wpList Tryd.prog ops Q rest (a.put o.dst undef) w') : wpList Tryd.prog ops Q (o :: rest) a w := by
  obtain ⟨h0, h1⟩ := hown
  rcases h1 with ⟨hn, -⟩ | ⟨g', cap', cur, fz, he, hb, hh, hf, hn, hc, hs, ht⟩
  · cases hn
  · cases he
    have hsz : j < cur.size := by omega
    have hr := run_storeVar_M (P := Tryd.prog) w g j 5 cur (.int .u8 (V b)) 5 fz hh hf (by kernel_rfl) hsz rfl rfl
    refine wpList_plain hgd fun K hK => ?_
    unfold Oper.wp execOp
    simp only [ho, hx, hy, Instr.storeAt, Instr.sureAddr, Sem.run_bind, Sem.run_pure, Result.andThen_ok, hr]
    refine hK _ _ (h _ (Lib.hid ?_) (Lib.hid ⟨rfl, rfl, rfl, by simp [World.setRow], fun k _ hk => setRow_other w g k _ hk⟩) (Lib.hid (by simp [World.setRow])))
    refine ⟨by rw [byteCells_length], Or.inr ⟨g, cap, (cur.toList.set j (.int .u8 (V b))).toArray, fz, by rw [List.length_set], hb, setRow_heap w g cur _ 5 fz hh, ?_, by rw [List.length_set]; exact hn, hc, by simpa using hs, ?_⟩⟩
    · rcases hf with h | h
      · exact .inl h
      · exact .inr (by simpa using h)
    · rw [List.length_set, ← set_bytes, ← ht]
      simp [List.take_set]
theorem rowM.kp {f : Nat → Prop} {w w' : World} {base : Nat} {v : Value} {l : List UInt8} (h : rowM w base v l) (k : Kp f w w') (hf : ∀ g, v.ownBlock = some g → ¬ f g) : rowM w' base v l := by
  refine ⟨h.1, ?_⟩
  rcases h.2 with hn | ⟨g, cap, cur, fz, rfl, hbg, hgg, rest⟩
  · exact .inl hn
  · refine .inr ⟨g, cap, cur, fz, rfl, hbg, ?_, rest⟩
    rw [k.block g (Array.getElem?_eq_some_iff.1 hgg).1 (hf g rfl)]
    exact hgg
theorem rowM.ok0 {w : World} {base : Nat} {v : Value} {l : List UInt8} (h : rowM w base v l) : ∃ a c, v = .slice a l.length c ∧ Pt.ok0 w ⟨a, c, l⟩ := by
  obtain ⟨a, c, e, h1, h2, h3, h4, -⟩ := h.bytes
  exact ⟨a, c, e, ⟨h1, by unfold maxLen at h2; exact h2, h3⟩, h4⟩
theorem rowM.typ {w : World} {base g : Nat} {v : Value} {l : List UInt8} {cs : List Value} {t : TypeId} (h : rowM w base v l) (hk : blockIs w g cs t) (hne : t ≠ 5) : v.ownBlock ≠ some g := by
  rcases h.2 with ⟨rfl, h0⟩ | ⟨q, cap, cur, fz, rfl, hbg, hgg, rest⟩
  · intro q; cases q
  · intro e
    simp only [Value.ownBlock] at e
    cases e
    unfold blockIs at hk
    rw [hgg] at hk
    injection hk with hk
    injection hk with _ h2 _
    exact hne h2.symm
theorem step_appendM0 {w : World} {ops : Array Oper} {o : Oper} {a : Act} {K : Act → World → Prop} {Q : Exit → Act → World → Prop} {E : Prop} (hgd : o.guard = none) (s x : Operand)
    (ho : o.op = .call { callee := .builtin .append, args := #[s, x], argTypes := #[30, 30] })
    (base : Nat) (v : Value) (xs : List UInt8) (hs : a.eval s = v) (hown : rowM w base v xs) (A : Option Addr) (n c : Nat) (l : List UInt8) (hnl : n = l.length) (hx : a.eval x = .slice A n c)
    (hb : bytesIn w A l) (hn : xs.length + l.length ≤ 1000000) (hbase : base ≤ w.heap.size)
    (h : ∀ v' w', rowM w' base v' (xs ++ l) → w.grownBy w' v.ownBlock → K (a.put o.dst v') w') : if Region.wanted o (yielded ops a.tmps) = true then Oper.wp Tryd.prog o a w K Q else E := by
  by_cases h0 : l.length = 0
  · obtain rfl : l = [] := List.eq_nil_of_length_eq_zero h0
    subst hnl
    obtain ⟨b, cap, rfl, hcap, -⟩ := hown.bytes
    have hw : Region.wanted o (yielded ops a.tmps) = true := by simp [Region.wanted, hgd]
    rw [if_pos hw]
    have hr := run_append_nought w b _ cap hcap A c o.type
    unfold Oper.wp execOp
    simp only [ho, resolve, invoke, builtin, Sem.run_bind, Sem.run_pure, Result.andThen_ok, List.map_toArray, List.map_cons, List.map_nil, hs, hx]
    rw [show ([] : List UInt8).length = 0 from rfl, hr]
    exact h _ w (by simpa using hown) ⟨rfl, rfl, rfl, Nat.le_refl _, fun _ _ _ => rfl⟩
  · exact step_appendM_if hgd s x ho base v xs hs hown A n c l hnl hx (by omega) hb hn hbase h
def u8k (ki : Int) : UInt8 := if ki = 1 then 1 else 2
theorem u8k_V {ki : Int} (h : ki = 1 ∨ ki = 2) : V (u8k ki) = ki := by
  rcases h with rfl | rfl <;> rfl
def addX (n : UInt8) (used : Nat) (B : List UInt8) (L : List En) (ki : Int) (b : List UInt8) : AddOut :=
  if ki = 1 ∨ ki = 2 then addR (kN n 1) (kN n 2) (kN n 3) [n] (16 * used) B L (u8k ki) b else ⟨zero32, false, 1, 16 * used, B, L⟩
theorem addX_good (n : UInt8) (used : Nat) (B : List UInt8) (L : List En) (ki : Int) (b : List UInt8) (hL : L.length ≤ 100) (hB : B.length ≤ 100000) (hb : b.length ≤ 120) (hf : ∀ x ∈ L, x.fine) :
    (addX n used B L ki b).id.length = 32 ∧ (addX n used B L ki b).L.length ≤ L.length + 1 ∧ (addX n used B L ki b).B.length ≤ B.length + 168 ∧ (∀ x ∈ (addX n used B L ki b).L, x.fine) ∧ (addX n used B L ki b).told ≤ 16 * (used + 1) := by
  unfold addX
  by_cases hk : ki = 1 ∨ ki = 2
  · rw [if_pos hk]
    unfold addR
    rw [if_neg (by omega)]
    by_cases hin : hmac (kN n 3) (u8k ki :: b) ∈ L.map En.id
    · rw [if_pos hin]
      exact ⟨hmac_length _ _, by show L.length ≤ _; omega, by show B.length ≤ _; omega, hf, by show 16 * used ≤ _; omega⟩
    · rw [if_neg hin, if_neg (by omega)]
      refine ⟨hmac_length _ _, by simp, ?_, ?_, by show 16 * used + 16 ≤ _; omega⟩
      · show (B ++ _).length ≤ _
        rw [List.length_append, wseal_length _ _ _ _ _ _ (tbytes_16 _ _)]
        omega
      · intro x hx
        rcases List.mem_append.1 hx with hx | hx
        · exact hf x hx
        · rw [List.mem_singleton.1 hx]
          exact ⟨hmac_length _ _, (u8k_V hk).symm ▸ hk, by show b.length + 48 ≤ _; omega⟩
  · rw [if_neg hk]
    exact ⟨rfl, by show L.length ≤ _; omega, by show B.length ≤ _; omega, hf, by show 16 * used ≤ _; omega⟩
theorem addX_any (n : UInt8) (base wb tb : Nat) (fa : Option Addr) (fc used : Nat) (B : List UInt8) (L : List En) (v1 v2 : Value) (gm : Option Nat) (ki : Int) (ls : List (List UInt8)) (b : List UInt8) (hls : ls.flatten = b) (h2 : ls.length = 2) (hb : b.length ≤ 120) (g : Nat) (X : World)
    (hW : WrAt X base wb tb fa fc [n] (16 * used) (penCells (ringN n) tb) B L v1 v2 gm) (ht : tables X) (hu : used ≤ 1000) (hL : L.length ≤ 100) (hB : B.length ≤ 100000) (hP : ∀ Y, But tb X Y → partsW Y (some ⟨g, 0, none⟩) ls) :
    Calls Tryd.prog 8 #[.pointer (some ⟨wb, 0, none⟩), .int .i64 ki, .slice (some ⟨g, 0, none⟩) 2 2] X (AddPost base wb tb fa fc [n] (penCells (ringN n) tb) v1 v2 gm X (addX n used B L ki b)) := by
  unfold addX
  by_cases hk : ki = 1 ∨ ki = 2
  · rw [if_pos hk]
    have := add_any base wb tb fa fc [n] (16 * used) (kN n 1) (kN n 2) (kN n 3) B L v1 v2 gm (u8k ki) (some ⟨g, 0, none⟩) 2 ls X (kN_length _ _) (kN_length _ _) (kN_length _ _) ((u8k_V hk).symm ▸ hk) hW ht (by omega) (by omega) (fun h => by cases h) (by rw [hls]; omega) hP (by omega) (by omega) (by omega)
    rw [u8k_V hk, h2, hls] at this
    exact this
  · rw [if_neg hk]
    refine (add_bad wb ki _ X (fun e => hk (Or.inl e)) fun e => hk (Or.inr e)).mono ?_
    rintro e w' ⟨rfl, kb⟩
    exact ⟨rfl, v1, v2, gm, hW.below kb, Kp.below kb, fun k q => Or.inl q⟩
theorem raddX_any (n : UInt8) (base rb used : Nat) (B : List UInt8) (L : List En) (lv : Value) (ki : Int) (b : List UInt8) (hb : b.length ≤ 120) (X : World)
    (hR : RefAt X base rb (ringN n) [n] used B L lv) (hu : used ≤ 1000) (hL : L.length ≤ 100) (hB : B.length ≤ 100000) (hf : ∀ x ∈ L, x.fine) :
    Calls Tryd.prog 17 #[.pointer (some ⟨rb, 0, none⟩), .int .i64 ki, .string (str b)] X (RaddPost base rb (ringN n) [n] lv X (addX n used B L ki b)) := by
  unfold addX
  by_cases hk : ki = 1 ∨ ki = 2
  · rw [if_pos hk]
    exact radd_any (kN n 1) (kN n 2) (kN n 3) [n] used B L lv base rb (u8k ki) ki b X (kN_length _ _) (kN_length _ _) (kN_length _ _) (by simp) (by omega) hk (u8k_V hk).symm (by omega) hL hB (fun x hx => (hf x hx).1) hR
  · rw [if_neg hk]
    refine (radd_bad rb ki _ X (fun e => hk (Or.inl e)) fun e => hk (Or.inr e)).mono ?_
    rintro e w' ⟨rfl, kb⟩
    exact ⟨used, lv, rfl, rfl, hR.below kb, Kp.below kb, fun k q => Or.inl q⟩
section
variable {X Y : World} {base wb tb rb used : Nat} {fa : Option Addr} {fc : Nat} {n : UInt8} {F : List UInt8} {told : Nat} {PC : List Value} {B B2 : List UInt8} {L L2 : List En} {v1 v2 lv : Value} {gm : Option Nat} {RG F2 : List UInt8}
theorem WrAt.blkF (h : WrAt X base wb tb fa fc F told PC B L v1 v2 gm) {r : Nat} {cs : List Value} {t : TypeId} (hr : blockIs X r cs t) (h1 : t ≠ 80) (h2 : t ≠ 118) (h3 : t ≠ 5) (h4 : t ≠ 66) : ¬ wF wb tb v1 v2 gm r := by
  rintro (q | q | q | q | q)
  · exact blk_ne hr h.i h1 q
  · exact blk_ne hr h.t.is h2 q
  · exact row_type h.a hr h3 q
  · exact row_type h.e hr h4 q
  · rcases h.s with ⟨e, -⟩ | ⟨g, e, hb, hs⟩
    · rw [e] at q; cases q
    · rw [e] at q; cases q; exact hs.ne_cells hr rfl
theorem WrAt.rowE (h : WrAt X base wb tb fa fc F told PC B L v1 v2 gm) {b2 m : Nat} {v : Value} {xs : List Value} (hr : X.ownsRow b2 93 35 v m xs) (k : Nat) (hk : v.ownBlock = some k) : ¬ wF wb tb v1 v2 gm k := by
  rintro (q | q | q | q | q)
  · exact row_type hr h.i (by decide) (q ▸ hk)
  · exact row_type hr h.t.is (by decide) (q ▸ hk)
  · exact row_row h.a hr (by decide) k hk q
  · exact row_row h.e hr (by decide) k hk q
  · rcases h.s with ⟨e, -⟩ | ⟨g, e, hb, hs⟩
    · rw [e] at q; cases q
    · rw [e] at q; cases q; exact row_map hr hs hk
theorem RefAt.kpw (h : RefAt X base rb RG F used B L lv) {fa : Option Addr} {told : Nat} (hW : WrAt X base wb tb fa fc F2 told PC B2 L2 v1 v2 gm) (k : Kp (wF wb tb v1 v2 gm) X Y) : RefAt Y base rb RG F used B L lv :=
  ⟨k.is h.1 (hW.blkF h.1 (by decide) (by decide) (by decide) (by decide)), row_kp h.2.1 k fun g hg => hW.rowE h.2.1 g hg, h.2.2.1, Nat.le_trans h.2.2.2 k.size⟩
theorem ref_u8 {u z : Int} {i : Nat} (hRG : RG.length = 96) {al : Option Addr} {m c : Nat} (h : (refCells RG F u B (.slice al m c))[i]? = some (.int .u8 z)) : i < 96 := by
  apply Classical.byContradiction
  intro hi
  unfold refCells at h
  rw [List.getElem?_append_right (by rw [byteCells_length]; omega), byteCells_length, hRG] at h
  obtain ⟨d, rfl⟩ : ∃ d, i = 96 + d := ⟨i - 96, by omega⟩
  rw [Nat.add_sub_cancel_left] at h
  match d, h with
  | 0, h => simp at h
  | 1, h => simp at h
  | 2, h => simp at h
  | 3, h => simp at h
  | d + 4, h => simp at h
theorem WrAt.kpr {F0 B0 : List UInt8} {L0 : List En} {u0 : Nat} {lv0 : Value} (h : WrAt X base wb tb fa fc F told PC B L v1 v2 gm) (hr : RefAt X base rb RG F2 used B2 L2 lv) (hRG : RG.length = 96) (hok : ∀ x ∈ L2, x.ok) (k : Kp (rF rb lv) X Y) (hY : RefAt Y base rb RG F0 u0 B0 L0 lv0) : WrAt Y base wb tb fa fc F told PC B L v1 v2 gm := by
  have nb : ∀ {g : Nat} {cs : List Value} {t : TypeId}, blockIs X g cs t → t ≠ 52 → t ≠ 93 → ¬ rF rb lv g := fun hg h1 h2 q => q.elim (fun e => blk_ne hg hr.1 h1 e) fun e => row_type hr.2.1 hg h2 e
  have nr : ∀ {b2 m s : Nat} {e : TypeId} {v : Value} {xs : List Value}, X.ownsRow b2 e s v m xs → e ≠ 52 → e ≠ 93 → ∀ g, v.ownBlock = some g → ¬ rF rb lv g := fun hv h1 h2 g hg q => q.elim (fun e => row_type hv hr.1 h1.symm (e ▸ hg)) fun e => row_row hv hr.2.1 h2.symm g e hg
  refine ⟨k.is h.i (nb h.i (by decide) (by decide)), ⟨k.is h.t.is (nb h.t.is (by decide) (by decide)), ?_, h.t.apart, h.t.len, h.t.cap, h.t.most⟩, row_kp h.a k (nr h.a (by decide) (by decide)), row_kp h.e k (nr h.e (by decide) (by decide)), ?_, h.f, h.w, h.tl, h.g, Nat.le_trans h.b k.size⟩
  · rcases h.t.row with e | ⟨b, o, e, hc⟩
    · exact Or.inl e
    · refine Or.inr ⟨b, o, e, fun j hj => ?_⟩
      have f1 : b < base := (h.f _ e).1
      by_cases hbr : b = rb
      · have hx := hc j hj
        rw [hbr] at hx ⊢
        obtain ⟨al, cl, e1, -⟩ := own_ensW hr.2.1 hok
        rw [hr.1.cell, e1] at hx
        have h96 := ref_u8 hRG hx
        rw [hY.1.cell]
        unfold refCells at hx ⊢
        rw [List.getElem?_append_left (by rw [byteCells_length]; omega)] at hx ⊢
        exact hx
      · exact k.cell (hc j hj) fun q => q.elim (fun e => hbr e) fun e => by
          have := (hr.2.1.lt _ e).1
          have e2 : base ≤ b := this
          omega
  · rcases h.s with h1 | ⟨g, h1, h2, h3⟩
    · exact Or.inl h1
    · exact Or.inr ⟨g, h1, h2, set_kp h3 k fun q => q.elim (fun e => h3.ne_cells hr.1 e) fun e => row_map hr.2.1 h3 e⟩
end
theorem two_parts2 {X : World} {g tb : Nat} {p q : Pt} (hg0 : X.cell? ⟨g, 0, none⟩ = some (.slice p.a p.l.length p.c)) (hg1 : X.cell? ⟨g, 1, none⟩ = some (.slice q.a q.l.length q.c)) (h1 : g ≠ tb) (Y : World) (k : But tb X Y) (hp : p.ok0 Y) (hq : q.ok0 Y) : partsW Y (some ⟨g, 0, none⟩) [p.l, q.l] := by
  refine Or.inr ⟨g, 0, rfl, fun j hj => ?_⟩
  match j, hj with
  | 0, _ => exact ⟨p.a, p.c, k.cell hg0 h1, hp.1.1, hp.1.2.1, hp.2, hp.1.2.2⟩
  | 1, _ => exact ⟨q.a, q.c, k.cell hg1 h1, hq.1.1, hq.1.2.1, hq.2, hq.1.2.2⟩
structure PwS (w X : World) (base wb tb rb : Nat) (fa : Option Addr) (fc : Nat) (n : UInt8) (i used : Nat) (B : List UInt8) (L : List En) (v1 v2 : Value) (gm : Option Nat) (lv : Value) : Prop where
  o : WrAt X base wb tb fa fc [n] (16 * used) (penCells (ringN n) tb) B L v1 v2 gm
  r : RefAt X base rb (ringN n) [n] used B L lv
  ub : used ≤ i
  lb : L.length ≤ i
  bb : B.length ≤ 168 * i
  ff : ∀ x ∈ L, x.fine
  bl : Below w.heap.size w X
theorem PwS.below {w X Y : World} {base wb tb rb : Nat} {fa : Option Addr} {fc : Nat} {n : UInt8} {i used : Nat} {B : List UInt8} {L : List En} {v1 v2 : Value} {gm : Option Nat} {lv : Value} (h : PwS w X base wb tb rb fa fc n i used B L v1 v2 gm lv) (k : Below X.heap.size X Y) : PwS w Y base wb tb rb fa fc n i used B L v1 v2 gm lv :=
  ⟨h.o.below k, h.r.below k, h.ub, h.lb, h.bb, h.ff, h.bl.trans (k.mono h.bl.size)⟩
theorem PwS.lo {w X : World} {base wb tb rb : Nat} {fa : Option Addr} {fc : Nat} {n : UInt8} {i used : Nat} {B : List UInt8} {L : List En} {v1 v2 : Value} {gm : Option Nat} {lv : Value} (h : PwS w X base wb tb rb fa fc n i used B L v1 v2 gm lv) (h1 : w.heap.size ≤ wb) (h2 : w.heap.size ≤ tb) (h3 : w.heap.size ≤ base) : ∀ k, wF wb tb v1 v2 gm k → w.heap.size ≤ k := fun k q => by
  rcases q with q | q | q | q | q
  · omega
  · omega
  · have := (h.o.a.lt k q).1; omega
  · have := (h.o.e.lt k q).1; omega
  · rcases h.o.s with ⟨e, -⟩ | ⟨g, e, hb, hs⟩
    · rw [e] at q; cases q
    · rw [e] at q; cases q; omega
theorem PwS.lor {w X : World} {base wb tb rb : Nat} {fa : Option Addr} {fc : Nat} {n : UInt8} {i used : Nat} {B : List UInt8} {L : List En} {v1 v2 : Value} {gm : Option Nat} {lv : Value} (h : PwS w X base wb tb rb fa fc n i used B L v1 v2 gm lv) (h1 : w.heap.size ≤ rb) (h3 : w.heap.size ≤ base) : ∀ k, rF rb lv k → w.heap.size ≤ k := fun k q => by
  rcases q with q | q
  · omega
  · have := (h.r.2.1.lt k q).1; omega
end Go.Proofs.YtfhlcondnaahiaaDoor
end
