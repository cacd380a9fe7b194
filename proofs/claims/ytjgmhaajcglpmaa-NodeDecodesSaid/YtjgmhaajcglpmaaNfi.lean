/- Names cloned; a node found by its name. -/
import Derived.Test.YtjgmhaajcglpmaaLod
namespace Go.Proofs.Ytjgmhaajcglpmaa
open Go.RowKit

section
variable {w : World} {ops : Array Oper} {rest : List Oper} {o : Oper} {a : Act} {Q : Exit → Act → World → Prop}
theorem append_ids (hw : Region.wanted o (yielded ops a.tmps) = true) (s x : Operand) (ho : o.op = .call { callee := .builtin .append, args := #[s, x], argTypes := #[22, 22] })
    (base : Nat) (v : Value) (P0 P : List (List UInt8)) (hs : a.eval s = v) (hown : w.ownsRow base 24 32 v P0.length (idcells P0)) (h0 : ∀ p ∈ P0, p.length = 32) (pv : Value) (hx : a.eval x = pv) (hid : idsIn w pv P) (hn : (P0.length + P.length) * 32 ≤ 140737488355328) (hbase : base ≤ w.heap.size)
    (h : ∀ v' w', Hid (w'.ownsRow base 24 32 v' (P0 ++ P).length (idcells (P0 ++ P))) → Hid (w.grownBy w' v.ownBlock) → Hid (Below base w w') → wpList Try.prog ops Q rest (a.put o.dst v') w') : wpList Try.prog ops Q (o :: rest) a w :=
  wpList_step fun K hK => step_append_ids hw s x ho base v P0 P hs hown h0 pv hx hid hn hbase (fun v' w' h1 h2 h3 => hK _ _ (h v' w' h1 h2 h3))
end
set_option maxRecDepth 100000 in
theorem clone_ids (pv : Value) (P : List (List UInt8)) (w : World) (h : idsIn w pv P) (hb : P.length * 32 ≤ 140737488355328) :
    Calls Try.prog 47 #[pv] w fun e w' => (∃ v, e = .returned v ∧ w'.ownsRow w.heap.size 24 32 v P.length (idcells P)) ∧ Below w.heap.size w w' := by
  obtain ⟨a, c, rfl, h1, h2, h3, h4, h5⟩ := h
  have q := fun (w : World) (a : Option Addr) (n c n' c' : Nat) => Go.Lib.run_eql_slice_nil (P := Try.prog) w 22 _ a n c n' c' Try.underlying22
  have H4 := Lib.hid h4
  have H5 := Lib.hid h5
  cases a with
  | none =>
    obtain rfl := h3 rfl
    obtain rfl : P = [] := List.eq_nil_of_length_eq_zero (by omega)
    clear h4 h5
    go_enter Try.func47, Try.ntmps47
    go_wp2_with fail
    go_ret
    exact ⟨⟨_, rfl, World.ownsRow_nil _ _ _ _⟩, Below.refl _ _⟩
  | some ad =>
    have HI : Hid (idsIn w (.slice (some ad) P.length c) P) := Lib.hid ⟨some ad, c, rfl, h1, h2, h3, H4.out, H5.out⟩
    have A1 := Lib.hid (alloc_below w (.cells #[] 24 (0, 0)))
    have O1 : Hid ((w.alloc (.cells #[] 24 (0, 0))).ownsRow w.heap.size 24 32 (.slice (some ⟨w.heap.size, 0, none⟩) 0 0) ([] : List (List UInt8)).length (idcells [])) := Lib.hid (World.ownsRow_lit w #[] 0 (Nat.le_refl _) (by decide) (by simp))
    clear h4 h5
    go_enter Try.func47, Try.ntmps47
    go_wp2_with (at_builtin; refine Hid.out ?_)
    refine Lib.hid ?_
    refine append_ids (by rfl) _ _ rfl w.heap.size (.slice (some ⟨w.heap.size, 0, none⟩) 0 0) [] P rfl O1.out (by simp) (.slice (some ad) P.length c) rfl (HI.out.below A1.out (Nat.le_refl _)) (by simpa using hb) A1.out.size ?_
    intro v' w' r1 _ b1
    have r1 := r1.out
    rw [List.nil_append] at r1
    have I1 := Lib.hid r1
    have B1 := Lib.hid (A1.out.trans b1.out)
    clear r1 b1 O1 A1
    go_wp2_with fail
    go_ret
    exact ⟨⟨_, rfl, I1.out⟩, B1.out⟩
theorem find_ret (tmps : Array Value) (w : World) (g : Nat) (cs : List Value) (hp : tmps.getD 4 undef = .pointer (some ⟨g, 0, none⟩)) (hc : w.rangeAt g 0 cs) (hl : cs.length = 39) : (results Try.f24 tmps).run Try.prog w = .ok (.tuple #[.agg cs.toArray, tmps.getD 5 undef]) w := by
  have hld := run_loadVar_mid (P := Try.prog) w g 0 33 cs _ hc Try.underlying33 rfl (by rw [hl]; kernel_rfl)
  rw [results_cell_tmp rfl, hp]
  simp [asAddr, Result.andThen, hld]
theorem own_but {w w' : World} {base b : Nat} {v : Value} {n : Nat} {cs : List Value} {t : TypeId} {s : Nat} (h : w.ownsRow base t s v n cs) (hb : But b w w') (hlt : b < base) : w'.ownsRow base t s v n cs := by
  have hg : w.grownBy w' (some b) := ⟨hb.os, hb.tape, hb.output, hb.size, fun k hk hn => hb.block k hk (fun e => hn (by rw [e]))⟩
  refine World.ownsRow.kept h hg ?_
  cases hv : v.ownBlock with
  | none => exact Or.inl rfl
  | some g => exact Or.inr (fun e => by cases e; have := (h.lt _ hv).1; omega)
/-- The first of a name. -/
def firstAt (x : List UInt8) : List Nd → Nat
  | [] => 0
  | n :: L => if n.name = x then 0 else firstAt x L + 1
theorem firstAt_drop (x : List UInt8) (L : List Nd) (j : Nat) (h : j < L.length) : j + firstAt x (L.drop j) = if L[j].name = x then j else j + 1 + firstAt x (L.drop (j + 1)) := by
  rw [List.drop_eq_getElem_cons h, firstAt]
  by_cases q : L[j].name = x
  · rw [if_pos q, if_pos q, Nat.add_zero]
  · rw [if_neg q, if_neg q]
    omega
set_option maxRecDepth 100000 in
set_option maxHeartbeats 4000000 in
theorem find_any (x : List UInt8) (a : Option Addr) (c : Nat) (L : List Nd) (w : World) (hl : L.length ≤ 100000) (hp : ∀ n ∈ L, n.parts.length * 32 ≤ 140737488355328) (h : rowN w a L) :
    Calls Try.prog 24 #[.string (str x), .slice a L.length c] w fun e w' =>
      ((∃ (hj : firstAt x L < L.length) (v : Value), e = .returned (.tuple #[.agg (L[firstAt x L].cells v).toArray, .bool true]) ∧ idsIn w' v L[firstAt x L].parts ∧ L[firstAt x L].Wf) ∨ firstAt x L = L.length ∧ e = .returned (.tuple #[.agg (zeroNd.cells (.slice none 0 0)).toArray, .bool false])) ∧ Below w.heap.size w w' := by
  have H := Lib.hid h
  have HP := Lib.hid hp
  clear h hp
  have hz := zero_nd
  have HZ := Lib.hid (zeroNd.cells_length (.slice none 0 0) rfl)
  have HB0 := blockIs.new w (zeroNd.cells (.slice none 0 0)) 33
  have HZO := Lib.hid (cells_one zeroNd (.slice none 0 0) rfl)
  have HIN0 : Hid ((Try.prog.info? 33).map (·.size) = some (zeroNd.cells (.slice none 0 0)).length) := Lib.hid (by rw [HZ.out]; exact info_nd)
  have A0 := Lib.hid (alloc_below w (.cells (zeroNd.cells (.slice none 0 0)).toArray 33 (0, 0)))
  generalize hzs : zeroNd.cells (.slice none 0 0) = zs at *
  have HB1 := Lib.hid HB0
  obtain ⟨K, hK⟩ : ∃ K, K = firstAt x L := ⟨_, rfl⟩
  rw [← hK]
  have HK := Lib.hid hK
  clear hK HB0
  go_enter Try.func24, Try.ntmps24
  go_wp2_with fail
  go_loopw [10] (fun i wr => ∃ j : Nat, j ≤ L.length ∧ i = .int .i64 j ∧ Hid (K = j + firstAt x (L.drop j)) ∧ Hid (blockIs wr w.heap.size zs 33) ∧ Hid (Below w.heap.size w wr)) (fun i _ => L.length - (intOf i).toNat)
  case atStart => exact ⟨0, Nat.zero_le _, rfl, Lib.hid (by rw [HK.out]; simp), HB1, A0⟩
  case round =>
    obtain ⟨j, hj, rfl, HE, HR, HB⟩ := hrel
    have p0 : 0 ≤ (j : Int) := by omega
    by_cases hlt : j < L.length
    · have q0 : (j : Int) < (L.length : Int) := by omega
      obtain ⟨b, o, rfl, hn⟩ := (H.out.below HB.out (Nat.le_refl _)).at j hlt
      have HD := Lib.hid (firstAt_drop x L j hlt)
      have HPN := Lib.hid (HP.out _ (List.getElem_mem hlt))
      obtain ⟨n, hnn⟩ : ∃ n, n = L[j] := ⟨_, rfl⟩
      rw [← hnn] at hn HD HPN
      have HNN := Lib.hid hnn
      clear hnn
      obtain ⟨pa, pc, wf, hid, hr⟩ := hn.form
      have HID := Lib.hid hid
      have R1 := Lib.hid hr
      have WF := Lib.hid wf
      clear hr wf hid hn
      have HCL := Lib.hid (n.cells_length (.slice pa n.parts.length pc) WF.out.tree)
      have HC1 := Lib.hid (cells_one n (.slice pa n.parts.length pc) rfl)
      obtain ⟨cs, hcs⟩ : ∃ cs, cs = n.cells (.slice pa n.parts.length pc) := ⟨_, rfl⟩
      rw [← hcs] at R1 HCL HC1
      have HCS := Lib.hid hcs
      clear hcs
      go_wp2_with (first | (refine load_nd (by rfl) _ rfl b (o + j * 39) rfl cs R1.out HCL.out ?_) | (refine store_new 33 info_nd rfl _ _ rfl cs zs rfl rfl HCL.out HZ.out HC1.out ?_))
      intro w5 h1 h2
      have HB5 := h1.out
      rw [HCS.out] at HB5
      have B5 := Lib.hid (HB.out.trans (h2.out.mono HB.out.size))
      have HR5 := Lib.hid (HR.out.below h2.out HR.out.lt)
      have HID5 := Lib.hid (HID.out.below h2.out (Nat.le_refl _))
      have HG0 : Hid (w.heap.size ≤ wr.heap.size) := Lib.hid HB.out.size
      have HNE : Hid (w.heap.size ≠ wr.heap.size) := Lib.hid (by have := HR.out.lt; omega)
      clear h1 h2 HB HR HID R1
      generalize wr.heap.size = g at *
      obtain ⟨c0, -, -, -, -, -, c6⟩ := nd_block HB5
      have HK5 := Lib.hid HB5
      clear HB5
      obtain ⟨r, hr⟩ : ∃ r, r = (n.name == x) := ⟨_, rfl⟩
      have cmr : ((str n.name).toList == (str x).toList) = r := by rw [Lib.toList_data, Lib.toList_data, hr]; rfl
      have HRR := Lib.hid hr
      clear hr
      cases r with
      | true =>
        have CI := clone_ids (.slice pa n.parts.length pc) n.parts w5 HID5.out HPN.out
        go_wp2_with fail
        with_reducible refine CI.mono ?_
        rintro e w6 ⟨⟨v, rfl, iv⟩, b6⟩
        obtain ⟨va, vc, rfl⟩ := (own_ids iv WF.out.part 0).1.form
        have IV := Lib.hid iv
        have HGL : Hid (g < w5.heap.size ∧ w.heap.size < w5.heap.size) := Lib.hid ⟨HK5.out.lt, HR5.out.lt⟩
        have B6 := Lib.hid (B5.out.trans (b6.mono B5.out.size))
        have HR6 := Lib.hid (HR5.out.below b6 HR5.out.lt)
        have HK6 := Lib.hid (HK5.out.below b6 HK5.out.lt)
        clear b6 iv CI HK5 HR5 B5 HID5
        have f6 := HK6.out.free 6
        have c6' := (nd_block HK6.out).2.2.2.2.2.2
        have HK7 : Hid (blockIs (w6.setCell ⟨g, 6, none⟩ (.slice va n.parts.length vc)) g (n.cells (.slice va n.parts.length vc)) 33) := Lib.hid (HK6.out.set 6 _)
        have R7 := Lib.hid (nd_all HK7.out)
        have HR7 : Hid (blockIs (w6.setCell ⟨g, 6, none⟩ (.slice va n.parts.length vc)) w.heap.size zs 33) := Lib.hid (HR6.out.other _ _ HNE.out)
        have HCV := Lib.hid (n.cells_length (.slice va n.parts.length vc) WF.out.tree)
        have HCO := Lib.hid (cells_one n (.slice va n.parts.length vc) rfl)
        have HIN : Hid ((Try.prog.info? 33).map (·.size) = some (n.cells (.slice va n.parts.length vc)).length) := Lib.hid (by rw [HCV.out]; exact info_nd)
        have BU : Hid (But g w6 (w6.setCell ⟨g, 6, none⟩ (.slice va n.parts.length vc))) := Lib.hid ((But.refl g w6).setCell _ _ (Or.inl rfl))
        obtain ⟨es, hes⟩ : ∃ es, es = n.cells (.slice va n.parts.length vc) := ⟨_, rfl⟩
        rw [← hes] at R7 HCV HCO HIN
        have HES := Lib.hid hes
        clear hes HK7
        go_wp2_with (first | (refine load_nd (by rfl) _ rfl g 0 rfl es R7.out HCV.out ?_) | (refine wpList_store_block rfl 33 _ _ rfl w.heap.size 0 es rfl rfl zs 33 HR7.out HIN.out (by rw [HCV.out, HZ.out]; omega) HCO.out ?_))
        intro w8 k1 k2 k3
        have HB8 := k1.out
        rw [splice_all zs es (by rw [HCV.out, HZ.out])] at HB8
        have R8 := Lib.hid (block_range HB8)
        have K2 := k2
        have K3 := k3
        clear k1 k2 k3 HB8
        have HI8 := Lib.hid (own_ids (own_but (own_but IV.out BU.out HGL.out.1) K2.out HGL.out.2) WF.out.part 0).1
        have B8 := Lib.hid (B6.out.trans ((BU.out.below HG0.out B6.out.size).trans (K2.out.below (Nat.le_refl _) (Nat.le_trans B6.out.size BU.out.size))))
        clear IV BU HGL K2 K3 B6 HK6 HR6 HR7 R7
        go_wp2_with fail
        refine bodyPost_ret (find_ret _ _ w.heap.size es rfl R8.out HCV.out) rfl ?_
        have hKj : K = j := by
          rw [HE.out, HD.out, if_pos]
          have := HRR.out
          simpa using this.symm
        subst hKj
        refine ⟨Or.inl ⟨hlt, .slice va n.parts.length vc, ?_, ?_, ?_⟩, B8.out⟩
        · rw [← HNN.out, ← HES.out]
          rfl
        · rw [← HNN.out]
          exact HI8.out
        · rw [← HNN.out]
          exact WF.out
      | false =>
        have HN : Hid (K = (j + 1) + firstAt x (L.drop (j + 1))) := Lib.hid (by rw [HE.out, HD.out, if_neg]; have := HRR.out; simpa using this.symm)
        go_wp2_with fail
        go_roundw
        case rel => exact ⟨j + 1, by omega, by go_num, HN, HR5, B5⟩
        case measure => simp [intOf]; omega
    · obtain rfl : j = L.length := by omega
      have q0 : ¬ ((L.length : Int) < (L.length : Int)) := by omega
      have HE0 : Hid (K = L.length) := Lib.hid (by rw [HE.out, List.drop_length]; rfl)
      go_wp2_with (refine wpList_store_block rfl 33 _ _ rfl w.heap.size 0 zs rfl rfl zs 33 HR.out HIN0.out (by omega) HZO.out ?_)
      intro w8 k1 k2 k3
      have HB8 := k1.out
      rw [splice_all zs zs rfl] at HB8
      have R8 := Lib.hid (block_range HB8)
      have K2 := k2
      have K3 := k3
      clear k1 k2 k3 HB8
      have B8 := Lib.hid (HB.out.trans (K2.out.below (Nat.le_refl _) HB.out.size))
      clear HB HR K2 K3
      go_wp2_with fail
      refine bodyPost_ret (find_ret _ _ w.heap.size zs rfl R8.out HZ.out) rfl ?_
      exact ⟨Or.inr ⟨HE0.out, rfl⟩, B8.out⟩
end Go.Proofs.Ytjgmhaajcglpmaa
