/- The document's own Of: SHA-256 of a text, as a text. -/
import Derived.Test.YtjemgniochjgmaaDoorOwnM
import Derived.Test.YtjemgniochjgmaaDoorFold
namespace Go.Proofs.YtjemgniochjgmaaDoor
open Go.RowKit Sha

theorem str_size (l : List UInt8) : (str l).size = l.length := by simp [str, ByteArray.size]
theorem lit_in (w : World) (l : List UInt8) (cs : Array Value) (hcs : cs = (byteCells l).toArray) : bytesIn (w.alloc (.cells cs 5 (0, 0))) (some ⟨w.heap.size, 0, none⟩) l := by
  subst hcs
  refine Or.inr ⟨_, _, rfl, fun j hj => ?_⟩
  rw [Nat.zero_add, (blockIs.new w (byteCells l) 5).cell]
  exact byteCells_get _ _ hj
theorem alloc_below (w : World) (o : Obj) : Below w.heap.size w (w.alloc o) := (Below.refl _ _).alloc (Nat.le_refl _) _

/-- The row behind the first n bytes of the tail. -/
def padTo (L : List UInt8) (n : Nat) : List UInt8 := L ++ (tail L.length).take n
theorem padTo_one (L : List UInt8) (j : Nat) (h : j < noughts L.length) : padTo L (1 + j) ++ [0] = padTo L (1 + (j + 1)) := by
  unfold padTo tail
  rw [Nat.add_comm 1 j, Nat.add_comm 1 (j + 1), List.take_succ_cons, List.take_succ_cons, List.take_append_of_le_length (by simp; omega), List.take_append_of_le_length (by simp; omega), List.take_replicate, List.take_replicate,
    Nat.min_eq_left (by omega), Nat.min_eq_left (by omega), List.replicate_succ', List.append_assoc]
  simp
theorem padTo_len (L : List UInt8) (n : Nat) (h : n ≤ noughts L.length + 9) : (padTo L n).length = L.length + n := by
  unfold padTo
  rw [List.length_append, List.length_take, tail_length]
  omega
theorem padTo_eight (L : List UInt8) (k : Nat) (h : k < 8) : padTo L (1 + noughts L.length + k) ++ [(eight (8 * L.length % 2 ^ 64)).getD k 0] = padTo L (1 + noughts L.length + (k + 1)) := by
  unfold padTo
  rw [List.append_assoc]
  congr 1
  have hl := tail_length L.length
  rw [show 1 + noughts L.length + (k + 1) = (1 + noughts L.length + k) + 1 by omega, List.take_succ_eq_append_getElem (by omega)]
  congr 1
  unfold tail
  simp only [List.cons.injEq, and_true]
  have e : (0x80 :: (List.replicate (noughts L.length) 0 ++ eight (8 * L.length % 2 ^ 64)))[1 + noughts L.length + k]? = (eight (8 * L.length % 2 ^ 64))[k]? := by
    rw [show 1 + noughts L.length + k = (noughts L.length + k) + 1 by omega, List.getElem?_cons_succ, List.getElem?_append_right (by simp)]
    simp
  rw [List.getD_eq_getElem?_getD, ← e]
  rw [List.getElem?_eq_getElem]
  rfl
theorem padTo_all (L : List UInt8) : padTo L (1 + noughts L.length + 8) = pad L := by
  unfold padTo pad
  rw [List.take_of_length_le (by rw [tail_length]; omega)]
theorem pad_mod (L : List UInt8) : (pad L).length % 64 = 0 := by
  rw [← padTo_all, padTo_len _ _ (by omega)]
  unfold noughts
  omega

theorem out_take (R : Reg) (k : Nat) (h : k < 8) : (out R).take (4 * k) ++ [toB (R.list.getD k 0 >>> 24), toB (R.list.getD k 0 >>> 16), toB (R.list.getD k 0 >>> 8), toB (R.list.getD k 0)] = (out R).take (4 * (k + 1)) := by
  match k, h with
  | 0, _ => rfl
  | 1, _ => rfl
  | 2, _ => rfl
  | 3, _ => rfl
  | 4, _ => rfl
  | 5, _ => rfl
  | 6, _ => rfl
  | 7, _ => rfl
theorem bytesIn_rest {w : World} {bb bo : Nat} {l : List UInt8} (h : ∀ j, j < l.length → w.cell? ⟨bb, bo + j, none⟩ = some (.int .u8 (V (l.getD j 0)))) (c k : Nat) (hk : k ≤ l.length) (hc : l.length ≤ c) :
    bytesIn w (if c = k then some ⟨bb, bo, none⟩ else some ⟨bb, bo + k, none⟩) (l.drop k) := by
  rcases bytesAt_rest (b := bb + 1) (by omega) h c k hk hc with h | ⟨x, y, h1, _, h3⟩
  · exact Or.inl h
  · exact Or.inr ⟨x, y, h1, h3⟩
theorem blocks_step (R : Reg) (d : List UInt8) (h : d.length % 64 = 0) (h0 : 0 < d.length) : Sha.blocks (d.length / 64) R d = Sha.blocks ((d.drop 64).length / 64) (block R d) (d.drop 64) := by
  rw [List.length_drop, show d.length / 64 = (d.length - 64) / 64 + 1 by omega]
  rfl
theorem drew_alloc_below (w : World) (o : Obj) : Below w.heap.size w (w.drew.alloc o) := (below_drewN' (Below.refl _ w) 1).alloc (Nat.le_refl _) _
theorem step_appendM_if {w : World} {ops : Array Oper} {o : Oper} {a : Act} {K : Act → World → Prop} {Q : Exit → Act → World → Prop} {E : Prop} (hgd : o.guard = none) (s x : Operand)
    (ho : o.op = .call { callee := .builtin .append, args := #[s, x], argTypes := #[22, 22] })
    (base : Nat) (v : Value) (xs : List UInt8) (hs : a.eval s = v) (hown : rowM w base v xs) (A : Option Addr) (n c : Nat) (l : List UInt8) (hnl : n = l.length) (hx : a.eval x = .slice A n c)
    (hz : 0 < l.length) (hb : bytesIn w A l) (hn : xs.length + l.length ≤ 1000000) (hbase : base ≤ w.heap.size)
    (h : ∀ v' w', rowM w' base v' (xs ++ l) → w.grownBy w' v.ownBlock → K (a.put o.dst v') w') : if Region.wanted o (yielded ops a.tmps) = true then Oper.wp Tryd.prog o a w K Q else E := by
  have hw : Region.wanted o (yielded ops a.tmps) = true := by simp [Region.wanted, hgd]
  rw [if_pos hw]
  exact step_appendM s x ho base v xs hs hown A n c l hnl hx hz hb hn hbase h
theorem rowM.empty (w : World) (base : Nat) : rowM w base (.slice none 0 0) [] := ⟨rfl, .inl ⟨rfl, rfl⟩⟩
attribute [local go_sem] U_wrap8 V_toB U_shr8 U_shr16 U_shr24

set_option maxRecDepth 100000 in
set_option maxHeartbeats 4000000 in
theorem rof_any (L : List UInt8) (w : World) (hL : L.length ≤ 100000) :
    Calls Tryd.prog 20 #[.string (str L)] w fun e w' => e = .returned (.string (str (sha L))) ∧ Below w.heap.size w w' := by
  obtain ⟨X, cap, hconv, hrow, hbel⟩ : ∃ X cap, (convert 9 22 (.string (str L))).run Tryd.prog w = .ok (.slice (some ⟨w.heap.size, 0, none⟩) L.length cap) X ∧ rowM X w.heap.size (.slice (some ⟨w.heap.size, 0, none⟩) L.length cap) L ∧ Below w.heap.size w X :=
    ⟨_, _, conv_bytes w L, rowM.conv w w.heap.size L (Nat.le_refl _) (by omega), conv_below w L⟩
  have R0 := Lib.hid (hrow.below (alloc_below X (.cells #[.int .u8 128] 5 (0, 0))) (Nat.le_refl _))
  have B0 := Lib.hid (hbel.alloc hbel.size (.cells #[.int .u8 128] 5 (0, 0)))
  have I0 := Lib.hid (lit_in X [128] #[.int .u8 128] rfl)
  have HSZ := Lib.hid (str_size L)
  clear hrow hbel
  go_enter Tryd.func20, Tryd.ntmps20
  go_wp2_with (refine append_M rfl _ _ rfl w.heap.size _ L rfl R0.out _ 1 1 [128] rfl rfl (by decide) I0.out (by simp; omega) B0.out.size ?_)
  intro v1 w1 h1 h2
  have h2 := R0.out.grown h2 B0.out.size
  rw [show L ++ [128] = padTo L (1 + 0) by simp [padTo, tail]] at h1
  have R1 := Lib.hid h1
  have B1 := Lib.hid (B0.out.trans h2)
  clear h1 h2 R0 B0 I0 hconv
  go_wp2_with fail
  go_loopw [3] (fun v wr => ∃ j : Nat, j ≤ noughts L.length ∧ Hid (rowM wr w.heap.size v (padTo L (1 + j))) ∧ Hid (Below w.heap.size w wr)) (fun v _ => L.length + 100 - lenOf v)
  case atStart => exact ⟨0, by omega, R1, B1⟩
  case round =>
    clear R1 B1
    obtain ⟨j, hj, R1, B1⟩ := hrel
    have hN : noughts L.length < 64 := by unfold noughts; omega
    have hlen := padTo_len L (1 + j) (by omega)
    obtain ⟨a, c, rfl, hlc, hcm, -, -, -⟩ := R1.out.bytes
    have HLEN := Lib.hid hlen
    generalize hM : padTo L (1 + j) = M at *
    have HM := Lib.hid hM
    clear hM hlen
    by_cases hlt : j < noughts L.length
    · have e1 : ¬ (M.length : Int) % 64 = 56 := by have := HLEN.out; unfold noughts at hlt; omega
      have e2 : ((M.length : Int) % 64 != 56) = true := by simpa using e1
      have R2 := Lib.hid (R1.out.below (alloc_below wr (.cells #[.int .u8 0] 5 (0, 0))) (Nat.le_refl _))
      have B2 := Lib.hid (B1.out.alloc B1.out.size (.cells #[.int .u8 0] 5 (0, 0)))
      have I2 := Lib.hid (lit_in wr [0] #[.int .u8 0] rfl)
      go_wp2_with (refine append_M rfl _ _ rfl w.heap.size _ M rfl R2.out _ 1 1 [0] rfl rfl (by decide) I2.out (by have := HLEN.out; simp; omega) B2.out.size ?_)
      intro v3 w3 h1 h2
      have h2 := R2.out.grown h2 B2.out.size
      rw [← HM.out, padTo_one L j hlt] at h1
      have R3 := Lib.hid h1
      have B3 := Lib.hid (B2.out.trans h2)
      clear h1 h2 e1 e2
      obtain ⟨a3, c3, hv3, -⟩ := R3.out.bytes
      subst hv3
      go_wp2_with fail
      go_roundw
      case rel => exact ⟨j + 1, by omega, R3, B3⟩
      case measure => have h1 := padTo_len L (1 + (j + 1)) (by omega); have h2 := HLEN.out; simp [lenOf]; omega
    · obtain rfl : j = noughts L.length := by omega
      have e1 : (M.length : Int) % 64 = 56 := by have := HLEN.out; unfold noughts at *; omega
      have e2 : ((M.length : Int) % 64 != 56) = false := by simpa using e1
      have hsz := HSZ.out
      have u1 : IntKind.u64.wrap (L.length : Int) = (L.length : Int) := by rw [IntKind.wrap_u64]; omega
      have u2 : IntKind.u64.wrap ((L.length : Int) * 8) = (L.length : Int) * 8 := by rw [IntKind.wrap_u64]; omega
      have n0 : 0 ≤ (L.length : Int) * 8 := by omega
      go_wp2_with fail
      clear u1 u2 n0 e1 e2 hsz
      go_loopw [3, 5] (fun v i wr => ∃ k : Nat, k ≤ 8 ∧ Hid (i = .int .i64 (56 - 8 * (k : Int))) ∧ Hid (rowM wr w.heap.size v (padTo L (1 + noughts L.length + k))) ∧ Hid (Below w.heap.size w wr)) (fun v _ _ => L.length + 100 - lenOf v)
      case atStart => exact ⟨0, by omega, Lib.hid rfl, by rw [Nat.add_zero, HM.out]; exact R1, B1⟩
      case round =>
        clear R1 B1 HM HLEN hlc hcm
        obtain ⟨k, hk, hi, R1, B1⟩ := hrel
        have hlen := padTo_len L (1 + noughts L.length + k) (by omega)
        obtain ⟨a, c, rfl, hlc, hcm, -, -, -⟩ := R1.out.bytes
        have HLEN := Lib.hid hlen
        generalize hM : padTo L (1 + noughts L.length + k) = M at *
        have HM := Lib.hid hM
        clear hM hlen
        by_cases hlt : k < 8
        · obtain ⟨s, hs⟩ : ∃ s, s = 56 - 8 * k := ⟨_, rfl⟩
          have hi := hi.out
          rw [show (56 - 8 * (k : Int)) = (s : Int) by omega] at hi
          subst hi
          have hv := eight_val L.length k hlt (by omega)
          rw [← hs] at hv
          have hps := padTo_eight L k hlt
          have HPS := Lib.hid hps
          generalize (eight (8 * L.length % 2 ^ 64)).getD k 0 = b at *
          have HS := Lib.hid hs
          have hs2 : (s : Int) ≤ 56 := by omega
          clear hs hps
          have R2 := Lib.hid (R1.out.below (alloc_below wr (.cells #[.int .u8 (V b)] 5 (0, 0))) (Nat.le_refl _))
          have B2 := Lib.hid (B1.out.alloc B1.out.size (.cells #[.int .u8 (V b)] 5 (0, 0)))
          have I2 := Lib.hid (lit_in wr [b] #[.int .u8 (V b)] rfl)
          go_wp2_with (refine append_M rfl _ _ rfl w.heap.size _ M rfl R2.out _ 1 1 [b] rfl rfl (by simp) I2.out (by have := HLEN.out; simp; omega) B2.out.size ?_)
          intro v3 w3 h1 h2
          have h2 := R2.out.grown h2 B2.out.size
          rw [← HM.out, HPS.out] at h1
          have R3 := Lib.hid h1
          have B3 := Lib.hid (B2.out.trans h2)
          clear h1 h2 hv HPS
          obtain ⟨a3, c3, hv3, -⟩ := R3.out.bytes
          subst hv3
          go_wp2_with fail
          go_roundw
          case rel => exact ⟨k + 1, by omega, Lib.hid (by have := HS.out; congr 1; omega), R3, B3⟩
          case measure => have h1 := padTo_len L (1 + noughts L.length + (k + 1)) (by omega); have h2 := HLEN.out; simp [lenOf]; omega
        · obtain rfl : k = 8 := by omega
          have hi := hi.out
          rw [show (56 - 8 * ((8 : Nat) : Int)) = -8 by omega] at hi
          subst hi
          rw [show 1 + noughts L.length + 8 = 1 + noughts L.length + 8 from rfl, padTo_all] at HM
          have hmod := pad_mod L
          rw [HM.out] at hmod
          have HMOD := Lib.hid hmod
          clear hmod HLEN
          go_wp2_with fail
          have hreg : ∀ j x, init.list[j]? = some x → (wr.alloc (.cells (regCells init).toArray 54 (0, 0))).cell? ⟨wr.heap.size, j, none⟩ = some (.int .u32 (U x)) := fun j x hx => by
            have hj : j < 8 := (List.getElem?_eq_some_iff.1 hx).1
            rw [(blockIs.new wr (regCells init) 54).cell, regs_get' _ _ hj]
            simp [hx]
          have HR := Lib.hid hreg
          have BQ := Lib.hid (B1.out.alloc B1.out.size (.cells (regCells init).toArray 54 (0, 0)))
          have R4 := Lib.hid (R1.out.below (alloc_below wr (.cells (regCells init).toArray 54 (0, 0))) (Nat.le_refl _))
          clear hreg R1 B1
          rw [show wr.alloc (.cells #[.int .u32 1779033703, .int .u32 3144134277, .int .u32 1013904242, .int .u32 2773480762, .int .u32 1359893119, .int .u32 2600822924, .int .u32 528734635, .int .u32 1541459225] 54 (0, 0)) = wr.alloc (.cells (regCells init).toArray 54 (0, 0)) from rfl]
          generalize wr.alloc (.cells (regCells init).toArray 54 (0, 0)) = wq at *
          generalize wr.heap.size = rb0 at *
          obtain ⟨a9, c9, h9, h91, h92, h93, -, -⟩ := R4.out.bytes
          obtain ⟨rfl, -, rfl⟩ : a = a9 ∧ True ∧ c = c9 := by cases h9; exact ⟨rfl, trivial, rfl⟩
          have IN := Lib.hid h93
          clear h9 h93 R4 h91 h92
          unfold maxLen at hcm
          go_loopw [3, 6] (fun v r wr => ∃ (d : List UInt8) (a : Option Addr) (c : Nat) (R : Reg) (rb rc : Nat), v = .slice a d.length c ∧ d.length ≤ c ∧ c ≤ 9223372036854775807 ∧ Hid (d.length % 64 = 0) ∧ Hid (bytesIn wr a d) ∧ r = .slice (some ⟨rb, 0, none⟩) 8 rc ∧ Hid (∀ j x, R.list[j]? = some x → wr.cell? ⟨rb, j, none⟩ = some (.int .u32 (U x))) ∧ Hid (Sha.blocks (d.length / 64) R d = Sha.blocks (M.length / 64) init M) ∧ Hid (Below w.heap.size w wr)) (fun v _ _ => lenOf v)
          case atStart => exact ⟨M, a, c, init, rb0, 8, rfl, hlc, hcm, HMOD, IN, rfl, HR, Lib.hid rfl, BQ⟩
          case round =>
            clear HMOD IN HR BQ hlc hcm
            obtain ⟨d, a, c, R, rb, rc, rfl, hlc, hcm, HMOD, IN, rfl, HR, HBL, BQ⟩ := hrel
            by_cases hd : 0 < d.length
            · have h64 : 64 ≤ d.length := by have := HMOD.out; omega
              obtain ⟨bb, bo, rfl, hb⟩ : ∃ bb bo, a = some ⟨bb, bo, none⟩ ∧ ∀ j, j < d.length → wr.cell? ⟨bb, bo + j, none⟩ = some (.int .u8 (V (d.getD j 0))) := by
                rcases IN.out with h | h
                · rw [h] at hd; simp at hd
                · exact h
              have HB := Lib.hid hb
              have d1 : (64 : Int) ≤ c := by omega
              have d2 : (64 : Int) ≤ d.length := by omega
              clear hb
              go_wp2_with fail
              with_reducible refine (fold_any rb bb bo 64 c rc 54 R d wr (by omega) (by omega) (fun j hj => HB.out j (by omega)) (fun j x hx => by rw [Nat.zero_add]; exact HR.out j x hx)).mono ?_
              rintro e w5 ⟨g, gc, rfl, k1, k2, k3⟩
              have K1 := Lib.hid k1
              have K2 := Lib.hid k2
              have K3 := Lib.hid k3
              clear k1 k2 k3
              go_wp2_with fail
              go_roundw
              case rel =>
                have hin := bytesIn_rest HB.out c 64 h64 hlc
                have hl : (d.drop 64).length = d.length - 64 := List.length_drop
                refine ⟨d.drop 64, _, c - 64, block R d, g, gc, ?_, by rw [hl]; omega, by omega, Lib.hid (by rw [hl]; have := HMOD.out; omega), Lib.hid (hin.below K3.out), rfl, K2, Lib.hid (by rw [← blocks_step R d HMOD.out hd]; exact HBL.out), Lib.hid (BQ.out.trans (K3.out.mono BQ.out.size))⟩
                rw [hl]
              case measure => simp [lenOf]; omega
            · have hd0 : d = [] := List.eq_nil_of_length_eq_zero (by omega)
              have hbl : R = Sha.blocks (M.length / 64) init M := by
                have := HBL.out
                rw [hd0] at this
                exact this
              clear hd0
              rw [← HM.out] at hbl
              have HOUT : Hid (sha L = out R) := Lib.hid (by unfold sha; rw [← hbl])
              clear hbl HBL IN HMOD
              generalize wr = wz at *
              have RE := Lib.hid (rowM.empty wz wz.heap.size)
              have BS := Lib.hid (Below.refl wz.heap.size wz)
              go_wp2_with fail
              go_loopw [7, 8] (fun v i wr => ∃ k : Nat, k ≤ 8 ∧ i = .int .i64 (k : Int) ∧ Hid (rowM wr wz.heap.size v ((out R).take (4 * k))) ∧ Hid (Below wz.heap.size wz wr)) (fun _ i _ => 8 - (intOf i).toNat)
              case atStart => exact ⟨0, by omega, rfl, RE, BS⟩
              case round =>
                clear RE BS
                obtain ⟨k, hk, rfl, RE, BS⟩ := hrel
                by_cases hlt : k < 8
                · have hreg : wr.cell? ⟨rb, k, none⟩ = some (.int .u32 (U (R.list.getD k 0))) := by
                    have h8 : R.list[k]? = some (R.list.getD k 0) := by
                      rw [List.getD_eq_getElem?_getD, List.getElem?_eq_getElem (show k < R.list.length from hlt)]
                      rfl
                    have := HR.out k _ h8
                    exact (BS.out.cell (p := ⟨rb, k, none⟩) (block_lt_of_cell this)).trans this
                  have RLT0 : rb < wz.heap.size := by
                    have h8 : R.list[k]? = some (R.list.getD k 0) := by
                      rw [List.getD_eq_getElem?_getD, List.getElem?_eq_getElem (show k < R.list.length from hlt)]
                      rfl
                    exact block_lt_of_cell (HR.out k _ h8)
                  have hot := out_take R k hlt
                  have HOT := Lib.hid hot
                  clear hot
                  have p : 0 ≤ (k : Int) := by omega
                  have q4 : (k : Int) < 8 := by omega
                  have hlen : ((out R).take (4 * k)).length = 4 * k := by rw [List.length_take, out_length]; omega
                  have HLEN := Lib.hid hlen
                  clear hlen
                  generalize (out R).take (4 * k) = M4 at *
                  generalize R.list.getD k 0 = x at *
                  have R2 := Lib.hid (RE.out.below (drew_alloc_below wr (.cells #[.int .u8 (V (toB (x >>> 24))), .int .u8 (V (toB (x >>> 16))), .int .u8 (V (toB (x >>> 8))), .int .u8 (V (toB x))] 5 (0, 0))) (Nat.le_refl _))
                  have B2 : Hid (Below wz.heap.size wz (wr.drew.alloc (.cells #[.int .u8 (V (toB (x >>> 24))), .int .u8 (V (toB (x >>> 16))), .int .u8 (V (toB (x >>> 8))), .int .u8 (V (toB x))] 5 (0, 0)))) := Lib.hid ((below_drewN' BS.out 1).alloc BS.out.size _)
                  have I2 := Lib.hid (lit_in wr.drew [toB (x >>> 24), toB (x >>> 16), toB (x >>> 8), toB x] #[.int .u8 (V (toB (x >>> 24))), .int .u8 (V (toB (x >>> 16))), .int .u8 (V (toB (x >>> 8))), .int .u8 (V (toB x))] rfl)
                  have hregA : (wr.drew.alloc (.cells #[.int .u8 (V (toB (x >>> 24))), .int .u8 (V (toB (x >>> 16))), .int .u8 (V (toB (x >>> 8))), .int .u8 (V (toB x))] 5 (0, 0))).cell? ⟨rb, k, none⟩ = some (.int .u32 (U x)) := ((drew_alloc_below wr _).cell (p := ⟨rb, k, none⟩) (block_lt_of_cell hreg)).trans hreg
                  have HRA := Lib.hid hregA
                  have RLT := Lib.hid RLT0
                  clear hregA
                  go_wp2_with fail
                  go_region_held3 (fun w' => w'.cell? ⟨rb, k, none⟩ = some (.int .u32 (U x)))
                    (first | exact hreg | exact HRA.out | exact HR3.out)
                    (first | (refine step_appendM_if rfl _ _ rfl wz.heap.size _ M4 rfl R2.out _ 4 4 [toB (x >>> 24), toB (x >>> 16), toB (x >>> 8), toB x] rfl rfl (by simp) I2.out (by rw [HLEN.out]; simp; omega) B2.out.size ?_
                              intro v3 w3 h1 h2
                              have h2 := R2.out.grown h2 B2.out.size
                              rw [HOT.out] at h1
                              have R3 := Lib.hid h1
                              have B3 := Lib.hid (B2.out.trans h2)
                              have HR3 : Hid (w3.cell? ⟨rb, k, none⟩ = some (.int .u32 (U x))) := Lib.hid ((h2.cell (p := ⟨rb, k, none⟩) RLT.out).trans HRA.out)
                              clear h1 h2))
                  go_wp2_with fail
                  go_roundw
                  case rel => exact ⟨k + 1, by omega, by go_num, R3, B3⟩
                  case measure => simp [intOf]; omega
                · obtain rfl : k = 8 := by omega
                  rw [show ((8 : Nat) : Int) = 8 from rfl]
                  have RE := RE.out
                  rw [show 4 * 8 = (out R).length from rfl, List.take_length, ← HOUT.out] at RE
                  obtain ⟨a3, c3, rfl, -, -, hin, -, -⟩ := RE.bytes
                  have hcs := conv_string wr a3 (sha L) c3 hin
                  have BF := Lib.hid (BQ.out.trans (BS.out.mono BQ.out.size))
                  clear RE hin
                  go_wp2_with fail
                  go_ret
                  exact ⟨rfl, BF.out⟩
end Go.Proofs.YtjemgniochjgmaaDoor
