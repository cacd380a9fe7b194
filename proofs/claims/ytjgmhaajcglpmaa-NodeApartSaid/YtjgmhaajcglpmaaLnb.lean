/- The law NodeBack: its walk. -/
import Derived.Test.YtjgmhaajcglpmaaNdc
import Derived.Test.YtjgmhaajcglpmaaLfi
namespace Go.Proofs.Ytjgmhaajcglpmaa
open Go.RowKit

theorem numBytes_n9 {n : Nat} (h : n < 4611686018427387904) : (numBytes n).length ≤ 9 := numBytes_nine n h
theorem ndBytes_le {n : Nd} (hs : n.Shape) (hp : n.parts.length ≤ 300) : (ndBytes n).length ≤ 20000 := by
  have h1 := hs.name
  have h2 := hs.kind
  have h3 := hs.mode
  have h4 := hs.time
  have b1 := numBytes_n9 (n := n.name.length) (by omega)
  have b2 := numBytes_n9 (n := n.kind.toNat) (by omega)
  have b3 := numBytes_n9 (n := n.mode.toNat) (by omega)
  have b4 := numBytes_n9 (n := n.time.toNat) (by omega)
  unfold ndBytes
  simp only [List.length_append]
  by_cases k0 : n.kind = 0
  · obtain ⟨-, -, p3, p4, p5, p6⟩ := hs.file k0
    have b5 := numBytes_n9 (n := n.size.toNat) (by omega)
    have b6 := numBytes_n9 (n := n.parts.length) (by omega)
    have hl : ∀ P : List (List UInt8), (∀ p ∈ P, p.length = 32) → P.flatten.length = 32 * P.length := fun P => by
      induction P with
      | nil => intro _; rfl
      | cons p P ih =>
        intro hp
        rw [List.flatten_cons, List.length_append, ih (fun x hx => hp x (by simp [hx])), hp p (by simp), List.length_cons]
        omega
    rw [if_pos k0]
    simp only [List.length_append]
    rw [hl _ p6]
    omega
  · rw [if_neg k0]
    by_cases k1 : n.kind = 1
    · obtain ⟨-, p2, -, -⟩ := hs.dir k1
      rw [if_pos k1]
      omega
    · obtain ⟨p1, -, -, -⟩ := hs.link (by omega)
      have b5 := numBytes_n9 (n := n.target.length) (by omega)
      rw [if_neg k1]
      simp only [List.length_append]
      omega
theorem rows_len : ∀ (S : List Nd), (∀ n ∈ S, n.Shape ∧ n.parts.length ≤ 300) → (S.flatMap ndBytes).length ≤ 20000 * S.length
  | [], _ => by simp
  | n :: S, h => by
    have h1 := rows_len S (fun m hm => h m (by simp [hm]))
    have h2 := ndBytes_le (h n (by simp)).1 (h n (by simp)).2
    rw [List.flatMap_cons, List.length_append, List.length_cons]
    omega
theorem enc_len {S : List Nd} (h : ∀ n ∈ S, n.Shape ∧ n.parts.length ≤ 300) (hl : S.length ≤ 60) : 1 ≤ (encBytes S).length ∧ (encBytes S).length ≤ 2000000 := by
  have h1 := rows_len S h
  have b1 := numBytes_n9 (n := S.length) (by omega)
  unfold encBytes
  simp only [List.length_append, List.length_cons, List.length_nil]
  omega
/-- What begins with the bytes of nodes, and is bytes of nodes, is just these. -/
theorem enc_prefix {L L' : List UInt8} {S S' : List Nd} (h : DecIs L S) (g : DecIs L' S') {R : List UInt8} (e : L = L' ++ R) : R = [] := by
  rw [h.2.2, g.2.2] at e
  unfold encBytes at e
  simp only [List.append_assoc] at e
  obtain ⟨e1, e2⟩ := num_prefix _ _ _ _ (List.append_cancel_left e)
  have e2 : S.flatMap ndBytes ++ [] = S'.flatMap ndBytes ++ R := by rw [← e2, List.append_nil]
  obtain ⟨-, e3⟩ := rows_det S S' h.shape.2 g.shape.2 (Nat.le_of_eq e1) [] R e2
  rw [e1, List.drop_length] at e3
  exact e3.symm
theorem ownN.wf {w : World} {base : Nat} {t : TypeId} {v : Value} {L : List Nd} (h : ownN w base t v L) : ∀ n ∈ L, n.Wf := fun n hn => by
  obtain ⟨Q, rfl, -, h2⟩ := h
  obtain ⟨q, hq, rfl⟩ := List.mem_map.1 hn
  exact (h2 q hq).1
theorem cut_at (cut : Int) (n : Nat) (hn : 1 ≤ n) (hn2 : n ≤ 2000000) : ∃ k : Nat, k < n ∧ wrap64 ((IntKind.u64.wrap cut).tmod (n : Int)) = (k : Int) := by
  have h0 : 0 ≤ IntKind.u64.wrap cut := by
    show 0 ≤ cut % 18446744073709551616
    omega
  have h1 : (IntKind.u64.wrap cut).tmod (n : Int) = IntKind.u64.wrap cut % (n : Int) := Int.tmod_eq_emod_of_nonneg h0
  have h2 := Int.emod_nonneg (IntKind.u64.wrap cut) (show (n : Int) ≠ 0 by omega)
  have h3 := Int.emod_lt_of_pos (IntKind.u64.wrap cut) (show (0 : Int) < (n : Int) by omega)
  refine ⟨(IntKind.u64.wrap cut % (n : Int)).toNat, by omega, ?_⟩
  rw [h1]
  generalize IntKind.u64.wrap cut % (n : Int) = z at *
  unfold wrap64
  omega
theorem cut_byte (cut : Int) : ∃ y : UInt8, IntKind.u8.wrap cut = V y := by
  have h0 : 0 ≤ cut % 256 ∧ cut % 256 < 256 := by omega
  refine ⟨UInt8.ofNat (cut % 256).toNat, ?_⟩
  show cut % 256 = ((UInt8.ofNat (cut % 256).toNat).toNat : Int)
  rw [UInt8.toNat_ofNat']
  omega
set_option maxRecDepth 100000 in
set_option maxHeartbeats 8000000 in
theorem law_nodeBack (a : Option Addr) (c : Nat) (L : List Nd) (cut : Int) (w : World) (hlc : L.length ≤ c) (hc : c ≤ 9223372036854775807) (h : rowN w a L) (_ : (Lit.int .i64 cut).wf = true) :
    Calls Try.prog 6 #[.slice a L.length c, .int .i64 cut] w fun e w' => e = .returned (.bool true) ∧ Below w.heap.size w w' := by
  have PF := Lib.hid (few_any a c L w (by omega) h)
  have HFL := few_len2 L
  have HFM : Hid (∀ n ∈ fewL L, n.parts.length ≤ 300) := Lib.hid (fun n hn => few_mem2 hn)
  clear h
  go_enter Try.func6, Try.ntmps6
  go_wp2_with fail
  with_reducible refine PF.out.mono ?_
  rintro e w1 ⟨⟨v1, rfl, hv1⟩, b1⟩
  have B1 := Lib.hid b1
  clear b1 PF
  generalize fewL L = M at *
  obtain ⟨a1, c1, rfl, hlc1, hcc1, hz1, hr1⟩ := hv1.row
  have PS := sorted_any a1 c1 M w1 (by omega) hr1
  clear hv1 hr1
  go_wp2_with fail
  with_reducible refine PS.mono ?_
  clear PS
  rintro e w2 ⟨⟨v2, rfl, S, hSl, hord, hv2⟩, b2⟩
  have B2 := Lib.hid (B1.out.trans (b2.mono B1.out.size))
  have HW := Lib.hid hv2.wf
  have HCH : Hid (checkL S = 0) := Lib.hid (hord.okL (by omega))
  have HS3 : Hid (∀ n ∈ S, n.Shape ∧ n.parts.length ≤ 300) := Lib.hid (fun n hn => ⟨shape_of_check (hord.1 n hn).2 (HW.out n hn), HFM.out n (hord.1 n hn).1⟩)
  have HWT : Hid (weight S ≤ 20000) := Lib.hid (by have := weight_le2 S (fun n hn => (HS3.out n hn).2); omega)
  have HP32 : Hid (∀ n ∈ S, n.parts.length * 32 ≤ 140737488355328) := Lib.hid (fun n hn => by have := (HS3.out n hn).2; omega)
  have HSL : S.length ≤ 60 := by omega
  obtain ⟨a2, c2, rfl, hlc2, hcc2, hz2, hr2⟩ := hv2.row
  have R2 := Lib.hid hr2
  clear hv2 hr2 b2 B1 hord
  have PT := Lib.hid (to_any a2 c2 S w2 (by omega) HP32.out R2.out)
  go_wp2_with fail
  with_reducible refine PT.out.mono ?_
  clear PT
  rintro e w3 ⟨⟨v3, rfl, hv3⟩, b3⟩
  have B3 := Lib.hid (B2.out.trans (b3.mono B2.out.size))
  have R3 := Lib.hid (R2.out.below b3 (Nat.le_refl _))
  obtain ⟨a3, c3, rfl, hlc3, hcc3, hz3, hr3⟩ := hv3.row
  have PE := encode_any a3 c3 S w3 (by omega) HWT.out hr3
  clear hv3 hr3 b3 B2 R2
  go_wp2_with fail
  with_reducible refine PE.mono ?_
  clear PE
  rintro e w4 ⟨he, b4⟩
  obtain ⟨-, v4, rfl, hrow⟩ := he.resolve_right (fun h => h.1 HCH.out)
  clear he
  have HDI : Hid (DecIs (encBytes S) S) := Lib.hid ⟨HCH.out, HW.out, rfl⟩
  have HEL := enc_len HS3.out HSL
  generalize hE : encBytes S = E at *
  have B4 := Lib.hid (B3.out.trans (b4.mono B3.out.size))
  have R4 := Lib.hid (R3.out.below b4 (Nat.le_refl _))
  obtain ⟨va, vc, rfl, hv1, hv2, hv3, hv4, hv5⟩ := rowIs.form2 hrow
  have E4 := Lib.hid hv3
  clear hE b4 hrow B3 R3 hv3 hv5
  have PNO := nodes_any w4
  go_wp2_with fail
  with_reducible refine PNO.mono ?_
  clear PNO
  rintro e w5 ⟨rfl, b5⟩
  have B5 := Lib.hid (B4.out.trans (b5.mono B4.out.size))
  have R5 := Lib.hid (R4.out.below b5 (Nat.le_refl _))
  have E5 := Lib.hid (E4.out.below b5 (Nat.le_refl _))
  clear b5 B4 R4 E4
  have PD := decode_any va vc E w5 hv1 hv2 hv4 E5.out (by omega)
  go_wp2_with fail
  with_reducible refine PD.mono ?_
  clear PD
  rintro e w6 ⟨he, b6⟩
  obtain ⟨v6, Q, rfl, hdq, hA⟩ := he.resolve_right (fun h => h.2 S HDI.out)
  have hQS : Q.map Prod.fst = S := hdq.det HDI.out
  obtain ⟨a6, c6, rfl, hlc6, hcc6, hz6, hr6⟩ := hA.slice
  have hQl : Q.length = S.length := by rw [← hQS, List.length_map]
  rw [hQS] at hr6
  rw [hQl] at hlc6 ⊢
  have B6 := Lib.hid (B5.out.trans (b6.mono B5.out.size))
  have R6 := Lib.hid (R5.out.below b6 (Nat.le_refl _))
  have E6 := Lib.hid (E5.out.below b6 (Nat.le_refl _))
  clear he hdq hA hQS hQl Q b6 B5 R5 E5
  have PFR := from_any a6 c6 S w6 (by omega) hr6
  clear hr6
  go_wp2_with fail
  with_reducible refine PFR.mono ?_
  clear PFR
  rintro e w7 ⟨⟨v7, rfl, hv7⟩, b7⟩
  obtain ⟨a7, c7, rfl, hlc7, hcc7, hz7, hr7⟩ := hv7.row
  have B7 := Lib.hid (B6.out.trans (b7.mono B6.out.size))
  have R7 := Lib.hid (R6.out.below b7 (Nat.le_refl _))
  have E7 := Lib.hid (E6.out.below b7 (Nat.le_refl _))
  have PSA := same_any a7 a2 c7 c2 S w7 (by omega) hr7 R7.out
  clear hv7 hr7 b7 B6 R6 E6
  go_wp2_with fail
  with_reducible refine PSA.mono ?_
  clear PSA
  rintro e w8 ⟨rfl, b8⟩
  have B8 := Lib.hid (B7.out.trans (b8.mono B7.out.size))
  have E8 := Lib.hid (E7.out.below b8 (Nat.le_refl _))
  clear b8 B7 R7 E7
  obtain ⟨k, hk, hke⟩ := cut_at cut E.length HEL.1 HEL.2
  obtain ⟨y, hy⟩ := cut_byte cut
  have hE0 : (E.length : Int) ≠ 0 := by omega
  have r1 : ∀ w, (Instr.slice 40 (.slice va E.length vc) none (some (.int .i64 (k : Int))) none).run Try.prog w = .ok (.slice va k vc) w := fun w => by
    have hu : Try.prog.underlying 40 = some (.slice (Try.prog.elem 40)) := by kernel_rfl
    rw [run_slice_h w 40 _ _ _ hu .i64 (k : Int) (by omega) (by omega), sz22]
    show Result.ok (sliced _ 0 (k : Int).toNat _ 1) w = _
    rw [Int.toNat_natCast]
    unfold sliced
    have hm : va.map (fun x => x.add 0) = va := by cases va <;> simp [Addr.add]
    simp [hm]
  have HK := Lib.hid hk
  have HNO : Hid (∀ S', ¬ DecIs (E.take k) S') := Lib.hid (fun S' h => by
    have := enc_prefix HDI.out h (R := E.drop k) (List.take_append_drop k E).symm
    have h2 := congrArg List.length this
    rw [List.length_drop] at h2
    simp at h2
    omega)
  have htk : (E.take k).length = k := by rw [List.length_take]; omega
  have PD := decode_any va vc (E.take k) w8 (by omega) hv2 hv4 (E8.out.take k) (by omega)
  rw [htk] at PD
  clear htk hk
  go_wp2_with fail
  with_reducible refine PD.mono ?_
  clear PD r1
  rintro e w9 ⟨he, b9⟩
  obtain ⟨rfl, -⟩ := he.resolve_left (fun ⟨_, Q, _, h, _⟩ => HNO.out _ h)
  have B9 := Lib.hid (B8.out.trans (b9.mono B8.out.size))
  have E9 := Lib.hid (E8.out.below b9 (Nat.le_refl _))
  clear he b9 B8 E8 HNO
  have A9 := alloc_below w9 (.cells #[] 5 (0, 0))
  have HR0 := Lib.hid (rowIs.empty w9 w9.heap.size (Nat.le_refl _))
  have E10 := Lib.hid (E9.out.below A9 (Nat.le_refl _))
  have B10 := Lib.hid (B9.out.trans (A9.mono B9.out.size))
  have HS10 := Lib.hid A9.size
  clear A9
  go_wp2_with (refine append_bytes rfl _ _ rfl w9.heap.size _ [] rfl HR0.out va E.length vc E rfl rfl hv4 E10.out (by simp; omega) HS10.out ?_)
  intro v11 w11 r11 g11
  have R11 := Lib.hid r11
  have b11 := HR0.out.grew HS10.out g11
  have B11 := Lib.hid (B10.out.trans (b11.mono B9.out.size))
  have HS11 := Lib.hid (Nat.le_trans HS10.out b11.size)
  clear r11 g11 b11 HR0 B10 E10 HS10
  generalize hs9 : w9.heap.size = s9 at *
  have HS9 := Lib.hid hs9
  clear hs9
  have A12 := alloc_below w11 (.cells #[.int .u8 (V y)] 5 (0, 0))
  have HR1 := rowIs.lit w11 w11.heap.size [y] #[.int .u8 (V y)] rfl 1 rfl (Nat.le_refl _) (by simp)
  have HI1 : Hid (bytesIn (w11.alloc (.cells #[.int .u8 (V y)] 5)) (some ⟨w11.heap.size, 0, none⟩) [y]) := Lib.hid (by
    obtain ⟨a', c', hv, _, h2, _⟩ := rowIs.bytes HR1
    cases hv
    exact h2)
  have R12 := Lib.hid (row_below R11.out A12)
  have B12 := Lib.hid (B11.out.trans (A12.mono B11.out.size))
  have HS12 := Lib.hid (Nat.le_trans HS11.out A12.size)
  clear A12 HR1
  go_wp2_with (refine append_bytes rfl _ _ rfl s9 _ E rfl R12.out (some ⟨w11.heap.size, 0, none⟩) 1 1 [y] rfl rfl (fun h => by cases h) HI1.out (by simp; omega) HS12.out ?_)
  intro v13 w13 r13 g13
  obtain ⟨za, zc, rfl, z1, z2, z3, z4, z5⟩ := rowIs.form2 r13
  have b13 := rowIs.grew R12.out HS12.out g13
  have B13 := Lib.hid (B12.out.trans (b13.mono (by have := B9.out.size; have := HS9.out; omega)))
  have PD := decode_any za zc (E ++ [y]) w13 z1 z2 z4 z3 (by simp; omega)
  have HNO : Hid (∀ S', ¬ DecIs (E ++ [y]) S') := Lib.hid (fun S' h => by
    have := enc_prefix h HDI.out (R := [y]) rfl
    cases this)
  clear r13 g13 b13 z3 z5 R12 B12 HS12 HI1
  rw [show (E ++ [y]).length = E.length + 1 from by simp] at PD ⊢
  go_wp2_with fail
  with_reducible refine PD.mono ?_
  clear PD
  rintro e w14 ⟨he, b14⟩
  obtain ⟨rfl, -⟩ := he.resolve_left (fun ⟨_, Q, _, h, _⟩ => HNO.out _ h)
  have B14 := Lib.hid (B13.out.trans (b14.mono B13.out.size))
  clear he b14
  go_wp2_with fail
  go_ret
  exact ⟨rfl, B14.out⟩
end Go.Proofs.Ytjgmhaajcglpmaa
