/- The sums of the blobs that fill a pack: blocks of noughts, by numbers. -/
import Derived.Test.YtfhlcondnaahiaaDoorTk
import Derived.Test.YtfhlcondnaahiaaDoorGa
import Derived.Test.YtfhlcondnaahiaaDoorPr
import Derived.KernelRfl
namespace Go.Proofs.YtfhlcondnaahiaaDoor
open Go.RowKit Sha

noncomputable def force {α : Type} (n : Nat) (k : Nat → α) : α := Nat.rec (k 0) (fun m _ => k (Nat.succ m)) n
theorem force_eq {α : Type} (n : Nat) (k : Nat → α) : force n k = k n := by cases n <;> rfl
def nror (x n : Nat) : Nat := Nat.lor (Nat.shiftRight x n) (Nat.mod (Nat.shiftLeft x (Nat.sub 32 n)) 4294967296)
def nS0 (x : Nat) : Nat := Nat.xor (Nat.xor (nror x 2) (nror x 13)) (nror x 22)
def nS1 (x : Nat) : Nat := Nat.xor (Nat.xor (nror x 6) (nror x 11)) (nror x 25)
def nch (e f g : Nat) : Nat := Nat.xor (Nat.land e f) (Nat.land (Nat.xor 4294967295 e) g)
def nmaj (a b c : Nat) : Nat := Nat.xor (Nat.xor (Nat.land a b) (Nat.land a c)) (Nat.land b c)
noncomputable def nrounds {α : Type} (ks : List Nat) : Nat → Nat → Nat → Nat → Nat → Nat → Nat → Nat → (Nat → Nat → Nat → Nat → Nat → Nat → Nat → Nat → α) → α :=
  List.rec (motive := fun _ => Nat → Nat → Nat → Nat → Nat → Nat → Nat → Nat → (Nat → Nat → Nat → Nat → Nat → Nat → Nat → Nat → α) → α)
    (fun a b c d e f g h k => k a b c d e f g h)
    (fun kw _ ih a b c d e f g h k =>
      force (Nat.mod (Nat.add kw (Nat.add (Nat.add h (nS1 e)) (nch e f g))) 4294967296) fun t1 =>
      force (Nat.mod (Nat.add t1 (Nat.add (nS0 a) (nmaj a b c))) 4294967296) fun na =>
      force (Nat.mod (Nat.add d t1) 4294967296) fun ne => ih na a b c ne e f g k) ks
def KS : List Nat := [1116352408, 1899447441, 3049323471, 3921009573, 961987163, 1508970993, 2453635748, 2870763221, 3624381080, 310598401, 607225278, 1426881987, 1925078388, 2162078206, 2614888103, 3248222580, 3835390401, 4022224774, 264347078, 604807628, 770255983, 1249150122, 1555081692, 1996064986, 2554220882, 2821834349, 2952996808, 3210313671, 3336571891, 3584528711, 113926993, 338241895, 666307205, 773529912, 1294757372, 1396182291, 1695183700, 1986661051, 2177026350, 2456956037, 2730485921, 2820302411, 3259730800, 3345764771, 3516065817, 3600352804, 4094571909, 275423344, 430227734, 506948616, 659060556, 883997877, 958139571, 1322822218, 1537002063, 1747873779, 1955562222, 2024104815, 2227730452, 2361852424, 2428436474, 2756734187, 3204031479, 3329325298]
noncomputable def blockZ {α : Type} (a b c d e f g h : Nat) (k : Nat → Nat → Nat → Nat → Nat → Nat → Nat → Nat → α) : α :=
  nrounds KS a b c d e f g h fun a' b' c' d' e' f' g' h' =>
    force (Nat.mod (Nat.add a a') 4294967296) fun a => force (Nat.mod (Nat.add b b') 4294967296) fun b => force (Nat.mod (Nat.add c c') 4294967296) fun c => force (Nat.mod (Nat.add d d') 4294967296) fun d =>
    force (Nat.mod (Nat.add e e') 4294967296) fun e => force (Nat.mod (Nat.add f f') 4294967296) fun f => force (Nat.mod (Nat.add g g') 4294967296) fun g => force (Nat.mod (Nat.add h h') 4294967296) fun h => k a b c d e f g h
noncomputable def blocksZ {α : Type} (n : Nat) : Nat → Nat → Nat → Nat → Nat → Nat → Nat → Nat → (Nat → Nat → Nat → Nat → Nat → Nat → Nat → Nat → α) → α :=
  Nat.rec (motive := fun _ => Nat → Nat → Nat → Nat → Nat → Nat → Nat → Nat → (Nat → Nat → Nat → Nat → Nat → Nat → Nat → Nat → α) → α)
    (fun a b c d e f g h k => k a b c d e f g h) (fun _ ih a b c d e f g h k => blockZ a b c d e f g h fun a b c d e f g h => ih a b c d e f g h k) n
def nlist (a b c d e f g h : Nat) : List Nat := [a, b, c, d, e, f, g, h]
def app {α : Type} (r : Reg) (k : Nat → Nat → Nat → Nat → Nat → Nat → Nat → Nat → α) : α := k r.a.toNat r.b.toNat r.c.toNat r.d.toNat r.e.toNat r.f.toNat r.g.toNat r.h.toNat
theorem nror_eq (x : W) (n : Nat) : nror x.toNat n = (ror x n).toNat := by
  unfold nror ror
  rw [BitVec.toNat_or, BitVec.toNat_ushiftRight, BitVec.toNat_shiftLeft]
  rfl
theorem nS0_eq (x : W) : nS0 x.toNat = (Sg0 x).toNat := by
  unfold nS0 Sg0
  rw [nror_eq, nror_eq, nror_eq, BitVec.toNat_xor, BitVec.toNat_xor]
  rfl
theorem nS1_eq (x : W) : nS1 x.toNat = (Sg1 x).toNat := by
  unfold nS1 Sg1
  rw [nror_eq, nror_eq, nror_eq, BitVec.toNat_xor, BitVec.toNat_xor]
  rfl
theorem nch_eq (e f g : W) : nch e.toNat f.toNat g.toNat = (ch e f g).toNat := by
  have h : ~~~e = BitVec.allOnes 32 ^^^ e := by rw [BitVec.xor_comm, BitVec.xor_allOnes]
  unfold nch ch
  rw [h, BitVec.toNat_xor, BitVec.toNat_and, BitVec.toNat_and, BitVec.toNat_xor]
  rfl
theorem nmaj_eq (a b c : W) : nmaj a.toNat b.toNat c.toNat = (maj a b c).toNat := by
  unfold nmaj maj
  rw [BitVec.toNat_xor, BitVec.toNat_xor, BitVec.toNat_and, BitVec.toNat_and, BitVec.toNat_and]
  rfl
theorem nrounds_step {α : Type} (kw : Nat) (ks : List Nat) (a b c d e f g h : Nat) (k : Nat → Nat → Nat → Nat → Nat → Nat → Nat → Nat → α) : nrounds (kw :: ks) a b c d e f g h k =
    force (Nat.mod (Nat.add kw (Nat.add (Nat.add h (nS1 e)) (nch e f g))) 4294967296) fun t1 =>
      force (Nat.mod (Nat.add t1 (Nat.add (nS0 a) (nmaj a b c))) 4294967296) fun na =>
      force (Nat.mod (Nat.add d t1) 4294967296) fun ne => nrounds ks na a b c ne e f g k := rfl
theorem nrounds_cons {α : Type} (kw : W) (ks : List Nat) (r : Reg) (k : Nat → Nat → Nat → Nat → Nat → Nat → Nat → Nat → α) :
    app r (fun a b c d e f g h => nrounds (kw.toNat :: ks) a b c d e f g h k) = app (Sha.step r kw 0) (fun a b c d e f g h => nrounds ks a b c d e f g h k) := by
  have e1 : Nat.mod (Nat.add kw.toNat (Nat.add (Nat.add r.h.toNat (nS1 r.e.toNat)) (nch r.e.toNat r.f.toNat r.g.toNat))) 4294967296 = (t1 r kw 0).toNat := by
    rw [nS1_eq, nch_eq]
    unfold t1
    rw [BitVec.toNat_add, BitVec.toNat_add, BitVec.toNat_add, BitVec.toNat_add]
    show (kw.toNat + (r.h.toNat + (Sg1 r.e).toNat + (ch r.e r.f r.g).toNat)) % 4294967296 = (0 + (((r.h.toNat + (Sg1 r.e).toNat) % 4294967296 + (ch r.e r.f r.g).toNat) % 4294967296 + kw.toNat) % 4294967296) % 4294967296
    omega
  have e2 : Nat.mod (Nat.add (t1 r kw 0).toNat (Nat.add (nS0 r.a.toNat) (nmaj r.a.toNat r.b.toNat r.c.toNat))) 4294967296 = (t1 r kw 0 + t2 r).toNat := by
    rw [nS0_eq, nmaj_eq]
    unfold t2
    rw [BitVec.toNat_add, BitVec.toNat_add]
    show ((t1 r kw 0).toNat + ((Sg0 r.a).toNat + (maj r.a r.b r.c).toNat)) % 4294967296 = ((t1 r kw 0).toNat + ((Sg0 r.a).toNat + (maj r.a r.b r.c).toNat) % 4294967296) % 4294967296
    omega
  have e3 : Nat.mod (Nat.add r.d.toNat (t1 r kw 0).toNat) 4294967296 = (r.d + t1 r kw 0).toNat := by
    rw [BitVec.toNat_add]
    rfl
  unfold app
  dsimp only
  rw [nrounds_step, force_eq, e1, force_eq, e2, force_eq, e3]
  rfl
theorem KS_eq : KS = consts.map BitVec.toNat := by kernel_rfl
theorem nrounds_eq {α : Type} (ws : List W) (hw : ∀ j, ws.getD j 0 = 0) (r : Reg) (k : Nat → Nat → Nat → Nat → Nat → Nat → Nat → Nat → α) : ∀ m j, j + m = 64 →
    app (rounds ws j r) (fun a b c d e f g h => nrounds (KS.drop j) a b c d e f g h k) = app (rounds ws 64 r) k := by
  intro m
  induction m with
  | zero =>
    intro j hj
    obtain rfl : j = 64 := by omega
    have hd : KS.drop 64 = [] := by kernel_rfl
    rw [hd]
    unfold app
    rfl
  | succ m ih =>
    intro j hj
    have hc : consts.length = 64 := by rfl
    have hlt : j < consts.length := by omega
    have hd : KS.drop j = (consts.getD j 0).toNat :: KS.drop (j + 1) := by
      rw [KS_eq, ← List.map_drop, ← List.map_drop, List.drop_eq_getElem_cons hlt, List.map_cons, List.getD_eq_getElem?_getD, List.getElem?_eq_getElem hlt]
      rfl
    rw [hd, nrounds_cons]
    have := ih (j + 1) (by omega)
    rw [show rounds ws (j + 1) r = Sha.step (rounds ws j r) (consts.getD j 0) (ws.getD j 0) from rfl, hw j] at this
    exact this
def Z64 : List UInt8 := List.replicate 64 0
theorem sched_Z : sched Z64 = List.replicate 64 0 := by kernel_rfl
theorem getD_rep (n j : Nat) : (List.replicate n (0 : W)).getD j 0 = 0 := by
  rw [List.getD_eq_getElem?_getD, List.getElem?_replicate]
  split <;> rfl
theorem blockZ_eq {α : Type} (r : Reg) (k : Nat → Nat → Nat → Nat → Nat → Nat → Nat → Nat → α) : app r (fun a b c d e f g h => blockZ a b c d e f g h k) = app (block r Z64) k := by
  have h1 := nrounds_eq (α := α) (sched Z64) (by rw [sched_Z]; exact getD_rep 64) r (fun a' b' c' d' e' f' g' h' =>
    force (Nat.mod (Nat.add r.a.toNat a') 4294967296) fun a => force (Nat.mod (Nat.add r.b.toNat b') 4294967296) fun b => force (Nat.mod (Nat.add r.c.toNat c') 4294967296) fun c => force (Nat.mod (Nat.add r.d.toNat d') 4294967296) fun d =>
    force (Nat.mod (Nat.add r.e.toNat e') 4294967296) fun e => force (Nat.mod (Nat.add r.f.toNat f') 4294967296) fun f => force (Nat.mod (Nat.add r.g.toNat g') 4294967296) fun g => force (Nat.mod (Nat.add r.h.toNat h') 4294967296) fun h => k a b c d e f g h) 64 0 rfl
  rw [List.drop_zero, show rounds (sched Z64) 0 r = r from rfl] at h1
  unfold block
  generalize rounds (sched Z64) 64 r = s at h1 ⊢
  unfold app at h1 ⊢
  dsimp only at h1 ⊢
  unfold blockZ
  rw [h1, force_eq, force_eq, force_eq, force_eq, force_eq, force_eq, force_eq, force_eq]
  unfold Reg.add
  dsimp only
  rw [BitVec.toNat_add, BitVec.toNat_add, BitVec.toNat_add, BitVec.toNat_add, BitVec.toNat_add, BitVec.toNat_add, BitVec.toNat_add, BitVec.toNat_add]
  rfl
def iterF {α : Type} (f : α → α) : Nat → α → α
  | 0, r => r
  | n + 1, r => iterF f n (f r)
theorem iterF_succ {α : Type} (f : α → α) (n : Nat) (r : α) : iterF f (n + 1) r = iterF f n (f r) := rfl
theorem iterF_zero {α : Type} (f : α → α) (r : α) : iterF f 0 r = r := rfl
theorem iterF_add {α : Type} (f : α → α) (a b : Nat) : ∀ r, iterF f (a + b) r = iterF f b (iterF f a r) := by
  induction a with
  | zero => intro r; rw [Nat.zero_add, iterF_zero]
  | succ a ih =>
    intro r
    rw [show a + 1 + b = (a + b) + 1 by omega, iterF_succ, iterF_succ, ih]
def zb (r : Reg) : Reg := block r Z64
theorem zb_eq (r : Reg) : zb r = block r Z64 := rfl
theorem blocksZ_succ {α : Type} (n a b c d e f g h : Nat) (k : Nat → Nat → Nat → Nat → Nat → Nat → Nat → Nat → α) : blocksZ (n + 1) a b c d e f g h k = blockZ a b c d e f g h (fun a b c d e f g h => blocksZ n a b c d e f g h k) := rfl
theorem blocksZ_zero {α : Type} (a b c d e f g h : Nat) (k : Nat → Nat → Nat → Nat → Nat → Nat → Nat → Nat → α) : blocksZ 0 a b c d e f g h k = k a b c d e f g h := rfl
theorem blocksZ_eq0 {α : Type} (k : Nat → Nat → Nat → Nat → Nat → Nat → Nat → Nat → α) : ∀ (n : Nat) (r : Reg), app r (fun a b c d e f g h => blocksZ n a b c d e f g h k) = app (iterF zb n r) k := by
  intro n
  induction n with
  | zero =>
    intro r
    rw [iterF_zero]
    unfold app
    dsimp only
    rw [blocksZ_zero]
  | succ n ih =>
    intro r
    have h1 := blockZ_eq r (fun a b c d e f g h => blocksZ n a b c d e f g h k)
    rw [iterF_succ, ← ih, zb_eq, ← h1]
    unfold app
    dsimp only
    rw [blocksZ_succ]
def regN (r : Reg) : List Nat := app r nlist
theorem blocksZ_eq (n : Nat) (r : Reg) : blocksZ n r.a.toNat r.b.toNat r.c.toNat r.d.toNat r.e.toNat r.f.toNat r.g.toNat r.h.toNat nlist = regN (iterF zb n r) := by
  have h := blocksZ_eq0 nlist n r
  unfold regN
  rw [← h]
  unfold app
  rfl
theorem regN_inj {r s : Reg} (h : regN r = regN s) : r = s := by
  unfold regN app nlist at h
  simp only [List.cons.injEq, and_true] at h
  obtain ⟨h1, h2, h3, h4, h5, h6, h7, h8⟩ := h
  cases r
  cases s
  simp only [Reg.mk.injEq]
  exact ⟨BitVec.eq_of_toNat_eq h1, BitVec.eq_of_toNat_eq h2, BitVec.eq_of_toNat_eq h3, BitVec.eq_of_toNat_eq h4, BitVec.eq_of_toNat_eq h5, BitVec.eq_of_toNat_eq h6, BitVec.eq_of_toNat_eq h7, BitVec.eq_of_toNat_eq h8⟩
theorem regN_eq {r s : Reg} (h : regN r = regN s) : r = s := regN_inj h
/-- Blocks of noughts. -/
theorem blocks_zero (R : List UInt8) : ∀ (n : Nat) (r : Reg), blocks n r (List.replicate (64 * n) 0 ++ R) = iterF zb n r := by
  intro n
  induction n with
  | zero => intro r; rw [iterF_zero, blocks]
  | succ n ih =>
    intro r
    have e : List.replicate (64 * (n + 1)) (0 : UInt8) ++ R = Z64 ++ (List.replicate (64 * n) 0 ++ R) := by
      rw [show 64 * (n + 1) = 64 + 64 * n by omega, ← List.replicate_append_replicate, List.append_assoc]
      rfl
    have hz : Z64.length = 64 := rfl
    have hd : (Z64 ++ (List.replicate (64 * n) 0 ++ R)).drop 64 = List.replicate (64 * n) 0 ++ R := List.drop_left' hz
    have hb : block r (Z64 ++ (List.replicate (64 * n) 0 ++ R)) = block r Z64 := block_congr r _ _ (by rw [List.take_left' hz, List.take_of_length_le (Nat.le_of_eq hz)])
    rw [e, blocks_succ, hd, hb, ih, iterF_succ, zb_eq]
def ipK : List UInt8 := padKey (kN 3 3) 0x36
def opK : List UInt8 := padKey (kN 3 3) 0x5c
theorem short_K : shortKey (kN 3 3) = kN 3 3 := by
  unfold shortKey
  rw [if_neg (by rw [kN_length]; decide)]
theorem ipK_len : ipK.length = 64 := by kernel_rfl
/-- A sum behind the key, a first byte and noughts. -/
theorem inner_of (k : UInt8) (n t : Nat) (R : List UInt8) (l : List UInt8) (rIp0 rK zK : Reg) (hK : block rIp0 (k :: List.replicate 63 0) = rK) (h0 : block init ipK = rIp0) (hz : iterF zb n rK = zK) (hp : pad (ipK ++ l) = ipK ++ ((k :: List.replicate 63 0) ++ (List.replicate (64 * n) 0 ++ R))) (hr : R.length = 64 * t) :
    sha (ipK ++ l) = out (blocks t zK R) := by
  unfold sha
  have h63 : (k :: List.replicate 63 (0 : UInt8)).length = 64 := by rw [List.length_cons, List.length_replicate]
  have hl : (ipK ++ ((k :: List.replicate 63 0) ++ (List.replicate (64 * n) 0 ++ R))).length / 64 = 1 + (1 + (n + t)) := by
    rw [List.length_append, List.length_append, List.length_append, List.length_replicate, ipK_len, h63, hr]
    omega
  rw [hp, hl, blocks_add 1, blocks_one, List.drop_left' (by rw [ipK_len]), block_congr init _ ipK (by rw [List.take_left' ipK_len, List.take_of_length_le (by rw [ipK_len]; exact Nat.le_refl _)]), h0,
    blocks_add 1, blocks_one, List.drop_left' (by rw [h63]), block_congr rIp0 _ (k :: List.replicate 63 0) (by rw [List.take_left' h63, List.take_of_length_le (by rw [h63]; exact Nat.le_refl _)]), hK,
    blocks_add n, blocks_zero, hz, List.drop_left' (by rw [List.length_replicate])]

def rIp : Reg := ⟨4116214638, 724077281, 280273931, 3487888739, 2002342780, 758620169, 3099421559, 1464906175⟩
theorem rIp_eq : block init ipK = rIp := by kernel_rfl
def rK1 : Reg := ⟨664766457, 1635995152, 3016339260, 4216745645, 195191539, 2914302751, 517361238, 797930498⟩
theorem rK1_eq : block rIp (1 :: List.replicate 63 0) = rK1 := by kernel_rfl
def rK2 : Reg := ⟨3153762067, 3942572987, 2473782472, 975426148, 391719930, 3465695576, 749542618, 1171198443⟩
theorem rK2_eq : block rIp (2 :: List.replicate 63 0) = rK2 := by kernel_rfl
def z2 : Reg := ⟨836878892, 2528484140, 368440180, 3190357307, 1180618826, 1705081892, 1933595684, 3366256099⟩
theorem z2_n : blocksZ 2047 3153762067 3942572987 2473782472 975426148 391719930 3465695576 749542618 1171198443 nlist = [836878892, 2528484140, 368440180, 3190357307, 1180618826, 1705081892, 1933595684, 3366256099] := by kernel_rfl
theorem z2_eq : iterF zb 2047 rK2 = z2 := regN_eq (by rw [← blocksZ_eq]; exact z2_n)
def z1a : Reg := ⟨2697625588, 857273614, 327657378, 3046786972, 4094026735, 1197336628, 268242708, 3527540499⟩
theorem z1a_n : blocksZ 2046 664766457 1635995152 3016339260 4216745645 195191539 2914302751 517361238 797930498 nlist = [2697625588, 857273614, 327657378, 3046786972, 4094026735, 1197336628, 268242708, 3527540499] := by kernel_rfl
theorem z1a_eq : iterF zb 2046 rK1 = z1a := regN_eq (by rw [← blocksZ_eq]; exact z1a_n)
def z1b : Reg := ⟨178199987, 2876689203, 2555714123, 3742170954, 3773719069, 1765940353, 1177781641, 1639993159⟩
theorem z1b_eq0 : block z1a Z64 = z1b := by kernel_rfl
theorem z1b_eq : iterF zb 2047 rK1 = z1b := by
  rw [show 2047 = 2046 + 1 from rfl, iterF_add, z1a_eq, iterF_succ, iterF_zero, zb_eq]
  exact z1b_eq0
theorem as2 (I A B T : List UInt8) (k x : UInt8) : (I ++ (k :: ((A ++ B) ++ [x]))) ++ T = I ++ ((k :: A) ++ (B ++ (x :: T))) := by simp
theorem as1 (I A B T : List UInt8) (k : UInt8) : (I ++ (k :: (A ++ B))) ++ T = I ++ ((k :: A) ++ (B ++ T)) := by simp
theorem as3 (I A B D T : List UInt8) (k : UInt8) : (I ++ (k :: (A ++ (B ++ D)))) ++ T = I ++ ((k :: A) ++ (B ++ (D ++ T))) := by simp
theorem hm_of (l D E : List UInt8) (h : sha (ipK ++ l) = D) (h2 : sha (opK ++ D) = E) : hmac (kN 3 3) l = E := by
  unfold hmac
  rw [short_K]
  show sha (opK ++ sha (ipK ++ l)) = E
  rw [h, h2]
theorem rep_split (a b c : Nat) (h : a = b + c) : List.replicate a (0 : UInt8) = List.replicate b 0 ++ List.replicate c 0 := by
  rw [h, List.replicate_append_replicate]
theorem hm2_of (x : UInt8) (D E : List UInt8) (h : out (block z2 (x :: tail 131137)) = D) (h2 : sha (opK ++ D) = E) : hmac (kN 3 3) (2 :: (List.replicate 131071 0 ++ [x])) = E := by
  refine hm_of _ D E ?_ h2
  have hl : (ipK ++ (2 :: (List.replicate 131071 0 ++ [x]))).length = 131137 := by
    rw [List.length_append, List.length_cons, List.length_append, List.length_replicate, ipK_len, List.length_singleton]
  have hp : pad (ipK ++ (2 :: (List.replicate 131071 0 ++ [x]))) = ipK ++ ((2 :: List.replicate 63 0) ++ (List.replicate (64 * 2047) 0 ++ (x :: tail 131137))) := by
    unfold pad
    rw [hl, rep_split 131071 63 (64 * 2047) rfl]
    exact as2 _ _ _ _ _ _
  rw [inner_of 2 2047 1 (x :: tail 131137) _ rIp rK2 z2 rK2_eq rIp_eq z2_eq hp (by kernel_rfl), blocks_one, h]
theorem hm1a_of (D E : List UInt8) (h : out (blocks 2 z1a (List.replicate 63 0 ++ tail 131135)) = D) (h2 : sha (opK ++ D) = E) : hmac (kN 3 3) (1 :: List.replicate 131070 0) = E := by
  refine hm_of _ D E ?_ h2
  have hl : (ipK ++ (1 :: List.replicate 131070 0)).length = 131135 := by
    rw [List.length_append, List.length_cons, List.length_replicate, ipK_len]
  have hp : pad (ipK ++ (1 :: List.replicate 131070 0)) = ipK ++ ((1 :: List.replicate 63 0) ++ (List.replicate (64 * 2046) 0 ++ (List.replicate 63 0 ++ tail 131135))) := by
    unfold pad
    rw [hl, rep_split 131070 63 (64 * 2046 + 63) rfl, rep_split (64 * 2046 + 63) (64 * 2046) 63 rfl]
    exact as3 _ _ _ _ _ _
  rw [inner_of 1 2046 2 (List.replicate 63 0 ++ tail 131135) _ rIp rK1 z1a rK1_eq rIp_eq z1a_eq hp (by kernel_rfl), h]
theorem hm1b_of (D E : List UInt8) (h : out (block z1b (tail 131136)) = D) (h2 : sha (opK ++ D) = E) : hmac (kN 3 3) (1 :: List.replicate 131071 0) = E := by
  refine hm_of _ D E ?_ h2
  have hl : (ipK ++ (1 :: List.replicate 131071 0)).length = 131136 := by
    rw [List.length_append, List.length_cons, List.length_replicate, ipK_len]
  have hp : pad (ipK ++ (1 :: List.replicate 131071 0)) = ipK ++ ((1 :: List.replicate 63 0) ++ (List.replicate (64 * 2047) 0 ++ tail 131136)) := by
    unfold pad
    rw [hl, rep_split 131071 63 (64 * 2047) rfl]
    exact as1 _ _ _ _ _
  rw [inner_of 1 2047 1 (tail 131136) _ rIp rK1 z1b rK1_eq rIp_eq z1b_eq hp (by kernel_rfl), blocks_one, h]
theorem hm1c_of (D E : List UInt8) (h : out (block z1b (0 :: tail 131137)) = D) (h2 : sha (opK ++ D) = E) : hmac (kN 3 3) (1 :: List.replicate 131072 0) = E := by
  refine hm_of _ D E ?_ h2
  have hl : (ipK ++ (1 :: List.replicate 131072 0)).length = 131137 := by
    rw [List.length_append, List.length_cons, List.length_replicate, ipK_len]
  have hp : pad (ipK ++ (1 :: List.replicate 131072 0)) = ipK ++ ((1 :: List.replicate 63 0) ++ (List.replicate (64 * 2047) 0 ++ (0 :: tail 131137))) := by
    unfold pad
    rw [hl, rep_split 131072 63 (64 * 2047 + 1) rfl, rep_split (64 * 2047 + 1) (64 * 2047) 1 rfl]
    exact as3 _ _ _ [0] _ _
  rw [inner_of 1 2047 1 (0 :: tail 131137) _ rIp rK1 z1b rK1_eq rIp_eq z1b_eq hp (by kernel_rfl), blocks_one, h]
theorem in2_1 : out (block z2 (1 :: tail 131137)) = [68, 236, 80, 18, 59, 200, 191, 89, 18, 154, 217, 123, 251, 12, 47, 152, 64, 61, 9, 26, 85, 88, 29, 238, 100, 22, 70, 152, 3, 2, 89, 12] := by kernel_rfl
theorem hm2_1 : hmac (kN 3 3) (2 :: (List.replicate 131071 0 ++ [1])) = [136, 218, 30, 147, 179, 79, 255, 223, 57, 66, 57, 148, 140, 46, 11, 28, 63, 128, 207, 223, 155, 9, 108, 171, 92, 25, 70, 221, 77, 50, 11, 121] := hm2_of 1 _ _ in2_1 (by kernel_rfl)
theorem in2_2 : out (block z2 (2 :: tail 131137)) = [11, 250, 142, 115, 174, 11, 164, 34, 64, 16, 207, 101, 116, 108, 164, 244, 112, 48, 204, 180, 41, 113, 144, 103, 4, 5, 53, 79, 8, 113, 210, 40] := by kernel_rfl
theorem hm2_2 : hmac (kN 3 3) (2 :: (List.replicate 131071 0 ++ [2])) = [75, 47, 129, 85, 68, 159, 72, 45, 147, 177, 113, 104, 30, 51, 28, 46, 219, 62, 3, 24, 255, 31, 122, 241, 252, 247, 14, 64, 148, 211, 200, 57] := hm2_of 2 _ _ in2_2 (by kernel_rfl)
theorem in2_3 : out (block z2 (3 :: tail 131137)) = [77, 105, 108, 147, 174, 130, 254, 26, 84, 196, 161, 144, 93, 185, 116, 124, 245, 0, 54, 8, 112, 232, 121, 223, 234, 13, 237, 115, 63, 151, 185, 113] := by kernel_rfl
theorem hm2_3 : hmac (kN 3 3) (2 :: (List.replicate 131071 0 ++ [3])) = [200, 95, 69, 85, 208, 113, 194, 154, 159, 136, 83, 196, 10, 251, 179, 75, 19, 118, 123, 255, 241, 8, 211, 23, 57, 81, 154, 215, 52, 24, 188, 232] := hm2_of 3 _ _ in2_3 (by kernel_rfl)
theorem in2_4 : out (block z2 (4 :: tail 131137)) = [112, 91, 149, 84, 0, 34, 110, 233, 187, 164, 72, 148, 104, 102, 2, 146, 83, 210, 117, 181, 171, 35, 217, 35, 5, 186, 219, 113, 107, 155, 208, 129] := by kernel_rfl
theorem hm2_4 : hmac (kN 3 3) (2 :: (List.replicate 131071 0 ++ [4])) = [57, 63, 73, 244, 218, 191, 174, 74, 182, 138, 96, 246, 235, 211, 25, 30, 96, 186, 128, 101, 158, 12, 62, 221, 85, 225, 151, 49, 213, 226, 0, 207] := hm2_of 4 _ _ in2_4 (by kernel_rfl)
theorem in2_5 : out (block z2 (5 :: tail 131137)) = [79, 109, 23, 114, 79, 61, 115, 158, 89, 229, 213, 142, 16, 45, 28, 124, 59, 103, 81, 25, 212, 9, 227, 150, 242, 33, 141, 160, 197, 165, 98, 223] := by kernel_rfl
theorem hm2_5 : hmac (kN 3 3) (2 :: (List.replicate 131071 0 ++ [5])) = [28, 237, 159, 19, 227, 10, 81, 48, 189, 114, 93, 233, 160, 212, 183, 186, 32, 27, 155, 101, 7, 55, 169, 240, 209, 36, 60, 171, 220, 47, 123, 120] := hm2_of 5 _ _ in2_5 (by kernel_rfl)
theorem in2_6 : out (block z2 (6 :: tail 131137)) = [96, 178, 148, 145, 106, 57, 172, 202, 46, 6, 39, 204, 41, 136, 237, 172, 106, 50, 237, 174, 52, 53, 107, 25, 206, 7, 114, 65, 136, 172, 222, 180] := by kernel_rfl
theorem hm2_6 : hmac (kN 3 3) (2 :: (List.replicate 131071 0 ++ [6])) = [246, 70, 106, 190, 169, 107, 123, 1, 24, 228, 138, 114, 139, 52, 49, 126, 234, 187, 219, 159, 182, 139, 51, 209, 100, 39, 46, 164, 41, 187, 145, 137] := hm2_of 6 _ _ in2_6 (by kernel_rfl)
theorem in2_7 : out (block z2 (7 :: tail 131137)) = [206, 251, 218, 81, 132, 249, 162, 241, 77, 208, 232, 124, 30, 148, 64, 103, 134, 141, 155, 203, 27, 8, 240, 13, 231, 137, 34, 118, 196, 0, 240, 55] := by kernel_rfl
theorem hm2_7 : hmac (kN 3 3) (2 :: (List.replicate 131071 0 ++ [7])) = [54, 67, 50, 151, 21, 36, 218, 69, 202, 126, 165, 166, 131, 224, 89, 155, 81, 129, 107, 9, 84, 97, 10, 17, 117, 229, 22, 48, 71, 246, 238, 169] := hm2_of 7 _ _ in2_7 (by kernel_rfl)
theorem in2_8 : out (block z2 (8 :: tail 131137)) = [145, 29, 254, 37, 29, 248, 3, 92, 53, 76, 33, 116, 169, 117, 113, 148, 205, 72, 122, 44, 33, 189, 69, 96, 173, 236, 194, 60, 134, 246, 212, 200] := by kernel_rfl
theorem hm2_8 : hmac (kN 3 3) (2 :: (List.replicate 131071 0 ++ [8])) = [128, 190, 166, 107, 246, 44, 146, 100, 233, 172, 174, 122, 50, 175, 24, 130, 63, 51, 182, 67, 238, 208, 223, 245, 165, 233, 157, 52, 138, 240, 31, 147] := hm2_of 8 _ _ in2_8 (by kernel_rfl)
theorem in1_0 : out (blocks 2 z1a (List.replicate 63 0 ++ tail 131135)) = [145, 112, 238, 202, 223, 235, 132, 174, 208, 86, 166, 58, 69, 255, 3, 123, 93, 11, 11, 71, 198, 101, 58, 234, 82, 6, 223, 226, 158, 13, 241, 87] := by kernel_rfl
theorem hm1_0 : hmac (kN 3 3) (1 :: List.replicate 131070 0) = [51, 38, 21, 188, 130, 130, 149, 143, 188, 71, 243, 5, 56, 174, 204, 153, 147, 196, 152, 46, 234, 146, 104, 50, 99, 226, 153, 143, 251, 161, 52, 235] := hm1a_of _ _ in1_0 (by kernel_rfl)
theorem in1_1 : out (block z1b (tail 131136)) = [202, 180, 58, 109, 133, 242, 211, 130, 120, 249, 167, 125, 17, 58, 129, 125, 239, 178, 196, 216, 42, 153, 35, 94, 40, 66, 175, 103, 198, 219, 247, 90] := by kernel_rfl
theorem hm1_1 : hmac (kN 3 3) (1 :: List.replicate 131071 0) = [68, 184, 88, 168, 109, 200, 180, 46, 86, 207, 157, 198, 156, 105, 136, 34, 49, 249, 238, 99, 55, 34, 231, 134, 204, 224, 29, 16, 54, 215, 36, 192] := hm1b_of _ _ in1_1 (by kernel_rfl)
theorem in1_2 : out (block z1b (0 :: tail 131137)) = [251, 27, 171, 159, 237, 175, 101, 157, 145, 121, 160, 165, 30, 187, 93, 1, 116, 25, 175, 62, 160, 184, 88, 171, 101, 24, 60, 144, 34, 220, 230, 253] := by kernel_rfl
theorem hm1_2 : hmac (kN 3 3) (1 :: List.replicate 131072 0) = [112, 62, 163, 43, 130, 219, 201, 188, 58, 16, 248, 91, 231, 107, 51, 165, 223, 255, 53, 195, 100, 221, 238, 98, 94, 180, 16, 90, 47, 15, 245, 128] := hm1c_of _ _ in1_2 (by kernel_rfl)
end Go.Proofs.YtfhlcondnaahiaaDoor
