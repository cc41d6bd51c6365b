/-
  Parts of this proof, one behind the other: Oct0, Oct1, Sha0, Sha1, Poly0.
-/
import Derived.WalkKit
import Derived.Test.YtanghehmfagmfaaGreatDoorProg

/-
  Plain mathematics for chapter 1 (octet): rotated words, bytes of numbers, digits. No program is named here.
-/
namespace Go.Proofs.YtanghehmfagmfaaGreatDoor
open Go.RowKit

/-- A word of 32 bits turned to the left by k (k below 32). -/
def rotN (x k : Nat) : Nat := (x <<< k) % 4294967296 ||| x >>> (32 - k)
/-- A word turned to the left by n, n taken modulo 32. -/
def rotl (x n : Int) : Int := (rotN x.toNat (n % 32).toNat : Int)

theorem rotN_lt (x k : Nat) (hx : x < 4294967296) : rotN x k < 4294967296 := by
  unfold rotN
  refine Nat.or_lt_two_pow (n := 32) (Nat.mod_lt _ (by decide)) ?_
  rw [Nat.shiftRight_eq_div_pow]
  exact Nat.lt_of_le_of_lt (Nat.div_le_self _ _) hx

theorem rotl_bd (x n : Int) (h0 : 0 ≤ x) (h1 : x < 4294967296) : 0 ≤ rotl x n ∧ rotl x n < 4294967296 := by
  unfold rotl
  have := rotN_lt x.toNat (n % 32).toNat (by omega)
  omega

theorem rotN_zero (x : Nat) (hx : x < 4294967296) : rotN x 0 = x := by
  unfold rotN
  rw [Nat.shiftRight_eq_div_pow, Nat.div_eq_of_lt (show x < 2 ^ (32 - 0) from hx)]
  simp [Nat.mod_eq_of_lt hx]

theorem rotl_mod (x n m : Int) (h : n % 32 = m % 32) : rotl x n = rotl x m := by
  unfold rotl; rw [h]

theorem rotl_zero (x n : Int) (h0 : 0 ≤ x) (h1 : x < 4294967296) (h : n % 32 = 0) : rotl x n = x := by
  unfold rotl
  rw [h, show (0 : Int).toNat = 0 from rfl, rotN_zero _ (by omega)]
  omega

theorem and31 (n : Int) : bits BinOp.and IntKind.u64 (IntKind.u64.wrap n) 31 = n % 32 := by
  rw [IntKind.wrap_u64, u64_and _ _ (by omega) (by omega) (by omega) (by omega)]
  rw [show (31 : Int).toNat = 31 from rfl, nat_mask5]
  omega

theorem mul_pow_bd (x : Int) (k : Nat) : 0 ≤ x * 2 ^ k % 4294967296 ∧ x * 2 ^ k % 4294967296 < 4294967296 := by omega

theorem shr_bd (x : Int) (k : Nat) (h0 : 0 ≤ x) (h1 : x < 4294967296) : 0 ≤ x / 2 ^ k ∧ x / 2 ^ k < 4294967296 := by
  have hp : (0 : Int) < 2 ^ k := Int.pow_pos (by decide)
  refine ⟨Int.ediv_nonneg h0 (Int.le_of_lt hp), ?_⟩
  have : x / 2 ^ k ≤ x := Int.ediv_le_self _ h0
  omega

/-- What 'x<<k | x>>(32-k)' comes to. -/
theorem or_rotl (x k : Int) (h0 : 0 ≤ x) (h1 : x < 4294967296) (k0 : 0 ≤ k) (k1 : k < 32) :
    bits BinOp.or IntKind.u32 (x * 2 ^ k.toNat % 4294967296) (x / 2 ^ (32 - k).toNat) = rotl x k := by
  have a := mul_pow_bd x k.toNat
  have b := shr_bd x (32 - k).toNat h0 h1
  rw [u32_or _ _ a.1 a.2 b.1 b.2]
  unfold rotl rotN
  obtain ⟨X, rfl⟩ := Int.eq_ofNat_of_zero_le h0
  obtain ⟨K, rfl⟩ := Int.eq_ofNat_of_zero_le k0
  rw [show ((K : Int) % 32).toNat = K from by omega, show ((32 : Int) - (K : Int)).toNat = 32 - K from by omega]
  rw [Nat.shiftLeft_eq, Nat.shiftRight_eq_div_pow]
  simp only [Int.toNat_natCast]
  have e1 : ((X : Int) * 2 ^ K % 4294967296).toNat = X * 2 ^ K % 4294967296 := by
    rw [show ((X : Int) * 2 ^ K % 4294967296) = ((X * 2 ^ K % 4294967296 : Nat) : Int) from by simp, Int.toNat_natCast]
  have e2 : ((X : Int) / 2 ^ (32 - K)).toNat = X / 2 ^ (32 - K) := by
    rw [show ((X : Int) / 2 ^ (32 - K)) = ((X / 2 ^ (32 - K) : Nat) : Int) from by simp, Int.toNat_natCast]
  rw [e1, e2]

/-! Bytes of numbers. -/
def cell8 (b : UInt8) : Value := .int .u8 (b.toNat : Int)
def cells8 (l : List UInt8) : List Value := l.map cell8
def str (l : List UInt8) : ByteArray := ⟨l.toArray⟩
theorem str_size (l : List UInt8) : (str l).size = l.length := by simp [str, ByteArray.size]
theorem str_back (s : ByteArray) : str s.data.toList = s := by simp [str]

def byteOf (v : Int) (i : Nat) : UInt8 := UInt8.ofNat (v / 2 ^ (8 * i) % 256).toNat
theorem byteOf_val (v : Int) (i : Nat) : ((byteOf v i).toNat : Int) = v / 2 ^ (8 * i) % 256 := by
  unfold byteOf
  rw [UInt8.toNat_ofNat']
  omega

/-! Hexadecimal digits. -/
def putLittle (v : Int) (n : Int) : List UInt8 := if 1 ≤ n ∧ n ≤ 8 then (List.range n.toNat).map (byteOf v) else []
def putBig (v : Int) (n : Int) : List UInt8 := if 1 ≤ n ∧ n ≤ 8 then (List.range n.toNat).map (fun j => byteOf v (n.toNat - 1 - j)) else []
def putBigS (v n : Int) : ByteArray := str (putBig v n)
def putLittleS (v n : Int) : ByteArray := str (putLittle v n)

theorem list_eq_map {l : List UInt8} {n : Nat} {f : Nat → UInt8} (hl : l.length = n) (h : ∀ j, j < n → l[j]? = some (f j)) : l = (List.range n).map f := by
  apply List.ext_getElem?
  intro j
  by_cases hj : j < n
  · rw [h j hj]; simp [hj]
  · rw [List.getElem?_eq_none (by omega)]; simp [hj]

end Go.Proofs.YtanghehmfagmfaaGreatDoor

/-
  The contracts of package octet's plain functions: Left, isWidth, byteAt, digit, digitValue; the reference's Left.
-/
namespace Go.Proofs.YtanghehmfagmfaaGreatDoor
open Go.RowKit
set_option linter.unusedVariables false
set_option maxRecDepth 100000

theorem ret_int {k : IntKind} {a b : Int} (h : a = b) : Ending.returned (.int k a) = .returned (.int k b) := by rw [h]

theorem octet_left (x n : Int) (w : World) (h0 : 0 ≤ x) (h1 : x < 4294967296) :
    Calls Tryz.prog 215 #[.int .u32 x, .int .i64 n] w fun e w' => e = .returned (.int .u32 (rotl x n)) ∧ w = w' := by
  have hk := and31 n
  have hm : Hid (rotl x n = rotl x (n % 32)) := rotl_mod x n (n % 32) (by omega)
  have hk0 : 0 ≤ n % 32 := by omega
  have hk1 : n % 32 < 32 := by omega
  generalize n % 32 = k at *
  go_enter Tryz.func215, Tryz.ntmps215
  go_wp2
  go_ret
  exact ⟨ret_int (by rw [or_rotl x k h0 h1 hk0 hk1, hm.out]), rfl⟩

theorem octet_isWidth (n : Int) (w : World) :
    Calls Tryz.prog 87 #[.int .i64 n] w fun e w' => e = .returned (.bool (decide (1 ≤ n ∧ n ≤ 8))) ∧ w = w' := by
  by_cases h : 1 ≤ n <;> by_cases h' : n ≤ 8
  all_goals
    go_enter Tryz.func87, Tryz.ntmps87
    go_wp2
    go_ret
    exact ⟨by simp [h, h'], rfl⟩

theorem octet_byteAt (v : Int) (i : Int) (w : World) (h0 : 0 ≤ v) (h1 : v < 18446744073709551616) (i0 : 0 ≤ i) (i1 : i ≤ 7) :
    Calls Tryz.prog 88 #[.int .u64 v, .int .i64 i] w fun e w' => e = .returned (.int .u8 ((byteOf v i.toNat).toNat : Int)) ∧ w = w' := by
  go_enter Tryz.func88, Tryz.ntmps88
  go_wp2
  go_ret
  exact ⟨ret_int (by rw [byteOf_val, show (8 * i).toNat = 8 * i.toNat from by omega]), rfl⟩

theorem tmod_back (n : Int) : (wrap64 (n.tmod 32 + 32)).tmod 32 = n % 32 := by
  have h1 : -32 < n.tmod 32 ∧ n.tmod 32 < 32 := ⟨Int.lt_tmod_of_pos n (by decide), Int.tmod_lt_of_pos n (by decide)⟩
  have h2 := Int.tmod_eq_emod (a := n) (b := 32)
  have h3 : wrap64 (n.tmod 32 + 32) = n.tmod 32 + 32 := IntWalk.wrap64_in _ ⟨by omega, by omega⟩
  rw [h3, Int.tmod_eq_emod_of_nonneg (by omega), h2]
  split <;> omega

theorem ref_left (x n : Int) (w : World) (h0 : 0 ≤ x) (h1 : x < 4294967296) :
    Calls Tryz.prog 186 #[.int .u32 x, .int .i64 n] w fun e w' => e = .returned (.int .u32 (rotl x n)) ∧ w = w' := by
  have hk := tmod_back n
  have hm : Hid (rotl x n = rotl x (n % 32)) := rotl_mod x n (n % 32) (by omega)
  have hk0 : 0 ≤ n % 32 := by omega
  have hk1 : n % 32 < 32 := by omega
  generalize n % 32 = k at *
  by_cases hz : k = 0
  · subst hz
    go_enter Tryz.func186, Tryz.ntmps186
    go_wp2
    go_ret
    exact ⟨ret_int (by rw [hm.out, rotl_zero x 0 h0 h1 rfl]), rfl⟩
  · have hb : (k == 0) = false := beq_eq_false_iff_ne.2 hz
    go_enter Tryz.func186, Tryz.ntmps186
    go_wp2
    go_ret
    exact ⟨ret_int (by rw [or_rotl x k h0 h1 hk0 hk1, hm.out]), rfl⟩
end Go.Proofs.YtanghehmfagmfaaGreatDoor

/-
  Plain mathematics for chapter 2 (digest): SHA-256 over words and bytes. No program is named here.
-/
namespace Go.Proofs.YtanghehmfagmfaaGreatDoor
open Go.RowKit

def xorI (a b : Int) : Int := ((a.toNat ^^^ b.toNat : Nat) : Int)
def andI (a b : Int) : Int := ((a.toNat &&& b.toNat : Nat) : Int)
def addI (a b : Int) : Int := (a + b) % 4294967296
def W32 (x : Int) : Prop := 0 ≤ x ∧ x < 4294967296

theorem xorI_w {a b : Int} (ha : W32 a) (hb : W32 b) : W32 (xorI a b) := by
  unfold W32 xorI at *
  have : a.toNat ^^^ b.toNat < 2 ^ 32 := Nat.xor_lt_two_pow (by omega) (by omega)
  omega
theorem andI_w {a b : Int} (ha : W32 a) : W32 (andI a b) := by
  unfold W32 andI at *
  have : a.toNat &&& b.toNat ≤ a.toNat := Nat.and_le_left
  omega
theorem addI_w (a b : Int) : W32 (addI a b) := by unfold W32 addI; omega
theorem rotl_w {x : Int} (n : Int) (h : W32 x) : W32 (rotl x n) := rotl_bd x n h.1 h.2
theorem bxor_eq {a b : Int} (ha : W32 a) (hb : W32 b) : bits BinOp.xor IntKind.u32 a b = xorI a b := u32_xor a b ha.1 ha.2 hb.1 hb.2
theorem band_eq {a b : Int} (ha : W32 a) (hb : W32 b) : bits BinOp.and IntKind.u32 a b = andI a b := u32_and a b ha.1 ha.2 hb.1 hb.2
theorem div_w {x : Int} (k : Int) (h : W32 x) (hk : 0 < k) : W32 (x / k) := by
  unfold W32 at *
  refine ⟨Int.ediv_nonneg h.1 (by omega), ?_⟩
  have : x / k ≤ x := Int.ediv_le_self _ h.1
  omega
theorem not_w {x : Int} (h : W32 x) : W32 (4294967295 - x) := by unfold W32 at *; omega
theorem bnot_eq {x : Int} (h : W32 x) : bits BinOp.xor IntKind.u32 4294967295 x = 4294967295 - x := by
  rw [bxor_eq (by unfold W32; omega) h]
  unfold xorI W32 at *
  obtain ⟨n, rfl⟩ := Int.eq_ofNat_of_zero_le h.1
  simp only [Int.toNat_natCast]
  have e : (4294967295 : Int).toNat ^^^ n = 4294967295 - n := by
    rw [show (4294967295 : Int).toNat = 2 ^ 32 - 1 from rfl]
    apply Nat.eq_of_testBit_eq
    intro i
    rw [Nat.testBit_xor, Nat.testBit_two_pow_sub_one, show (4294967295 : Nat) - n = 2 ^ 32 - (n + 1) from by omega, Nat.testBit_two_pow_sub_succ (by omega)]
    by_cases hi : i < 32
    · simp [hi]
    · have : n.testBit i = false := Nat.testBit_lt_two_pow (Nat.lt_of_lt_of_le (show n < 2 ^ 32 from by omega) (Nat.pow_le_pow_right (by decide) (by omega)))
      simp [hi, this]
  rw [e]
  omega

def sg0 (x : Int) : Int := xorI (xorI (rotl x (-7)) (rotl x (-18))) (x / 8)
def sg1 (x : Int) : Int := xorI (xorI (rotl x (-17)) (rotl x (-19))) (x / 1024)
def bs0 (x : Int) : Int := xorI (xorI (rotl x (-2)) (rotl x (-13))) (rotl x (-22))
def bs1 (x : Int) : Int := xorI (xorI (rotl x (-6)) (rotl x (-11))) (rotl x (-25))
def chI (e f g : Int) : Int := xorI (andI e f) (andI (4294967295 - e) g)
def majI (a b c : Int) : Int := xorI (xorI (andI a b) (andI a c)) (andI b c)
/-- Eight words. -/
structure S8 where
  a : Int
  b : Int
  c : Int
  d : Int
  e : Int
  f : Int
  g : Int
  h : Int
def S8.list (s : S8) : List Int := [s.a, s.b, s.c, s.d, s.e, s.f, s.g, s.h]
def S8.ok (s : S8) : Prop := W32 s.a ∧ W32 s.b ∧ W32 s.c ∧ W32 s.d ∧ W32 s.e ∧ W32 s.f ∧ W32 s.g ∧ W32 s.h
def S8.plus (s t : S8) : S8 := ⟨addI s.a t.a, addI s.b t.b, addI s.c t.c, addI s.d t.d, addI s.e t.e, addI s.f t.f, addI s.g t.g, addI s.h t.h⟩
theorem S8.plus_ok (s t : S8) : (s.plus t).ok := ⟨addI_w _ _, addI_w _ _, addI_w _ _, addI_w _ _, addI_w _ _, addI_w _ _, addI_w _ _, addI_w _ _⟩

def t1I (k w : Int) (s : S8) : Int := addI (addI (addI (addI s.h (bs1 s.e)) (chI s.e s.f s.g)) k) w
def t2I (s : S8) : Int := addI (bs0 s.a) (majI s.a s.b s.c)
/-- One round. -/
def rnd (k w : Int) (s : S8) : S8 := ⟨addI (t1I k w s) (t2I s), s.a, s.b, s.c, addI s.d (t1I k w s), s.e, s.f, s.g⟩
theorem rnd_ok {k w : Int} {s : S8} (h : s.ok) : (rnd k w s).ok := by
  obtain ⟨h1, h2, h3, h4, h5, h6, h7, h8⟩ := h
  exact ⟨addI_w _ _, h1, h2, h3, addI_w _ _, h5, h6, h7⟩
/-- The first t rounds. -/
def rnds (ks ws : List Int) : Nat → S8 → S8
  | 0, s => s
  | t + 1, s => rnd (ks.getD t 0) (ws.getD t 0) (rnds ks ws t s)
theorem rnds_ok (ks ws : List Int) (t : Nat) {s : S8} (h : s.ok) : (rnds ks ws t s).ok := by
  induction t with
  | zero => exact h
  | succ t ih => exact rnd_ok ih

/-- The number that bytes are, the highest first. -/
def num4 (l : List UInt8) : Int := l.foldl (fun v b => v * 256 + (b.toNat : Int)) 0
def wNext (blk : List UInt8) (l : List Int) : Int :=
  if l.length < 16 then num4 ((blk.drop (4 * l.length)).take 4)
  else addI (addI (addI (l.getD (l.length - 16) 0) (sg0 (l.getD (l.length - 15) 0))) (l.getD (l.length - 7) 0)) (sg1 (l.getD (l.length - 2) 0))
/-- The first t words of a block's schedule. -/
def wTo (blk : List UInt8) : Nat → List Int
  | 0 => []
  | t + 1 => wTo blk t ++ [wNext blk (wTo blk t)]
theorem wTo_len (blk : List UInt8) (t : Nat) : (wTo blk t).length = t := by
  induction t with
  | zero => rfl
  | succ t ih => simp [wTo, ih]

def kTab : List Int := [
  0x428a2f98, 0x71374491, 0xb5c0fbcf, 0xe9b5dba5, 0x3956c25b, 0x59f111f1, 0x923f82a4, 0xab1c5ed5,
  0xd807aa98, 0x12835b01, 0x243185be, 0x550c7dc3, 0x72be5d74, 0x80deb1fe, 0x9bdc06a7, 0xc19bf174,
  0xe49b69c1, 0xefbe4786, 0x0fc19dc6, 0x240ca1cc, 0x2de92c6f, 0x4a7484aa, 0x5cb0a9dc, 0x76f988da,
  0x983e5152, 0xa831c66d, 0xb00327c8, 0xbf597fc7, 0xc6e00bf3, 0xd5a79147, 0x06ca6351, 0x14292967,
  0x27b70a85, 0x2e1b2138, 0x4d2c6dfc, 0x53380d13, 0x650a7354, 0x766a0abb, 0x81c2c92e, 0x92722c85,
  0xa2bfe8a1, 0xa81a664b, 0xc24b8b70, 0xc76c51a3, 0xd192e819, 0xd6990624, 0xf40e3585, 0x106aa070,
  0x19a4c116, 0x1e376c08, 0x2748774c, 0x34b0bcb5, 0x391c0cb3, 0x4ed8aa4a, 0x5b9cca4f, 0x682e6ff3,
  0x748f82ee, 0x78a5636f, 0x84c87814, 0x8cc70208, 0x90befffa, 0xa4506ceb, 0xbef9a3f7, 0xc67178f2]
def hZero : S8 := ⟨0x6a09e667, 0xbb67ae85, 0x3c6ef372, 0xa54ff53a, 0x510e527f, 0x9b05688c, 0x1f83d9ab, 0x5be0cd19⟩
theorem hZero_ok : hZero.ok := by unfold S8.ok W32 hZero; decide
theorem kTab_len : kTab.length = 64 := rfl
/-- What a block makes of a state. -/
def comp (s : S8) (blk : List UInt8) : S8 := s.plus (rnds kTab (wTo blk 64) 64 s)
theorem comp_ok (s : S8) (blk : List UInt8) : (comp s blk).ok := S8.plus_ok _ _
/-- The state behind the first n blocks. -/
def absorb (bs : List UInt8) : Nat → S8
  | 0 => hZero
  | n + 1 => comp (absorb bs n) ((bs.drop (64 * n)).take 64)
theorem absorb_ok (bs : List UInt8) (n : Nat) : (absorb bs n).ok := by
  cases n with
  | zero => exact hZero_ok
  | succ n => exact comp_ok _ _
theorem absorb_append (bs x : List UInt8) (n : Nat) (h : 64 * n ≤ bs.length) : absorb (bs ++ x) n = absorb bs n := by
  induction n with
  | zero => rfl
  | succ n ih =>
    simp only [absorb]
    rw [ih (by omega), List.drop_append_of_le_length (by omega), List.take_append_of_le_length (by simp; omega)]

def padZ (n : Nat) : Nat := (64 - (n + 9) % 64) % 64
def padL (n : Nat) : List UInt8 := (128 :: List.replicate (padZ n) 0) ++ putBig (8 * (n : Int)) 8
theorem putBig8_len (v : Int) : (putBig v 8).length = 8 := by simp [putBig]
theorem putBig4_len (v : Int) : (putBig v 4).length = 4 := by simp [putBig]
theorem padL_len (n : Nat) : (padL n).length = 9 + padZ n := by simp [padL, putBig8_len]; omega
def told (s : S8) : List UInt8 := (s.list.map fun v => putBig v 4).flatten
theorem told_len (s : S8) : (told s).length = 32 := by simp [told, S8.list, putBig4_len]
def shaL (bs : List UInt8) : List UInt8 := told (absorb (bs ++ padL bs.length) ((bs.length + 9 + padZ bs.length) / 64))
def shaS (b : ByteArray) : ByteArray := str (shaL b.data.toList)
theorem shaL_len (bs : List UInt8) : (shaL bs).length = 32 := told_len _
end Go.Proofs.YtanghehmfagmfaaGreatDoor

/-
  The contracts of package digest's plain functions of words: right, sigma0, sigma1, bigSigma0, bigSigma1.
-/
namespace Go.Proofs.YtanghehmfagmfaaGreatDoor
open Go.RowKit
set_option linter.unusedVariables false
set_option maxRecDepth 100000

theorem dig_right (x n : Int) (w : World) (h : W32 x) (h0 : 0 ≤ n) (h1 : n ≤ 1000) :
    Calls Tryz.prog 258 #[.int .u32 x, .int .i64 n] w fun e w' => e = .returned (.int .u32 (rotl x (-n))) ∧ w = w' := by
  go_enter Tryz.func258, Tryz.ntmps258
  go_wp2_with (first | (go_at_call 215; refine (octet_left _ _ _ h.1 h.2).mono ?_; rintro e w' ⟨rfl, rfl⟩))
  go_ret
  exact ⟨rfl, rfl⟩

theorem dig_sigma0 (x : Int) (w : World) (h : W32 x) :
    Calls Tryz.prog 254 #[.int .u32 x] w fun e w' => e = .returned (.int .u32 (sg0 x)) ∧ w = w' := by
  have h0 := h.1
  have h1 := h.2
  go_enter Tryz.func254, Tryz.ntmps254
  go_wp2_with (first | (go_at_call 258; refine (dig_right _ _ _ h (by decide) (by decide)).mono ?_; rintro e w' ⟨rfl, rfl⟩))
  go_ret
  exact ⟨ret_int (by rw [bxor_eq (rotl_w _ h) (rotl_w _ h), bxor_eq (xorI_w (rotl_w _ h) (rotl_w _ h)) (div_w _ h (by decide))]; rfl), rfl⟩

theorem dig_sigma1 (x : Int) (w : World) (h : W32 x) :
    Calls Tryz.prog 255 #[.int .u32 x] w fun e w' => e = .returned (.int .u32 (sg1 x)) ∧ w = w' := by
  have h0 := h.1
  have h1 := h.2
  go_enter Tryz.func255, Tryz.ntmps255
  go_wp2_with (first | (go_at_call 258; refine (dig_right _ _ _ h (by decide) (by decide)).mono ?_; rintro e w' ⟨rfl, rfl⟩))
  go_ret
  exact ⟨ret_int (by rw [bxor_eq (rotl_w _ h) (rotl_w _ h), bxor_eq (xorI_w (rotl_w _ h) (rotl_w _ h)) (div_w _ h (by decide))]; rfl), rfl⟩

theorem dig_bigSigma0 (x : Int) (w : World) (h : W32 x) :
    Calls Tryz.prog 257 #[.int .u32 x] w fun e w' => e = .returned (.int .u32 (bs0 x)) ∧ w = w' := by
  go_enter Tryz.func257, Tryz.ntmps257
  go_wp2_with (first | (go_at_call 258; refine (dig_right _ _ _ h (by decide) (by decide)).mono ?_; rintro e w' ⟨rfl, rfl⟩))
  go_ret
  exact ⟨ret_int (by rw [bxor_eq (rotl_w _ h) (rotl_w _ h), bxor_eq (xorI_w (rotl_w _ h) (rotl_w _ h)) (rotl_w _ h)]; rfl), rfl⟩

theorem dig_bigSigma1 (x : Int) (w : World) (h : W32 x) :
    Calls Tryz.prog 256 #[.int .u32 x] w fun e w' => e = .returned (.int .u32 (bs1 x)) ∧ w = w' := by
  go_enter Tryz.func256, Tryz.ntmps256
  go_wp2_with (first | (go_at_call 258; refine (dig_right _ _ _ h (by decide) (by decide)).mono ?_; rintro e w' ⟨rfl, rfl⟩))
  go_ret
  exact ⟨ret_int (by rw [bxor_eq (rotl_w _ h) (rotl_w _ h), bxor_eq (xorI_w (rotl_w _ h) (rotl_w _ h)) (rotl_w _ h)]; rfl), rfl⟩

end Go.Proofs.YtanghehmfagmfaaGreatDoor

/-
  Plain mathematics for chapter 6 (onetime): numbers as lists of digits to the base 256, the lowest first; what lies above the 130th bit. No program is named here.
-/
namespace Go.Proofs.YtanghehmfagmfaaGreatDoor
open Go.RowKit
set_option linter.unusedVariables false
set_option maxRecDepth 100000

/-- The number of a list of digits. -/
def valD : List Int → Int
  | [] => 0
  | d :: l => d + 256 * valD l
def allD (l : List Int) : Prop := ∀ d ∈ l, 0 ≤ d ∧ d < 256
theorem allD_nil : allD [] := fun _ h => by cases h
theorem allD_cons {d : Int} {l : List Int} (h : allD (d :: l)) : (0 ≤ d ∧ d < 256) ∧ allD l := ⟨h d (by simp), fun x hx => h x (by simp [hx])⟩
theorem allD_append {a b : List Int} (ha : allD a) (hb : allD b) : allD (a ++ b) := fun d hd => by
  rcases List.mem_append.1 hd with h | h
  · exact ha d h
  · exact hb d h
theorem allD_one {d : Int} (h : 0 ≤ d ∧ d < 256) : allD [d] := fun x hx => by rw [List.mem_singleton] at hx; exact hx ▸ h
theorem valD_append (a b : List Int) : valD (a ++ b) = valD a + 256 ^ a.length * valD b := by
  induction a with
  | nil => simp [valD]
  | cons d a ih =>
    simp only [List.cons_append, valD, ih, List.length_cons, Int.pow_succ]
    rw [Int.mul_add, Int.add_assoc, show (256 : Int) * (256 ^ a.length * valD b) = 256 ^ a.length * 256 * valD b from by rw [← Int.mul_assoc, Int.mul_comm 256]]
theorem valD_nonneg {l : List Int} (h : ∀ d ∈ l, 0 ≤ d) : 0 ≤ valD l := by
  induction l with
  | nil => exact Int.le_refl 0
  | cons d l ih =>
    have h1 := h d (by simp)
    have h2 := ih (fun x hx => h x (by simp [hx]))
    simp only [valD]
    omega
theorem valD_bd {l : List Int} (h : allD l) : 0 ≤ valD l ∧ valD l < 256 ^ l.length := by
  induction l with
  | nil => exact ⟨Int.le_refl 0, by decide⟩
  | cons d l ih =>
    have h1 := allD_cons h
    have h2 := ih h1.2
    simp only [valD, List.length_cons, Int.pow_succ]
    omega
theorem valD_zeros (n : Nat) : valD (List.replicate n 0) = 0 := by
  induction n with
  | zero => rfl
  | succ n ih => simp [List.replicate_succ, valD, ih]
theorem carry_step (out : List Int) (c : Int) : valD (out ++ [c % 256]) + 256 ^ (out.length + 1) * (c / 256) = valD out + 256 ^ out.length * c := by
  rw [valD_append, Int.pow_succ]
  have e : c = c % 256 + 256 * (c / 256) := by omega
  have e2 : valD [c % 256] = c % 256 := by simp [valD]
  rw [e2]
  generalize (256 : Int) ^ out.length = p at *
  rw [Int.mul_assoc, Int.add_assoc, ← Int.mul_add, ← e]
theorem valD_take (x : List Int) (k : Nat) (h : k < x.length) : valD (x.take (k + 1)) = valD (x.take k) + 256 ^ k * x.getD k 0 := by
  rw [List.take_succ_eq_append_getElem h, valD_append, List.length_take, Nat.min_eq_left (by omega), List.getD_eq_getElem?_getD, List.getElem?_eq_getElem h]
  simp [valD]
theorem valD_pad (l : List Int) (n : Nat) : valD (l ++ List.replicate n 0) = valD l := by rw [valD_append, valD_zeros]; simp
/-- What stands behind the digits that a number needs is 0. -/
theorem valD_drop {l : List Int} (h : allD l) (n : Nat) (hn : n ≤ l.length) (hv : valD l < 256 ^ n) : valD (l.take n) = valD l := by
  have e : valD l = valD (l.take n) + 256 ^ n * valD (l.drop n) := by
    have := valD_append (l.take n) (l.drop n)
    rw [List.take_append_drop, List.length_take, Nat.min_eq_left hn] at this
    exact this
  have h1 : allD (l.take n) := fun d hd => h d (List.mem_of_mem_take hd)
  have h2 : allD (l.drop n) := fun d hd => h d (List.mem_of_mem_drop hd)
  have b1 := (valD_bd h1).1
  have b2 := (valD_bd h2).1
  have hp : (0 : Int) < 256 ^ n := Int.pow_pos (by decide)
  have h3 : valD (l.drop n) = 0 := by
    by_cases hz : 0 < valD (l.drop n)
    · exfalso
      have : (256 : Int) ^ n * 1 ≤ 256 ^ n * valD (l.drop n) := Int.mul_le_mul_of_nonneg_left (by omega) (Int.le_of_lt hp)
      omega
    · omega
  rw [e, h3]; simp

/-! What lies above the 130th bit: the digits from place 16 on, a quarter of them. -/
def partsD : List Int → List Int
  | [] => []
  | d :: l => (d / 4 + l.headD 0 % 4 * 64) :: partsD l
theorem partsD_len (l : List Int) : (partsD l).length = l.length := by
  induction l with
  | nil => rfl
  | cons d l ih => simp [partsD, ih]
theorem partsD_val {l : List Int} (h : allD l) : valD l = 4 * valD (partsD l) + l.headD 0 % 4 := by
  induction l with
  | nil => rfl
  | cons d l ih =>
    have h1 := allD_cons h
    have h2 := ih h1.2
    simp only [valD, partsD, List.headD_cons]
    omega
theorem partsD_nonneg {l : List Int} (h : allD l) : ∀ d ∈ partsD l, 0 ≤ d ∧ d < 256 := by
  induction l with
  | nil => intro d hd; cases hd
  | cons x l ih =>
    have h1 := allD_cons h
    intro d hd
    simp only [partsD, List.mem_cons] at hd
    rcases hd with rfl | hd
    · omega
    · exact ih h1.2 d hd
/-- A number below 2^130 and what lies above it. -/
theorem split130 {x : List Int} (h : allD x) (hl : 17 ≤ x.length) : valD x = (valD (x.take 16) + 256 ^ 16 * (x.getD 16 0 % 4)) + 1361129467683753853853498429727072845824 * valD (partsD (x.drop 16)) := by
  have e : valD x = valD (x.take 16) + 256 ^ 16 * valD (x.drop 16) := by
    have := valD_append (x.take 16) (x.drop 16)
    rw [List.take_append_drop, List.length_take, Nat.min_eq_left (by omega)] at this
    exact this
  have h2 : allD (x.drop 16) := fun d hd => h d (List.mem_of_mem_drop hd)
  have e2 := partsD_val h2
  have e3 : (x.drop 16).headD 0 = x.getD 16 0 := by
    rw [List.drop_eq_getElem_cons (by omega), List.headD_cons, List.getD_eq_getElem?_getD, List.getElem?_eq_getElem (by omega)]
    rfl
  rw [e3] at e2
  rw [e, e2]
  have e4 : (256 : Int) ^ 16 = 340282366920938463463374607431768211456 := by decide
  rw [e4]
  omega
theorem low130 {x : List Int} (h : allD x) (hl : 17 ≤ x.length) : 0 ≤ valD (x.take 16) + 256 ^ 16 * (x.getD 16 0 % 4) ∧ valD (x.take 16) + 256 ^ 16 * (x.getD 16 0 % 4) < 1361129467683753853853498429727072845824 := by
  have h1 : allD (x.take 16) := fun d hd => h d (List.mem_of_mem_take hd)
  have b := valD_bd h1
  rw [List.length_take, Nat.min_eq_left (by omega)] at b
  have e4 : (256 : Int) ^ 16 = 340282366920938463463374607431768211456 := by decide
  rw [e4] at *
  omega

/-! The rest by 2^130 - 5. -/
def p130 : Int := 1361129467683753853853498429727072845819
/-- One fold: the same rest, and less, where there is anything above. -/
theorem fold_rest (lo hi : Int) : (lo + 5 * hi) % p130 = (lo + 1361129467683753853853498429727072845824 * hi) % p130 := by
  unfold p130
  omega
/-- The last step: a number below 2^130 is the rest, or 2^130 - 5 more than it. -/
theorem rest_last (v : Int) (h0 : 0 ≤ v) (h1 : v < 1361129467683753853853498429727072845824) : v % p130 = if 1361129467683753853853498429727072845824 ≤ v + 5 then v + 5 - 1361129467683753853853498429727072845824 else v := by
  unfold p130
  split <;> omega

/-- The number of bytes, the lowest first. -/
def leV (l : List UInt8) : Int := valD (l.map fun b => (b.toNat : Int))
theorem leD (l : List UInt8) : allD (l.map fun b => (b.toNat : Int)) := by
  intro d hd
  obtain ⟨b, _, rfl⟩ := List.mem_map.1 hd
  have := b.toNat_lt
  omega
theorem leV_bd (l : List UInt8) : 0 ≤ leV l ∧ leV l < 256 ^ l.length := by
  have := valD_bd (leD l)
  rwa [List.length_map] at this
/-- The accumulator behind the first k groups of 16 bytes (a key's first half r). -/
def accTo (r : Int) (b : List UInt8) : Nat → Int
  | 0 => 0
  | k + 1 => ((accTo r b k + leV (((b.drop (16 * k)).take 16) ++ [1])) * r) % p130
/-- The rest of a product does not hang on which number of that rest is multiplied. -/
theorem rest_mul (a b m r : Int) (h : a % p130 = b % p130) : ((a + m) * r) % p130 = ((b + m) * r) % p130 := by
  rw [Int.mul_emod, Int.add_emod, h, ← Int.add_emod, ← Int.mul_emod]

end Go.Proofs.YtanghehmfagmfaaGreatDoor
