/-
  Parts of this proof, one behind the other: Oct0.
-/
import Derived.WalkKit

/-
  Plain mathematics for chapter 1 (octet): rotated words, bytes of numbers, digits. No program is named here.
-/
namespace Go.Proofs.YtjemklgfenciaaaGreat
open Go.RowKit

/-- A word of 32 bits turned to the left by k (k below 32). -/
def rotN (x k : Nat) : Nat := (x <<< k) % 4294967296 ||| x >>> (32 - k)
/-- A word turned to the left by n, n taken modulo 32. -/
def rotl (x n : Int) : Int := (rotN x.toNat (n % 32).toNat : Int)

theorem rotN_lt (x k : Nat) (hx : x < 4294967296) : rotN x k < 4294967296 := by
  unfold rotN
  refine Nat.or_lt_two_pow (n := 32) (Nat.mod_lt _ (by decide)) ?_
  rw [Nat.shiftRight_eq_div_pow]
  exact Nat.lt_of_le_of_lt (Nat.div_le_self _ _) hx

theorem rotl_bd (x n : Int) (h0 : 0 ≤ x) (h1 : x < 4294967296) : 0 ≤ rotl x n ∧ rotl x n < 4294967296 := by
  unfold rotl
  have := rotN_lt x.toNat (n % 32).toNat (by omega)
  omega

theorem rotN_bit (x k i : Nat) (hx : x < 4294967296) (hk : k < 32) : (rotN x k).testBit i = (decide (i < 32) && x.testBit ((i + 32 - k) % 32)) := by
  unfold rotN
  rw [show (4294967296 : Nat) = 2 ^ 32 from rfl, Nat.testBit_or, Nat.testBit_mod_two_pow, Nat.testBit_shiftLeft, Nat.testBit_shiftRight]
  have hbig : ∀ j, 32 ≤ j → x.testBit j = false := fun j hj =>
    Nat.testBit_lt_two_pow (Nat.lt_of_lt_of_le (show x < 2 ^ 32 from hx) (Nat.pow_le_pow_right (n := 2) (by decide) hj))
  by_cases hi : i < 32
  · by_cases hik : k ≤ i
    · rw [hbig (32 - k + i) (by omega)]
      have : (i + 32 - k) % 32 = i - k := by omega
      simp [hi, hik, this]
    · have : (i + 32 - k) % 32 = 32 - k + i := by omega
      simp [hi, hik, this]
  · rw [hbig (32 - k + i) (by omega)]
    simp [hi]

theorem rotN_rotN (x a b : Nat) (hx : x < 4294967296) (ha : a < 32) (hb : b < 32) : rotN (rotN x a) b = rotN x ((a + b) % 32) := by
  apply Nat.eq_of_testBit_eq
  intro i
  rw [rotN_bit _ _ _ (rotN_lt x a hx) hb, rotN_bit _ _ _ hx ha, rotN_bit _ _ _ hx (Nat.mod_lt _ (by decide))]
  have h1 : (i + 32 - b) % 32 < 32 := Nat.mod_lt _ (by decide)
  have h2 : ((i + 32 - b) % 32 + 32 - a) % 32 = (i + 32 - (a + b) % 32) % 32 ∨ ¬ i < 32 := by omega
  by_cases hi : i < 32
  · rcases h2 with h2 | h2
    · simp [h1, h2]
    · exact absurd hi h2
  · simp [hi]

theorem rotN_zero (x : Nat) (hx : x < 4294967296) : rotN x 0 = x := by
  unfold rotN
  rw [Nat.shiftRight_eq_div_pow, Nat.div_eq_of_lt (show x < 2 ^ (32 - 0) from hx)]
  simp [Nat.mod_eq_of_lt hx]

theorem rotl_rotl (x a b : Int) (h0 : 0 ≤ x) (h1 : x < 4294967296) : rotl (rotl x a) b = rotl x (a + b) := by
  unfold rotl
  rw [Int.toNat_natCast, rotN_rotN _ _ _ (by omega) (by omega) (by omega)]
  congr 2
  omega

theorem rotl_mod (x n m : Int) (h : n % 32 = m % 32) : rotl x n = rotl x m := by
  unfold rotl; rw [h]

theorem rotl_zero (x n : Int) (h0 : 0 ≤ x) (h1 : x < 4294967296) (h : n % 32 = 0) : rotl x n = x := by
  unfold rotl
  rw [h, show (0 : Int).toNat = 0 from rfl, rotN_zero _ (by omega)]
  omega

theorem and31 (n : Int) : bits BinOp.and IntKind.u64 (IntKind.u64.wrap n) 31 = n % 32 := by
  rw [IntKind.wrap_u64, u64_and _ _ (by omega) (by omega) (by omega) (by omega)]
  rw [show (31 : Int).toNat = 31 from rfl, nat_mask5]
  omega

theorem mul_pow_bd (x : Int) (k : Nat) : 0 ≤ x * 2 ^ k % 4294967296 ∧ x * 2 ^ k % 4294967296 < 4294967296 := by omega

theorem shr_bd (x : Int) (k : Nat) (h0 : 0 ≤ x) (h1 : x < 4294967296) : 0 ≤ x / 2 ^ k ∧ x / 2 ^ k < 4294967296 := by
  have hp : (0 : Int) < 2 ^ k := Int.pow_pos (by decide)
  refine ⟨Int.ediv_nonneg h0 (Int.le_of_lt hp), ?_⟩
  have : x / 2 ^ k ≤ x := Int.ediv_le_self _ h0
  omega

/-- What 'x<<k | x>>(32-k)' comes to. -/
theorem or_rotl (x k : Int) (h0 : 0 ≤ x) (h1 : x < 4294967296) (k0 : 0 ≤ k) (k1 : k < 32) :
    bits BinOp.or IntKind.u32 (x * 2 ^ k.toNat % 4294967296) (x / 2 ^ (32 - k).toNat) = rotl x k := by
  have a := mul_pow_bd x k.toNat
  have b := shr_bd x (32 - k).toNat h0 h1
  rw [u32_or _ _ a.1 a.2 b.1 b.2]
  unfold rotl rotN
  obtain ⟨X, rfl⟩ := Int.eq_ofNat_of_zero_le h0
  obtain ⟨K, rfl⟩ := Int.eq_ofNat_of_zero_le k0
  rw [show ((K : Int) % 32).toNat = K from by omega, show ((32 : Int) - (K : Int)).toNat = 32 - K from by omega]
  rw [Nat.shiftLeft_eq, Nat.shiftRight_eq_div_pow]
  simp only [Int.toNat_natCast]
  have e1 : ((X : Int) * 2 ^ K % 4294967296).toNat = X * 2 ^ K % 4294967296 := by
    rw [show ((X : Int) * 2 ^ K % 4294967296) = ((X * 2 ^ K % 4294967296 : Nat) : Int) from by simp, Int.toNat_natCast]
  have e2 : ((X : Int) / 2 ^ (32 - K)).toNat = X / 2 ^ (32 - K) := by
    rw [show ((X : Int) / 2 ^ (32 - K)) = ((X / 2 ^ (32 - K) : Nat) : Int) from by simp, Int.toNat_natCast]
  rw [e1, e2]

/-! Bytes of numbers. -/
def cell8 (b : UInt8) : Value := .int .u8 (b.toNat : Int)
def cells8 (l : List UInt8) : List Value := l.map cell8
def str (l : List UInt8) : ByteArray := ⟨l.toArray⟩
theorem str_size (l : List UInt8) : (str l).size = l.length := by simp [str, ByteArray.size]
theorem str_back (s : ByteArray) : str s.data.toList = s := by simp [str]

def byteOf (v : Int) (i : Nat) : UInt8 := UInt8.ofNat (v / 2 ^ (8 * i) % 256).toNat
theorem byteOf_val (v : Int) (i : Nat) : ((byteOf v i).toNat : Int) = v / 2 ^ (8 * i) % 256 := by
  unfold byteOf
  rw [UInt8.toNat_ofNat']
  omega

/-! Hexadecimal digits. -/
def digV (v : Int) : Int := if v < 10 then 48 + v else 87 + v
def unV (c : Int) : Int := if 48 ≤ c ∧ c ≤ 57 then c - 48 else if 97 ≤ c ∧ c ≤ 102 then c - 87 else 0
def isDig (c : Int) : Bool := decide ((48 ≤ c ∧ c ≤ 57) ∨ (97 ≤ c ∧ c ≤ 102))

def putLittle (v : Int) (n : Int) : List UInt8 := if 1 ≤ n ∧ n ≤ 8 then (List.range n.toNat).map (byteOf v) else []
def putBig (v : Int) (n : Int) : List UInt8 := if 1 ≤ n ∧ n ≤ 8 then (List.range n.toNat).map (fun j => byteOf v (n.toNat - 1 - j)) else []
def putBigS (v n : Int) : ByteArray := str (putBig v n)
def putLittleS (v n : Int) : ByteArray := str (putLittle v n)

theorem list_eq_map {l : List UInt8} {n : Nat} {f : Nat → UInt8} (hl : l.length = n) (h : ∀ j, j < n → l[j]? = some (f j)) : l = (List.range n).map f := by
  apply List.ext_getElem?
  intro j
  by_cases hj : j < n
  · rw [h j hj]; simp [hj]
  · rw [List.getElem?_eq_none (by omega)]; simp [hj]

end Go.Proofs.YtjemklgfenciaaaGreat
