/-
  The contracts of Big and Little, package octet's and the reference's.
-/
import Derived.Test.YtjemklgfenciaaaOct2
namespace Go.Proofs.Ytjemklgfenciaaa
open Go.RowKit
set_option linter.unusedVariables false
set_option maxRecDepth 100000

/-- The number that bytes are, the highest first. -/
def numOf (l : List UInt8) : Int := l.foldl (fun v b => v * 256 + (b.toNat : Int)) 0
def bigS (s : ByteArray) : Int := numOf (s.data.toList.drop (s.size - 8))
def littleS (s : ByteArray) : Int := numOf (s.data.toList.take 8).reverse

theorem numOf_snoc (l : List UInt8) (b : UInt8) : numOf (l ++ [b]) = numOf l * 256 + (b.toNat : Int) := by simp [numOf]
theorem numOf_from (l : List UInt8) : ∀ v : Int, l.foldl (fun v b => v * 256 + (b.toNat : Int)) v = v * 256 ^ l.length + numOf l := by
  induction l with
  | nil => intro v; simp [numOf]
  | cons b l ih =>
    intro v
    have h := ih ((0 : Int) * 256 + (b.toNat : Int))
    simp only [numOf, List.foldl_cons, List.length_cons] at h ⊢
    rw [ih, h, Int.pow_succ, Int.add_mul, Int.add_mul, Int.zero_mul, Int.zero_mul, Int.zero_add, Int.mul_assoc, Int.mul_comm 256, Int.add_assoc]
    rfl
theorem numOf_cons (b : UInt8) (l : List UInt8) : numOf (b :: l) = (b.toNat : Int) * 256 ^ l.length + numOf l := by
  rw [show numOf (b :: l) = l.foldl (fun v b => v * 256 + (b.toNat : Int)) ((0 : Int) * 256 + (b.toNat : Int)) from rfl, numOf_from]
  simp
theorem numOf_append (l m : List UInt8) : numOf (l ++ m) = numOf l * 256 ^ m.length + numOf m := by
  rw [show numOf (l ++ m) = m.foldl (fun v b => v * 256 + (b.toNat : Int)) (numOf l) from by unfold numOf; rw [List.foldl_append], numOf_from]
theorem numOf_bd (l : List UInt8) : 0 ≤ numOf l ∧ numOf l < 256 ^ l.length := by
  induction l with
  | nil => simp [numOf]
  | cons b l ih =>
    rw [numOf_cons, List.length_cons, Int.pow_succ]
    have h1 := b.toNat_lt
    have h2 : (b.toNat : Int) * 256 ^ l.length ≤ 255 * 256 ^ l.length := Int.mul_le_mul_of_nonneg_right (by omega) (Int.pow_nonneg (by decide))
    have h3 : 0 ≤ (b.toNat : Int) * 256 ^ l.length := Int.mul_nonneg (by omega) (Int.pow_nonneg (by decide))
    omega
theorem pow256_le (a b : Nat) (h : a ≤ b) : (256 : Int) ^ a ≤ 256 ^ b := by
  have h2 : (256 : Nat) ^ a ≤ 256 ^ b := Nat.pow_le_pow_right (by decide) h
  have e : ∀ n : Nat, ((256 ^ n : Nat) : Int) = (256 : Int) ^ n := fun n => by rw [Int.natCast_pow]; rfl
  rw [← e, ← e]
  exact Int.ofNat_le.2 h2
theorem numOf_bd7 (l : List UInt8) (h : l.length ≤ 7) : 0 ≤ numOf l ∧ numOf l ≤ 72057594037927935 := by
  have := numOf_bd l
  have h2 : (256 : Int) ^ l.length ≤ 256 ^ 7 := pow256_le _ _ h
  have h3 : (256 : Int) ^ 7 = 72057594037927936 := by decide
  omega
theorem numOf_bd8 (l : List UInt8) (h : l.length ≤ 8) : 0 ≤ numOf l ∧ numOf l < 18446744073709551616 := by
  have := numOf_bd l
  have h2 : (256 : Int) ^ l.length ≤ 256 ^ 8 := pow256_le _ _ h
  have h3 : (256 : Int) ^ 8 = 18446744073709551616 := by decide
  omega
theorem bigS_bd (s : ByteArray) : 0 ≤ bigS s ∧ bigS s < 18446744073709551616 := numOf_bd8 _ (by simp; omega)
theorem littleS_bd (s : ByteArray) : 0 ≤ littleS s ∧ littleS s < 18446744073709551616 := numOf_bd8 _ (by simp; omega)

theorem take_snoc (s : ByteArray) (k : Nat) (h : k < s.size) : s.data.toList.take (k + 1) = s.data.toList.take k ++ [s[k]] := by
  rw [List.take_succ_eq_append_getElem (by simpa using h)]; rfl

theorem or256 (V : Int) (b : UInt8) (h0 : 0 ≤ V) (h1 : V ≤ 72057594037927935) : bits BinOp.or IntKind.u64 (V * 256) (b.toNat : Int) = V * 256 + (b.toNat : Int) := by
  have := b.toNat_lt
  rw [u64_or _ _ (by omega) (by omega) (by omega) (by omega), nat_join 8 _ _ (by omega) (by omega)]
  omega

theorem drop_cons (s : ByteArray) (r : Nat) (h : r < s.size) : s.data.toList.drop r = s[r] :: s.data.toList.drop (r + 1) := by
  rw [List.drop_eq_getElem_cons (by simpa using h)]; rfl

theorem rev_snoc (s : ByteArray) (r : Nat) (h : r < s.size) : numOf (s.data.toList.drop r).reverse = numOf (s.data.toList.drop (r + 1)).reverse * 256 + (s[r].toNat : Int) := by
  rw [drop_cons s r h, List.reverse_cons, numOf_snoc]

end Go.Proofs.Ytjemklgfenciaaa
