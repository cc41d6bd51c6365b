/-
  Plain mathematics of package ratchet: keys that follow keys, epochs, nonces.
-/
import Derived.Test.YtlhlpcfjoccgcaaDer0
import Derived.Test.YtlhlpcfjoccgcaaOct11
import Derived.Test.YtlhlpcfjoccgcaaStrEq
namespace Go.Proofs.Ytlhlpcfjoccgcaa
set_option linter.unusedVariables false
set_option maxRecDepth 100000
set_option linter.unusedSimpArgs false

def upW : ByteArray := ⟨#[117, 112]⟩
def downW : ByteArray := ⟨#[100, 111, 119, 110]⟩
def ratchetW : ByteArray := ⟨#[114, 97, 116, 99, 104, 101, 116]⟩
def nextR (k : ByteArray) : ByteArray := expS k ratchetW 32
def turnR (k : ByteArray) : Nat → ByteArray
  | 0 => k
  | n + 1 => nextR (turnR k n)
def epochR (seq : Int) : Int := if seq < 0 then 0 else seq / 8
def nonceR (seq : Int) : ByteArray := if seq < 0 then ⟨#[]⟩ else str (List.replicate 4 0) ++ putBigS seq 8
theorem nextR_size (k : ByteArray) : (nextR k).size = 32 := expS_size _ _ _
theorem turnR_size (k : ByteArray) : ∀ n, (turnR k (n + 1)).size = 32
  | n => nextR_size _
theorem turnR_le (k : ByteArray) (n m : Nat) (h : k.size ≤ m) (hm : 32 ≤ m) : (turnR k n).size ≤ m := by
  cases n with
  | zero => exact h
  | succ n => rw [turnR_size]; exact hm
theorem turnR_plus (k : ByteArray) (a : Nat) : ∀ b, turnR (turnR k a) b = turnR k (a + b)
  | 0 => rfl
  | b + 1 => by
    show nextR (turnR (turnR k a) b) = nextR (turnR k (a + b))
    rw [turnR_plus k a b]
theorem nonceR_yes {seq : Int} (h : 0 ≤ seq) : nonceR seq = str (List.replicate 4 0) ++ putBigS seq 8 := by unfold nonceR; rw [if_neg (by omega)]
theorem nonceR_no {seq : Int} (h : seq < 0) : nonceR seq = ⟨#[]⟩ := by unfold nonceR; rw [if_pos h]
theorem nonceR_size {seq : Int} (h : 0 ≤ seq) : (nonceR seq).size = 12 := by
  rw [nonceR_yes h, ByteArray.size_append, putBigS_size seq 8 (by decide), str_size]
  rfl
theorem epochR_yes {seq : Int} (h : 0 ≤ seq) : epochR seq = seq / 8 := by unfold epochR; rw [if_neg (by omega)]
theorem epochR_no {seq : Int} (h : seq < 0) : epochR seq = 0 := by unfold epochR; rw [if_pos h]
theorem nonceR_apart {a b : Int} (ha : 0 ≤ a) (hb : 0 ≤ b) (ha1 : a < 18446744073709551616) (hb1 : b < 18446744073709551616) (h : nonceR a = nonceR b) : a = b := by
  rw [nonceR_yes ha, nonceR_yes hb] at h
  have h2 : putBigS a 8 = putBigS b 8 := by
    have e := congrArg (fun s => s.data.toList) h
    simp only [ByteArray.data_append, Array.toList_append] at e
    have e2 := List.append_cancel_left e
    exact ByteArray.ext (Array.toList_inj.1 e2)
  have := congrArg bigS h2
  rwa [big_back a ha ha1, big_back b hb hb1] at this

theorem less_num : ∀ (l m : List UInt8), l.length = m.length → numOf l < numOf m → Go.Op.bytesLess l m = true
  | [], [], _, h => by omega
  | [], _ :: _, h, _ => by simp at h
  | _ :: _, [], h, _ => by simp at h
  | a :: x, b :: y, hl, h => by
    have hl' : x.length = y.length := by simpa using hl
    rw [numOf_cons, numOf_cons, hl'] at h
    have hx := numOf_bd x
    have hy := numOf_bd y
    rw [hl'] at hx
    have hp : (0 : Int) < 256 ^ y.length := Int.pow_pos (by decide)
    show (decide (a < b) || (a == b && Go.Op.bytesLess x y)) = true
    rcases Nat.lt_trichotomy a.toNat b.toNat with hab | hab | hab
    · have : a < b := UInt8.lt_iff_toNat_lt.2 hab
      simp [this]
    · have e : a = b := UInt8.toNat_inj.1 hab
      subst e
      have := less_num x y hl' (by omega)
      simp [this]
    · exfalso
      have h1 : ((b.toNat : Int) + 1) * 256 ^ y.length ≤ (a.toNat : Int) * 256 ^ y.length := Int.mul_le_mul_of_nonneg_right (by omega) (by omega)
      rw [Int.add_mul, Int.one_mul] at h1
      omega
theorem less_front : ∀ (p l m : List UInt8), Go.Op.bytesLess l m = true → Go.Op.bytesLess (p ++ l) (p ++ m) = true
  | [], _, _, h => h
  | a :: p, l, m, h => by
    show (decide (a < a) || (a == a && Go.Op.bytesLess (p ++ l) (p ++ m))) = true
    rw [less_front p l m h]
    simp
theorem data_toList (s : ByteArray) : s.toList = s.data.toList := ByteArray.toList_eq s
theorem nonceR_less {a b : Int} (ha : 0 ≤ a) (hab : a < b) (hb1 : b < 18446744073709551616) : Go.Op.bytesLess (nonceR a).toList (nonceR b).toList = true := by
  rw [data_toList, data_toList, nonceR_yes ha, nonceR_yes (by omega)]
  simp only [ByteArray.data_append, Array.toList_append]
  refine less_front _ _ _ (less_num _ _ ?_ ?_)
  · have h1 := putBigS_size a 8 (by decide)
    have h2 := putBigS_size b 8 (by decide)
    have e : ∀ s : ByteArray, s.data.toList.length = s.size := fun s => by simp
    rw [e, e, h1, h2]
  · have h1 := big_back a ha (by omega)
    have h2 := big_back b (by omega) hb1
    have e : ∀ v : Int, bigS (putBigS v 8) = numOf (putBigS v 8).data.toList := fun v => by
      unfold bigS
      rw [putBigS_size v 8 (by decide)]
      rfl
    rw [e] at h1 h2
    omega

end Go.Proofs.Ytlhlpcfjoccgcaa
