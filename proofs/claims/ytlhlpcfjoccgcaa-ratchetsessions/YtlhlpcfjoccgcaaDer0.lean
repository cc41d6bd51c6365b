/-
  HKDF in plain words: the parts, one behind the other, and their first n bytes.
-/
import Derived.Test.YtlhlpcfjoccgcaaMac1
namespace Go.Proofs.Ytlhlpcfjoccgcaa
open Go.RowKit
set_option linter.unusedVariables false
set_option maxRecDepth 100000

/-- The i-th part; the one ahead of the first is nothing. -/
def partL (k info : List UInt8) : Nat → List UInt8
  | 0 => []
  | i + 1 => macL k ((partL k info i ++ info) ++ [UInt8.ofNat (i + 1)])
/-- The first i parts, one behind the other. -/
def partsL (k info : List UInt8) : Nat → List UInt8
  | 0 => []
  | i + 1 => partsL k info i ++ partL k info (i + 1)
def expL (k info : List UInt8) (n : Nat) : List UInt8 := (partsL k info ((n + 31) / 32)).take n
def expS (k info : ByteArray) (n : Nat) : ByteArray := str (expL k.data.toList info.data.toList n)
/-- The key of a salt: none is 32 zeros. -/
def saltL (salt : List UInt8) : List UInt8 := if salt = [] then List.replicate 32 0 else salt
def extL (salt secret : List UInt8) : List UInt8 := macL (saltL salt) secret
def extS (salt secret : ByteArray) : ByteArray := str (extL salt.data.toList secret.data.toList)
def keyS (secret salt info : ByteArray) : ByteArray := expS (extS salt secret) info 32

theorem partL_len (k info : List UInt8) (i : Nat) : (partL k info (i + 1)).length = 32 := macL_len _ _
theorem partL_le (k info : List UInt8) (i : Nat) : (partL k info i).length ≤ 32 := by
  cases i with
  | zero => simp [partL]
  | succ i => rw [partL_len]; exact Nat.le_refl _
theorem partsL_len (k info : List UInt8) (i : Nat) : (partsL k info i).length = 32 * i := by
  induction i with
  | zero => rfl
  | succ i ih => rw [partsL, List.length_append, ih, partL_len]; omega
theorem partsL_more (k info : List UInt8) (i d : Nat) : ∃ l, partsL k info (i + d) = partsL k info i ++ l := by
  induction d with
  | zero => exact ⟨[], by simp⟩
  | succ d ih =>
    obtain ⟨l, h⟩ := ih
    exact ⟨l ++ partL k info (i + d + 1), by rw [← Nat.add_assoc, partsL, h, List.append_assoc]⟩
/-- However many parts there are beyond what is asked, the first n bytes are the same. -/
theorem parts_take (k info : List UInt8) (n i : Nat) (h : n ≤ 32 * i) : (partsL k info i).take n = expL k info n := by
  unfold expL
  obtain ⟨d, rfl⟩ : ∃ d, i = (n + 31) / 32 + d := ⟨i - (n + 31) / 32, by omega⟩
  obtain ⟨l, e⟩ := partsL_more k info ((n + 31) / 32) d
  rw [e, List.take_append_of_le_length (by rw [partsL_len]; omega)]
theorem expL_len (k info : List UInt8) (n : Nat) : (expL k info n).length = n := by
  unfold expL
  rw [List.length_take, partsL_len]; omega
theorem expS_size (k info : ByteArray) (n : Nat) : (expS k info n).size = n := by rw [expS, str_size, expL_len]
/-- More bytes begin with fewer. -/
theorem expL_take (k info : List UInt8) (n m : Nat) (h : n ≤ m) : (expL k info m).take n = expL k info n := by
  unfold expL
  rw [List.take_take, Nat.min_eq_left h]
  exact parts_take k info n _ (by omega)
theorem extL_len (a b : List UInt8) : (extL a b).length = 32 := macL_len _ _
theorem extS_size (a b : ByteArray) : (extS a b).size = 32 := by rw [extS, str_size, extL_len]
theorem keyS_size (a b c : ByteArray) : (keyS a b c).size = 32 := expS_size _ _ _
theorem str_list (l : List UInt8) : (str l).data.toList = l := by simp [str]
theorem putBig1 (i : Nat) (h : i < 256) : putBigS (i : Int) 1 = str [UInt8.ofNat i] := by
  unfold putBigS putBig
  rw [if_pos (by omega)]
  have e : byteOf (i : Int) 0 = UInt8.ofNat i := by
    unfold byteOf
    congr 1
    omega
  simp [e]

end Go.Proofs.Ytlhlpcfjoccgcaa
