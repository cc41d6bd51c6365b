/-
  Plain facts on bytes of numbers: both orders are one another's reverse; they go back.
-/
import Derived.Test.YtjemklgfenciaaaOct4
namespace Go.Proofs.Ytjemklgfenciaaa
open Go.RowKit
set_option linter.unusedVariables false
set_option maxRecDepth 100000

theorem str_data (l : List UInt8) : (str l).data.toList = l := by simp [str]
theorem putBig_rev (v n : Int) : putBig v n = (putLittle v n).reverse := by
  unfold putBig putLittle
  split
  · apply List.ext_getElem
    · simp
    · intro i h1 h2
      simp at h1
      simp [List.getElem_reverse]
  · rfl
theorem putLittle_len (v n : Int) (h : 1 ≤ n ∧ n ≤ 8) : (putLittle v n).length = n.toNat := by
  unfold putLittle; rw [if_pos h]; simp
theorem putBig_len (v n : Int) (h : 1 ≤ n ∧ n ≤ 8) : (putBig v n).length = n.toNat := by
  rw [putBig_rev, List.length_reverse, putLittle_len v n h]
theorem putBigS_size (v n : Int) (h : 1 ≤ n ∧ n ≤ 8) : (putBigS v n).size = n.toNat := by
  unfold putBigS; rw [str_size, putBig_len v n h]
theorem putLittleS_size (v n : Int) (h : 1 ≤ n ∧ n ≤ 8) : (putLittleS v n).size = n.toNat := by
  unfold putLittleS; rw [str_size, putLittle_len v n h]
theorem putBigS_le (v n : Int) : (putBigS v n).size ≤ 8 := by
  by_cases h : 1 ≤ n ∧ n ≤ 8
  · rw [putBigS_size v n h]; omega
  · rw [show (putBigS v n).size = 0 from by unfold putBigS putBig; rw [if_neg h]; rfl]; omega
theorem putLittleS_le (v n : Int) : (putLittleS v n).size ≤ 8 := by
  by_cases h : 1 ≤ n ∧ n ≤ 8
  · rw [putLittleS_size v n h]; omega
  · rw [show (putLittleS v n).size = 0 from by unfold putLittleS putLittle; rw [if_neg h]; rfl]; omega
theorem big_little (v n : Int) : bigS (putBigS v n) = littleS (putLittleS v n) := by
  unfold bigS littleS
  have h1 := putBigS_le v n
  have h2 := putLittleS_le v n
  rw [show (putBigS v n).size - 8 = 0 from by omega, List.drop_zero, List.take_of_length_le (by simpa using h2)]
  unfold putBigS putLittleS
  rw [str_data, str_data, putBig_rev]

theorem str_at (l : List UInt8) (k : Nat) (h : k < (str l).size) : (str l)[k] = l[k]'(by rwa [str_size] at h) := by
  show (str l).data[k] = _
  simp [str]

theorem big_little_at (v n : Int) (k : Nat) (h : 1 ≤ n ∧ n ≤ 8) (h1 : k < (putBigS v n).size) (h2 : n.toNat - 1 - k < (putLittleS v n).size) : (putBigS v n)[k] = (putLittleS v n)[n.toNat - 1 - k] := by
  have e1 := putBigS_size v n h
  rw [show (putBigS v n)[k] = (putBig v n)[k]'(by rw [putBig_len v n h]; omega) from str_at _ _ h1, show (putLittleS v n)[n.toNat - 1 - k] = (putLittle v n)[n.toNat - 1 - k]'(by rw [putLittle_len v n h]; omega) from str_at _ _ h2]
  unfold putBig putLittle
  simp [h]

theorem mod_step (v P : Int) (hP : 0 < P) : v % (P * 256) = v / P % 256 * P + v % P := by
  have h1 := Int.mul_ediv_add_emod v P
  have h2 := Int.mul_ediv_add_emod (v / P) 256
  have r0 := Int.emod_nonneg v (Int.ne_of_gt hP)
  have r1 := Int.emod_lt_of_pos v hP
  have q0 : 0 ≤ v / P % 256 := by omega
  have q1 : v / P % 256 ≤ 255 := by omega
  generalize v / P % 256 = c at *
  generalize v / P / 256 = d at *
  generalize v % P = r at *
  have hv : v = (c * P + r) + (P * 256) * d := by
    rw [← h1, ← h2, Int.mul_add, Int.mul_comm P c, Int.mul_assoc P 256 d]
    omega
  rw [hv, Int.add_mul_emod_self_left]
  have hc : c * P ≤ 255 * P := Int.mul_le_mul_of_nonneg_right q1 (Int.le_of_lt hP)
  have hc0 : 0 ≤ c * P := Int.mul_nonneg q0 (Int.le_of_lt hP)
  exact Int.emod_eq_of_lt (by omega) (by omega)

/-- The lowest bytes of a number, the lowest first, make it up again. -/
theorem little_num (v : Int) : ∀ n : Nat, numOf ((List.range n).map (byteOf v)).reverse = v % 256 ^ n := by
  intro n
  induction n with
  | zero => simp [numOf, Int.emod_one]
  | succ n ih =>
    rw [List.range_succ, List.map_append, List.reverse_append, List.map_singleton, List.reverse_singleton, List.singleton_append, numOf_cons, ih, byteOf_val]
    simp only [List.length_reverse, List.length_map, List.length_range]
    have e : (2 : Int) ^ (8 * n) = 256 ^ n := by rw [Int.pow_mul]; rfl
    rw [e, Int.pow_succ]
    exact (mod_step v (256 ^ n) (Int.pow_pos (by decide))).symm

theorem little_back (v : Int) (h0 : 0 ≤ v) (h1 : v < 18446744073709551616) : littleS (putLittleS v 8) = v := by
  unfold littleS
  rw [List.take_of_length_le (by simpa using putLittleS_le v 8)]
  unfold putLittleS
  rw [str_data]
  unfold putLittle
  rw [if_pos (by omega), show (8 : Int).toNat = 8 from rfl, little_num, show (256 : Int) ^ 8 = 18446744073709551616 from by decide]
  omega
theorem big_back (v : Int) (h0 : 0 ≤ v) (h1 : v < 18446744073709551616) : bigS (putBigS v 8) = v := by
  rw [big_little, little_back v h0 h1]

end Go.Proofs.Ytjemklgfenciaaa
