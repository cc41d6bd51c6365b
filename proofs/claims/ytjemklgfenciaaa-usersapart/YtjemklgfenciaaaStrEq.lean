/-
  How two strings are compared.
-/
import Derived.Test.YtjemklgfenciaaaOct7
namespace Go.Proofs.Ytjemklgfenciaaa
open Go.RowKit
set_option linter.unusedVariables false
set_option maxRecDepth 100000

theorem str_beq (a b : ByteArray) : (a.toList == b.toList) = decide (a = b) := by
  rw [ByteArray.toList_eq, ByteArray.toList_eq]
  by_cases h : a = b
  · subst h; simp
  · rw [decide_eq_false h, beq_eq_false_iff_ne]
    intro e
    apply h
    rw [← str_back a, ← str_back b, e]
theorem str_beq_self (a : ByteArray) : (a.toList == a.toList) = true := by rw [str_beq]; exact decide_eq_true rfl
/-- A string compared with no string at all. -/
theorem str_full (a : ByteArray) (h : a ≠ ⟨#[]⟩) : a.toList.isEmpty = false := by
  rw [ByteArray.toList_eq, List.isEmpty_eq_false_iff]
  intro e
  apply h
  rw [← str_back a, e]
  rfl
theorem str_none (a : ByteArray) (h : a.size = 0) : a = ⟨#[]⟩ := by
  rw [← str_back a, show a.data.toList = [] from List.eq_nil_of_length_eq_zero (by simpa using h)]
  rfl

end Go.Proofs.Ytjemklgfenciaaa
