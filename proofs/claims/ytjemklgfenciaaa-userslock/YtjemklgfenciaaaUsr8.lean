/-
  The reference's Name, User, Users; the law's Tidy.
-/
import Derived.Test.YtjemklgfenciaaaUsr6
import Derived.Deep.RegionHeld3
import Derived.Deep.MidRow
import Derived.BigQuiet
namespace Go.Proofs.Ytjemklgfenciaaa
open Go.RowKit
set_option linter.unusedVariables false
set_option maxRecDepth 100000
set_option linter.unusedSimpArgs false

def byteOkU (b : UInt8) : Bool := decide (33 ≤ b.toNat ∧ b.toNat ≤ 126)
theorem nameOkU_is (s : ByteArray) : nameOkU s = (decide (1 ≤ s.size ∧ s.size ≤ 20) && s.data.toList.all byteOkU) := rfl
theorem nameOkU_bad (s : ByteArray) (k : Nat) (h : k < s.size) (hb : byteOkU (s[k]'h) = false) : nameOkU s = false := by
  rw [nameOkU_is]
  have : s.data.toList.all byteOkU = false := by
    rw [List.all_eq_false]
    exact ⟨s[k]'h, by rw [Array.mem_toList_iff]; exact Array.getElem_mem _, by rw [hb]; decide⟩
  rw [this, Bool.and_false]
theorem nameOkU_good (s : ByteArray) (h : ∀ k (hk : k < s.size), byteOkU (s[k]'hk) = true) : nameOkU s = decide (1 ≤ s.size ∧ s.size ≤ 20) := by
  rw [nameOkU_is]
  have : s.data.toList.all byteOkU = true := by
    rw [List.all_eq_true]
    intro b hb
    obtain ⟨i, hi, e⟩ := List.getElem_of_mem hb
    have hi2 : i < s.size := by simpa using hi
    have := h i hi2
    rw [← e]
    exact this
  rw [this, Bool.and_true]

end Go.Proofs.Ytjemklgfenciaaa
