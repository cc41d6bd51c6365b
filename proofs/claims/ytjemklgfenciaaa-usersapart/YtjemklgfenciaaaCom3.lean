/-
  The contracts of package command's tests (isOp, isKey, areNumbers, Right), of Class, and of the reference's.
-/
import Derived.Test.YtjemklgfenciaaaCom0
import Derived.Test.YtjemklgfenciaaaMem0
import Derived.Test.YtjemklgfenciaaaBok0
import Derived.Test.YtjemklgfenciaaaStrEq
namespace Go.Proofs.Ytjemklgfenciaaa
open Go.RowKit
set_option linter.unusedVariables false
set_option maxRecDepth 100000
set_option linter.unusedSimpArgs false

theorem str_at10 (s : ByteArray) (n : Nat) (h : n < s.size) : s[n] = s.data.toList.getD n 0 := by
  rw [List.getD_eq_getElem?_getD, List.getElem?_eq_getElem (by simpa using h)]
  rfl
theorem u8_byte (v : Int) : IntKind.u8.wrap v = ((byteOf v 0).toNat : Int) := by
  rw [byteOf_val, IntKind.wrap_u8]
  simp
abbrev IsOp (op : Int) : Prop := 1 ≤ op ∧ op ≤ 13
abbrev NumsOk (num ver : Int) : Prop := (-1000000000000 ≤ num ∧ num ≤ 1000000000000) ∧ (0 ≤ ver ∧ ver ≤ 1000000000000)
theorem ret_bool {a b : Bool} (h : a = b) : Ending.returned (.bool a) = .returned (.bool b) := by rw [h]

theorem keyOk_none {op : Int} {n : Nat} (h : op = 12 ∨ op = 13) : (keyOk op n ∧ n ≤ 60) ↔ n = 0 := by
  unfold keyOk
  rw [if_neg (by omega), if_pos h]
  omega
theorem keyOk_scan {n : Nat} : (keyOk 11 n ∧ n ≤ 60) ↔ (n : Int) ≤ 60 := by
  unfold keyOk
  rw [if_pos rfl]
  simp
  omega
theorem keyOk_other {op : Int} {n : Nat} (h1 : ¬ op = 11) (h : ¬ (op = 12 ∨ op = 13)) : (keyOk op n ∧ n ≤ 60) ↔ (1 ≤ n ∧ n ≤ 60) := by
  unfold keyOk
  rw [if_neg h1, if_neg h]
theorem empty_list : (⟨#[]⟩ : ByteArray).toList.isEmpty = true := by rw [ByteArray.toList_eq]; rfl
theorem str_empty_dec (k : ByteArray) : decide (k = ByteArray.empty) = decide (k.size = 0) := decide_eq_decide.2 ⟨fun h => by rw [h]; rfl, fun h => str_none k h⟩
theorem classN_in (op : Int) (h : IsOp op) : op = 1 ∨ op = 2 ∨ op = 3 ∨ op = 4 ∨ op = 5 ∨ op = 6 ∨ op = 7 ∨ op = 8 ∨ op = 9 ∨ op = 10 ∨ op = 11 ∨ op = 12 ∨ op = 13 := by unfold IsOp at h; omega
theorem classN_out (op : Int) (h : ¬ IsOp op) : classN op = 0 := by
  unfold classN
  unfold IsOp at h
  rw [if_neg (by omega), if_neg (by omega), if_neg (by omega)]
theorem classN_pos (op : Int) : decide (0 < classN op) = decide (IsOp op) := by
  refine decide_eq_decide.2 ?_
  unfold classN IsOp
  split
  · omega
  · split
    · omega
    · split <;> omega

end Go.Proofs.Ytjemklgfenciaaa
