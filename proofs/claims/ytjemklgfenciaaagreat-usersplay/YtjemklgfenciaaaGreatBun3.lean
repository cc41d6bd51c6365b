/-
  Parts of this proof, one behind the other: Oct1.
-/
import Derived.Test.YtjemklgfenciaaaGreatProg
import Derived.Test.YtjemklgfenciaaaGreatBun1
import Derived.WalkKit

/-
  The contracts of package octet's plain functions: Left, isWidth, byteAt, digit, digitValue; the reference's Left.
-/
namespace Go.Proofs.YtjemklgfenciaaaGreat
open Go.RowKit
set_option linter.unusedVariables false
set_option maxRecDepth 100000

theorem ret_int {k : IntKind} {a b : Int} (h : a = b) : Ending.returned (.int k a) = .returned (.int k b) := by rw [h]

theorem ret_ib {k : IntKind} {a b : Int} {c d : Bool} (h : a = b) (h' : c = d) : Ending.returned (.tuple #[.int k a, .bool c]) = .returned (.tuple #[.int k b, .bool d]) := by rw [h, h']

theorem tmod_back (n : Int) : (wrap64 (n.tmod 32 + 32)).tmod 32 = n % 32 := by
  have h1 : -32 < n.tmod 32 ∧ n.tmod 32 < 32 := ⟨Int.lt_tmod_of_pos n (by decide), Int.tmod_lt_of_pos n (by decide)⟩
  have h2 := Int.tmod_eq_emod (a := n) (b := 32)
  have h3 : wrap64 (n.tmod 32 + 32) = n.tmod 32 + 32 := IntWalk.wrap64_in _ ⟨by omega, by omega⟩
  rw [h3, Int.tmod_eq_emod_of_nonneg (by omega), h2]
  split <;> omega

end Go.Proofs.YtjemklgfenciaaaGreat
