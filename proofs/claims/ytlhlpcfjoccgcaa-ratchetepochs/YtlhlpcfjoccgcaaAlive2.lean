/-
  The laws' own first call 'alive' of chapter 2 answers true.
-/
import Derived.Test.YtlhlpcfjoccgcaaSha13
import Derived.Test.YtlhlpcfjoccgcaaOct7
namespace Go.Proofs.Ytlhlpcfjoccgcaa
open Go.RowKit
set_option linter.unusedVariables false
set_option maxRecDepth 100000

set_option maxRecDepth 100000 in
theorem sha_abc : hexS (shaS ⟨#[97, 98, 99]⟩) = ⟨#[98, 97, 55, 56, 49, 54, 98, 102, 56, 102, 48, 49, 99, 102, 101, 97, 52, 49, 52, 49, 52, 48, 100, 101, 53, 100, 97, 101, 50, 50, 50, 51, 98, 48, 48, 51, 54, 49, 97, 51, 57, 54, 49, 55, 55, 97, 57, 99, 98, 52, 49, 48, 102, 102, 54, 49, 102, 50, 48, 48, 49, 53, 97, 100]⟩ := by decide +kernel

theorem zeroCells_eq : Try.zeroCells91 = digZero.toArray := by kernel_rfl
theorem fresh_zero (w : World) : DigAt (w.alloc (.cells Try.zeroCells91 91)) w.heap.size [] := by
  rw [zeroCells_eq]; exact fresh_new w

theorem shaS_str (l : List UInt8) : shaS (str l) = str (shaL l) := by unfold shaS str; rfl
/-- What is owed by a world in which a Digest of the call's own lies. -/
theorem upon_below {b : Nat} {u w w' : World} (h : Below u.heap.size u w) (hu : Upon b w w') (hb : u.heap.size ≤ b) : Below u.heap.size u w' :=
  h.trans (hu.below hb h.size)
theorem bel_chain {w w1 w2 : World} (h1 : Below w.heap.size w w1) (h2 : Below w1.heap.size w1 w2) : Below w.heap.size w w2 := h1.trans (h2.mono h1.size)

end Go.Proofs.Ytlhlpcfjoccgcaa
