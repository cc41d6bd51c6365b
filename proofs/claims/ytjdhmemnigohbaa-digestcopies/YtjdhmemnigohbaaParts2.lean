/-
  What the law DigestParts keeps of the copy that it makes.
-/
import Derived.Test.YtjdhmemnigohbaaLong2
import Derived.Test.YtjdhmemnigohbaaStrs0
namespace Go.Proofs.Ytjdhmemnigohbaa
open Go.RowKit
set_option linter.unusedVariables false

/-- The copy c and the text v that was added when it was made, behind k rounds. -/
def CRel (B g : Nat) (L : Nat → List UInt8) (a : Int) (k : Nat) (c v : Value) (w : World) : Prop :=
  (c = .pointer none ∧ v = .string ⟨#[]⟩ ∧ (a < 0 ∨ (k : Int) ≤ a)) ∨
  ∃ cb m, c = .pointer (some ⟨cb, 0, none⟩) ∧ v = .string (str (joinTo L m)) ∧ a = (m : Int) ∧ m < k ∧ B ≤ cb ∧ cb ≠ g ∧ Ready w cb (joinTo L m)
theorem CRel.upon {B g : Nat} {L : Nat → List UInt8} {a : Int} {k : Nat} {c v : Value} {w w' : World} (h : CRel B g L a k c v w) (hu : Upon g w w') : CRel B g L a k c v w' := by
  rcases h with h | ⟨cb, m, h1, h2, h3, h4, h5, h6, h7⟩
  · exact Or.inl h
  · exact Or.inr ⟨cb, m, h1, h2, h3, h4, h5, h6, h7.upon hu h6⟩
theorem CRel.below {B g : Nat} {L : Nat → List UInt8} {a : Int} {k : Nat} {c v : Value} {w w' : World} (h : CRel B g L a k c v w) (hb : Below w.heap.size w w') : CRel B g L a k c v w' := by
  rcases h with h | ⟨cb, m, h1, h2, h3, h4, h5, h6, h7⟩
  · exact Or.inl h
  · exact Or.inr ⟨cb, m, h1, h2, h3, h4, h5, h6, h7.below hb⟩
theorem CRel.next {B g : Nat} {L : Nat → List UInt8} {a : Int} {k : Nat} {c v : Value} {w : World} (h : CRel B g L a k c v w) (hn : ¬ (k : Int) = a) : CRel B g L a (k + 1) c v w := by
  rcases h with ⟨h1, h2, h3⟩ | ⟨cb, m, h1, h2, h3, h4, h5⟩
  · exact Or.inl ⟨h1, h2, by omega⟩
  · exact Or.inr ⟨cb, m, h1, h2, h3, by omega, h5⟩

end Go.Proofs.Ytjdhmemnigohbaa
