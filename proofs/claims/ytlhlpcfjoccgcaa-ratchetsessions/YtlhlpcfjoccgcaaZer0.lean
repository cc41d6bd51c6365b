/-
  The contract of the reference's zeros.
-/
import Derived.Test.YtlhlpcfjoccgcaaOct12
namespace Go.Proofs.Ytlhlpcfjoccgcaa
open Go.RowKit
set_option linter.unusedVariables false
set_option maxRecDepth 100000

theorem ref_zeros (n : Nat) (w : World) (hn : n ≤ 140737488355328) :
    Calls Try.prog 24 #[.int .i64 n] w fun e w' => e = .returned (.string (str (List.replicate n 0))) ∧ Below w.heap.size w w' := by
  have hmk := make8 n hn w
  have hcv := conv_new n hn w
  have hz : zeros n = str (List.replicate n 0) := rfl
  rw [hz] at hcv
  go_enter Try.func24, Try.ntmps24
  go_wp2
  go_ret
  exact ⟨rfl, (Below.refl _ _).alloc (Nat.le_refl _) _⟩

end Go.Proofs.Ytlhlpcfjoccgcaa
