/-
  Plain: a number taken round a greater one, below zero too.
-/
import Derived.Test.YtcgodbdakbekjaaDoorOct1
namespace Go.Proofs.YtcgodbdakbekjaaDoor
open Go.RowKit
set_option linter.unusedVariables false
set_option maxRecDepth 100000

theorem mod_back3 (a M : Int) (h0 : 0 < M) (h1 : M ≤ 1000000) : (wrap64 (a.tmod M + M)).tmod M = a % M := by
  have h2 : -M < a.tmod M ∧ a.tmod M < M := ⟨Int.lt_tmod_of_pos a h0, Int.tmod_lt_of_pos a h0⟩
  have h3 : wrap64 (a.tmod M + M) = a.tmod M + M := IntWalk.wrap64_in _ ⟨by omega, by omega⟩
  have h4 := Int.tmod_eq_emod (a := a) (b := M)
  rw [h3, Int.tmod_eq_emod_of_nonneg (by omega), h4]
  split
  · rw [show a % M - ((0 : Nat) : Int) = a % M from by omega, Int.add_emod_right, Int.emod_emod_of_dvd a (Int.dvd_refl M)]
  · rw [show a % M - (M.natAbs : Int) + M = a % M from by omega, Int.emod_emod_of_dvd a (Int.dvd_refl M)]

end Go.Proofs.YtcgodbdakbekjaaDoor
