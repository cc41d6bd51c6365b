/-
  The law PadTells over contracts of package pad, for all inputs.
-/
import Derived.Test.YtcgodbdakbekjaaGreatDoorPad4
import Derived.Test.YtcgodbdakbekjaaGreatDoorPad5
namespace Go.Proofs.YtcgodbdakbekjaaGreatDoor
open Go.RowKit
set_option linter.unusedVariables false
set_option maxRecDepth 100000
set_option linter.unusedSimpArgs false

theorem padTells_all (K : PadKeeps) (a0 a1 : ByteArray) (a2 : Int) (w : World) (hs0 : a0.size ≤ 9223372036854775807) (hs1 : a1.size ≤ 9223372036854775807) (h2 : -9223372036854775808 ≤ a2) (h3 : a2 ≤ 9223372036854775807) :
    Calls Tryz.prog 3 #[.string a0, .string a1, .int .i64 a2] w fun e w' => e = .returned (.bool true) ∧ Below w.heap.size w w' := by
  have PA : Hid _ := alive8_of K
  cases d1 : decide (2100 < (a0.size : Int)) <;> cases d2 : decide (2100 < (a1.size : Int))
  case false.false =>
    have g0 : a0.size ≤ 2100 := by simp at d1; omega
    have g1 : a1.size ≤ 2100 := by simp at d2; omega
    exact padTells_of a0 a1 a2 w g0 g1 h2 h3 PA.out K.sizes (fun w => K.size a2 w h2 h3) (fun w => K.pad a0 w (by omega)) (fun w => K.unpad a1 w (by omega))
  all_goals
    go_enter Tryz.func3, Tryz.ntmps3
    go_wp2_with fail
    with_reducible refine (PA.out _).mono ?_
    rintro e w1 ⟨rfl, b⟩
    go_wp2
    go_ret
    exact ⟨rfl, b⟩

end Go.Proofs.YtcgodbdakbekjaaGreatDoor
