/-
  Laws of chapter 8 over contracts of package pad, for all inputs: PadZeros, PadLengths.
-/
import Derived.Test.YtcgodbdakbekjaaDoorPad6
import Derived.Test.YtcgodbdakbekjaaDoorPad7
namespace Go.Proofs.YtcgodbdakbekjaaDoor
open Go.RowKit
set_option linter.unusedVariables false
set_option maxRecDepth 100000
set_option linter.unusedSimpArgs false

theorem padZeros_all (K : PadKeeps) (a0 : ByteArray) (w : World) (hs : a0.size ≤ 9223372036854775807) :
    Calls Tryd.prog 6 #[.string a0] w fun e w' => e = .returned (.bool true) ∧ Below w.heap.size w w' := by
  by_cases h : a0.size ≤ 2046
  · exact padZeros_of K a0 w h
  · have PA : Hid _ := alive8_of K
    have d1 : decide (2046 < (a0.size : Int)) = true := by simp; omega
    go_enter Tryd.func6, Tryd.ntmps6
    go_wp2_with fail
    with_reducible refine (PA.out _).mono ?_
    rintro e w1 ⟨rfl, b⟩
    go_wp2
    go_ret
    exact ⟨rfl, b⟩

set_option maxHeartbeats 400000 in
theorem padLengths_all (K : PadKeeps) (a0 a1 : ByteArray) (a2 a3 : Int) (w : World) (hs0 : a0.size ≤ 9223372036854775807) (hs1 : a1.size ≤ 9223372036854775807) (h0 : 0 ≤ a3) (h1 : a3 < 256) :
    Calls Tryd.prog 3 #[.string a0, .string a1, .int .i64 a2, .int .u8 a3] w fun e w' => e = .returned (.bool true) ∧ Below w.heap.size w w' := by
  obtain ⟨y, rfl⟩ : ∃ y : UInt8, a3 = (y.toNat : Int) := ⟨UInt8.ofNat a3.toNat, by rw [UInt8.toNat_ofNat']; omega⟩
  have PA : Hid _ := alive8_of K
  cases d1 : decide (2046 < (a0.size : Int)) <;> cases d2 : decide (2046 < (a1.size : Int)) <;> cases d3 : (((y.toNat : Nat) : Int) == 0)
  case false.false.false =>
    refine padLengths_of K a0 a1 a2 y w (by simp at d1; omega) (by simp at d2; omega) (fun e => ?_)
    rw [e] at d3
    simp at d3
  all_goals
    go_enter Tryd.func3, Tryd.ntmps3
    go_wp2_with fail
    with_reducible refine (PA.out _).mono ?_
    rintro e w1 ⟨rfl, b⟩
    go_wp2
    go_ret
    exact ⟨rfl, b⟩

end Go.Proofs.YtcgodbdakbekjaaDoor
