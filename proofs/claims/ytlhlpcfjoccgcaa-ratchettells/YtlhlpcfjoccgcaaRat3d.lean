/-
  Laws of chapter 12 over what package ratchet's functions tell: RatchetTells.
-/
import Derived.Test.YtlhlpcfjoccgcaaRat3
import Derived.Test.YtlhlpcfjoccgcaaRat3b
import Derived.Test.YtlhlpcfjoccgcaaRat3c
namespace Go.Proofs.Ytlhlpcfjoccgcaa
open Go.RowKit
set_option linter.unusedVariables false
set_option maxRecDepth 100000
set_option linter.unusedSimpArgs false

set_option maxRecDepth 100000 in
set_option maxHeartbeats 2000000 in
theorem ratchetTells_of (K : RatchetKeeps) (key : ByteArray) (ep sq : Int) (secret salt : ByteArray) (w : World) (hk : key.size ≤ 9223372036854775807) (hp : -9223372036854775808 ≤ ep ∧ ep ≤ 9223372036854775807) (hq : -9223372036854775808 ≤ sq ∧ sq ≤ 9223372036854775807) (h1 : secret.size ≤ 9223372036854775807) (h2 : salt.size ≤ 9223372036854775807) : Calls Try.prog 3 #[.string key, .int .i64 ep, .int .i64 sq, .string secret, .string salt] w fun e w' => e = .returned (.bool true) ∧ Below w.heap.size w w' := by
  have PA : Hid _ := alive12_of K
  by_cases c0 : 100 < (key.size : Int)
  · have d0 : decide (100 < (key.size : Int)) = true := decide_eq_true c0
    go_enter Try.func3, Try.ntmps3
    go_wp2_with fail
    with_reducible refine (PA.out _).mono ?_
    rintro e w1 ⟨rfl, b⟩
    go_wp2
    go_ret
    exact ⟨rfl, b⟩
  have d0 : decide (100 < (key.size : Int)) = false := decide_eq_false c0
  by_cases c1 : 100 < (secret.size : Int)
  · have d1 : decide (100 < (secret.size : Int)) = true := decide_eq_true c1
    go_enter Try.func3, Try.ntmps3
    go_wp2_with fail
    with_reducible refine (PA.out _).mono ?_
    rintro e w1 ⟨rfl, b⟩
    go_wp2
    go_ret
    exact ⟨rfl, b⟩
  have d1 : decide (100 < (secret.size : Int)) = false := decide_eq_false c1
  by_cases c2 : 100 < (salt.size : Int)
  · have d2 : decide (100 < (salt.size : Int)) = true := decide_eq_true c2
    go_enter Try.func3, Try.ntmps3
    go_wp2_with fail
    with_reducible refine (PA.out _).mono ?_
    rintro e w1 ⟨rfl, b⟩
    go_wp2
    go_ret
    exact ⟨rfl, b⟩
  have d2 : decide (100 < (salt.size : Int)) = false := decide_eq_false c2
  by_cases c3 : 12 < ep ∧ ep ≤ 100
  · have d3 : decide (12 < ep) = true := decide_eq_true c3.1
    have d4 : decide (ep ≤ 100) = true := decide_eq_true c3.2
    go_enter Try.func3, Try.ntmps3
    go_wp2_with fail
    with_reducible refine (PA.out _).mono ?_
    rintro e w1 ⟨rfl, b⟩
    go_wp2
    go_ret
    exact ⟨rfl, b⟩
  by_cases hs : 0 ≤ sq
  · by_cases ha : ep < 0
    · exact ratchetTells_00 K key ep sq secret salt w (by omega) (by omega) (by omega) hq ha hs
    by_cases hb : 100 < ep
    · exact ratchetTells_10 K key ep sq secret salt w (by omega) (by omega) (by omega) hq hb hs
    exact ratchetTells_20 K key ep sq secret salt w (by omega) (by omega) (by omega) hq (by omega) (by omega) hs
  · by_cases ha : ep < 0
    · exact ratchetTells_01 K key ep sq secret salt w (by omega) (by omega) (by omega) hq ha (by omega)
    by_cases hb : 100 < ep
    · exact ratchetTells_11 K key ep sq secret salt w (by omega) (by omega) (by omega) hq hb (by omega)
    exact ratchetTells_21 K key ep sq secret salt w (by omega) (by omega) (by omega) hq (by omega) (by omega) (by omega)

end Go.Proofs.Ytlhlpcfjoccgcaa
