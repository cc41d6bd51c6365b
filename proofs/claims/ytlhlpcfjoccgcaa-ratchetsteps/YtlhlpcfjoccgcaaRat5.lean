/-
  Laws of chapter 12 over what package ratchet's functions tell: RatchetSteps.
-/
import Derived.Test.YtlhlpcfjoccgcaaRat2
namespace Go.Proofs.Ytlhlpcfjoccgcaa
open Go.RowKit
set_option linter.unusedVariables false
set_option maxRecDepth 100000
set_option linter.unusedSimpArgs false

set_option maxRecDepth 100000 in
set_option maxHeartbeats 2000000 in
theorem ratchetSteps_of (K : RatchetKeeps) (key : ByteArray) (a c : Int) (w : World) (hk : key.size ≤ 9223372036854775807) (ha : -9223372036854775808 ≤ a ∧ a ≤ 9223372036854775807) (hc : -9223372036854775808 ≤ c ∧ c ≤ 9223372036854775807) : Calls Try.prog 5 #[.string key, .int .i64 a, .int .i64 c] w fun e w' => e = .returned (.bool true) ∧ Below w.heap.size w w' := by
  have PA : Hid _ := alive12_of K
  obtain ⟨S, hS⟩ : ∃ S, IntKind.i64.wrap (a + c) = S := ⟨_, rfl⟩
  by_cases c0 : 100 < (key.size : Int)
  · have d0 : decide (100 < (key.size : Int)) = true := decide_eq_true c0
    go_enter Try.func5, Try.ntmps5
    go_wp2_with fail
    with_reducible refine (PA.out _).mono ?_
    rintro e w1 ⟨rfl, b⟩
    go_wp2
    go_ret
    exact ⟨rfl, b⟩
  have d0 : decide (100 < (key.size : Int)) = false := decide_eq_false c0
  by_cases c1 : a < 0
  · have d1 : decide (a < 0) = true := decide_eq_true c1
    go_enter Try.func5, Try.ntmps5
    go_wp2_with fail
    with_reducible refine (PA.out _).mono ?_
    rintro e w1 ⟨rfl, b⟩
    go_wp2
    go_ret
    exact ⟨rfl, b⟩
  have d1 : decide (a < 0) = false := decide_eq_false c1
  by_cases c2 : c < 0
  · have d2 : decide (c < 0) = true := decide_eq_true c2
    go_enter Try.func5, Try.ntmps5
    go_wp2_with fail
    with_reducible refine (PA.out _).mono ?_
    rintro e w1 ⟨rfl, b⟩
    go_wp2
    go_ret
    exact ⟨rfl, b⟩
  have d2 : decide (c < 0) = false := decide_eq_false c2
  by_cases c3 : 12 < S
  · have d3 : decide (12 < S) = true := decide_eq_true c3
    go_enter Try.func5, Try.ntmps5
    go_wp2_with fail
    with_reducible refine (PA.out _).mono ?_
    rintro e w1 ⟨rfl, b⟩
    go_wp2
    go_ret
    exact ⟨rfl, b⟩
  have d3 : decide (12 < S) = false := decide_eq_false c3
  by_cases c4 : 12 < a
  · have d4 : decide (12 < a) = true := decide_eq_true c4
    go_enter Try.func5, Try.ntmps5
    go_wp2_with fail
    with_reducible refine (PA.out _).mono ?_
    rintro e w1 ⟨rfl, b⟩
    go_wp2
    go_ret
    exact ⟨rfl, b⟩
  have d4 : decide (12 < a) = false := decide_eq_false c4
  by_cases c5 : 12 < c
  · have d5 : decide (12 < c) = true := decide_eq_true c5
    go_enter Try.func5, Try.ntmps5
    go_wp2_with fail
    with_reducible refine (PA.out _).mono ?_
    rintro e w1 ⟨rfl, b⟩
    go_wp2
    go_ret
    exact ⟨rfl, b⟩
  have d5 : decide (12 < c) = false := decide_eq_false c5
  obtain ⟨A, rfl⟩ : ∃ A : Nat, a = (A : Int) := ⟨a.toNat, by omega⟩
  obtain ⟨C, rfl⟩ : ∃ C : Nat, c = (C : Int) := ⟨c.toNat, by omega⟩
  have w1 : IntKind.i64.wrap ((A : Int) + (C : Int)) = ((A + C : Nat) : Int) := by rw [IntKind.wrap_i64]; omega
  have hS2 : S = ((A + C : Nat) : Int) := by rw [← hS]; exact w1
  have hAC : A + C ≤ 12 := by omega
  clear w1
  have hks : key.size ≤ 100 := by omega
  have P1 : Hid _ := fun w => K.at_ key A w (by omega) (by omega)
  have P2 : Hid _ := fun w => K.at_ (turnR key A) C w (turnR_le key A _ (by omega) (by decide)) (by omega)
  have P3 : Hid _ := fun w => K.at_ key (A + C) w (by omega) (by omega)
  rw [turnR_plus] at P2
  rw [← hS2] at P3
  have hz : A + C = 0 ∨ 0 < A + C ∧ (turnR key (A + C)).size = 32 := by
    by_cases h : A + C = 0
    · exact Or.inl h
    · refine Or.inr ⟨by omega, ?_⟩
      obtain ⟨m, hm⟩ : ∃ m, A + C = m + 1 := ⟨A + C - 1, by omega⟩
      rw [hm]
      exact turnR_size key m
  have w1 := hS
  generalize turnR key A = X at *
  generalize turnR key (A + C) = Z at *
  have e1 := str_beq_self Z
  go_enter Try.func5, Try.ntmps5
  rcases hz with hz | ⟨hz, hs⟩
  · have t1 : (S == 0) = true := by rw [hS2, hz]; rfl
    clear hz hS2 hAC
    go_wp2_with fail
    with_reducible refine (PA.out _).mono ?_
    rintro e w1 ⟨rfl, b1⟩
    go_wp2_with fail
    with_reducible refine (P1.out _).mono ?_
    rintro e x8 ⟨rfl, b2⟩
    replace b1 := bel12 b1 b2
    clear b2
    go_wp2_with fail
    with_reducible refine (P2.out _).mono ?_
    rintro e x9 ⟨rfl, b2⟩
    replace b1 := bel12 b1 b2
    clear b2
    go_wp2_with fail
    with_reducible refine (P3.out _).mono ?_
    rintro e x10 ⟨rfl, b2⟩
    replace b1 := bel12 b1 b2
    clear b2
    go_wp2
    go_ret
    exact ⟨rfl, b1⟩
  · have t1 : (S == 0) = false := by rw [hS2]; simp; omega
    clear hz hS2 hAC
    go_wp2_with fail
    with_reducible refine (PA.out _).mono ?_
    rintro e w1 ⟨rfl, b1⟩
    go_wp2_with fail
    with_reducible refine (P1.out _).mono ?_
    rintro e x11 ⟨rfl, b2⟩
    replace b1 := bel12 b1 b2
    clear b2
    go_wp2_with fail
    with_reducible refine (P2.out _).mono ?_
    rintro e x12 ⟨rfl, b2⟩
    replace b1 := bel12 b1 b2
    clear b2
    go_wp2_with fail
    with_reducible refine (P3.out _).mono ?_
    rintro e x13 ⟨rfl, b2⟩
    replace b1 := bel12 b1 b2
    clear b2
    go_wp2
    go_ret
    exact ⟨rfl, b1⟩

end Go.Proofs.Ytlhlpcfjoccgcaa
