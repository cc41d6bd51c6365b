/-
  Laws of chapter 12 over what package ratchet's functions tell: RatchetApart, RatchetEpochs.
-/
import Derived.Test.YtlhlpcfjoccgcaaRat2
namespace Go.Proofs.Ytlhlpcfjoccgcaa
open Go.RowKit
set_option linter.unusedVariables false
set_option maxRecDepth 100000
set_option linter.unusedSimpArgs false

set_option maxRecDepth 100000 in
set_option maxHeartbeats 2000000 in
theorem ratchetApart_of (K : RatchetKeeps) (a b0 : Int) (w : World) (ha : -9223372036854775808 ≤ a ∧ a ≤ 9223372036854775807) (hb : -9223372036854775808 ≤ b0 ∧ b0 ≤ 9223372036854775807) : Calls Try.prog 4 #[.int .i64 a, .int .i64 b0] w fun e w' => e = .returned (.bool true) ∧ Below w.heap.size w w' := by
  have PA : Hid _ := alive12_of K
  by_cases c0 : a < 0
  · have d0 : decide (a < 0) = true := decide_eq_true c0
    go_enter Try.func4, Try.ntmps4
    go_wp2_with fail
    with_reducible refine (PA.out _).mono ?_
    rintro e w1 ⟨rfl, b⟩
    go_wp2
    go_ret
    exact ⟨rfl, b⟩
  have d0 : decide (a < 0) = false := decide_eq_false c0
  by_cases c1 : b0 < 0
  · have d1 : decide (b0 < 0) = true := decide_eq_true c1
    go_enter Try.func4, Try.ntmps4
    go_wp2_with fail
    with_reducible refine (PA.out _).mono ?_
    rintro e w1 ⟨rfl, b⟩
    go_wp2
    go_ret
    exact ⟨rfl, b⟩
  have d1 : decide (b0 < 0) = false := decide_eq_false c1
  by_cases c2 : a = b0
  · subst c2
    have d2 : (a == a) = true := by simp
    go_enter Try.func4, Try.ntmps4
    go_wp2_with fail
    with_reducible refine (PA.out _).mono ?_
    rintro e w1 ⟨rfl, b⟩
    go_wp2
    go_ret
    exact ⟨rfl, b⟩
  have d2 : (a == b0) = false := by simpa using c2
  have hne : nonceR a ≠ nonceR b0 := fun h => c2 (nonceR_apart (by omega) (by omega) (by omega) (by omega) h)
  have P1 : Hid _ := fun w => K.nonce a w ha.1 ha.2
  have P2 : Hid _ := fun w => K.nonce b0 w hb.1 hb.2
  have P3 : Hid _ := fun w => K.epoch a w ha.1 ha.2
  have P4 : Hid _ := fun w => K.epoch b0 w hb.1 hb.2
  rw [epochR_yes (by omega)] at P3
  rw [epochR_yes (by omega)] at P4
  have e1 : ((nonceR a).toList == (nonceR b0).toList) = false := by rw [str_beq]; exact decide_eq_false hne
  have e2 : ¬ (nonceR a).toList = (nonceR b0).toList := fun e => by rw [e] at e1; simp at e1
  have e3 : decide (nonceR a = nonceR b0) = false := decide_eq_false hne
  have q1 : IntKind.i64.wrap (a.tdiv 8) = a / 8 := by rw [Int.tdiv_eq_ediv_of_nonneg (by omega), IntKind.wrap_i64]; omega
  have q2 : IntKind.i64.wrap (b0.tdiv 8) = b0 / 8 := by rw [Int.tdiv_eq_ediv_of_nonneg (by omega), IntKind.wrap_i64]; omega
  have q3 : a.tdiv 8 = a / 8 := Int.tdiv_eq_ediv_of_nonneg (by omega)
  have q4 : b0.tdiv 8 = b0 / 8 := Int.tdiv_eq_ediv_of_nonneg (by omega)
  clear hne
  generalize nonceR a = NA at *
  generalize nonceR b0 = NB at *
  go_enter Try.func4, Try.ntmps4
  go_wp2_with fail
  with_reducible refine (PA.out _).mono ?_
  rintro e w1 ⟨rfl, b1⟩
  go_wp2_with fail
  with_reducible refine (P1.out _).mono ?_
  rintro e x1 ⟨rfl, b2⟩
  replace b1 := bel12 b1 b2
  clear b2
  go_wp2_with fail
  with_reducible refine (P2.out _).mono ?_
  rintro e x2 ⟨rfl, b2⟩
  replace b1 := bel12 b1 b2
  clear b2
  go_wp2_with fail
  with_reducible refine (P3.out _).mono ?_
  rintro e x3 ⟨rfl, b2⟩
  replace b1 := bel12 b1 b2
  clear b2
  go_wp2_with fail
  with_reducible refine (P4.out _).mono ?_
  rintro e x4 ⟨rfl, b2⟩
  replace b1 := bel12 b1 b2
  clear b2
  go_wp2
  go_ret
  exact ⟨rfl, b1⟩

set_option maxRecDepth 100000 in
set_option maxHeartbeats 2000000 in
theorem ratchetEpochs_of (K : RatchetKeeps) (n : Int) (w : World) (hn : -9223372036854775808 ≤ n ∧ n ≤ 9223372036854775807) : Calls Try.prog 8 #[.int .i64 n] w fun e w' => e = .returned (.bool true) ∧ Below w.heap.size w w' := by
  have PA : Hid _ := alive12_of K
  by_cases c0 : n < 0
  · have d0 : decide (n < 0) = true := decide_eq_true c0
    go_enter Try.func8, Try.ntmps8
    go_wp2_with fail
    with_reducible refine (PA.out _).mono ?_
    rintro e w1 ⟨rfl, b⟩
    go_wp2
    go_ret
    exact ⟨rfl, b⟩
  have d0 : decide (n < 0) = false := decide_eq_false c0
  by_cases c1 : 1099511627776 < n
  · have d1 : decide (1099511627776 < n) = true := decide_eq_true c1
    go_enter Try.func8, Try.ntmps8
    go_wp2_with fail
    with_reducible refine (PA.out _).mono ?_
    rintro e w1 ⟨rfl, b⟩
    go_wp2
    go_ret
    exact ⟨rfl, b⟩
  have d1 : decide (1099511627776 < n) = false := decide_eq_false c1
  have P1 : Hid _ := fun w => K.epoch n w hn.1 hn.2
  have P2 : Hid _ := fun w => K.epoch (n + 8) w (by omega) (by omega)
  have P3 : Hid _ := fun w => K.epoch (-5) w (by decide) (by decide)
  rw [epochR_yes (by omega)] at P1
  rw [epochR_yes (by omega), show (n + 8) / 8 = n / 8 + 1 by omega] at P2
  rw [epochR_no (by decide)] at P3
  have hq : 8 * (n / 8) ≤ n ∧ n < 8 * (n / 8) + 8 := by omega
  generalize n / 8 = q at *
  have w1 : IntKind.i64.wrap (q * 8) = q * 8 := by rw [IntKind.wrap_i64]; omega
  have w2 : IntKind.i64.wrap (q + 1) = q + 1 := by rw [IntKind.wrap_i64]; omega
  have w3 : IntKind.i64.wrap ((q + 1) * 8) = (q + 1) * 8 := by rw [IntKind.wrap_i64]; omega
  have w4 : IntKind.i64.wrap (n + 8) = n + 8 := by rw [IntKind.wrap_i64]; omega
  have t1 : decide (q * 8 ≤ n) = true := decide_eq_true (by omega)
  have t2 : decide (n < (q + 1) * 8) = true := decide_eq_true (by omega)
  go_enter Try.func8, Try.ntmps8
  go_wp2_with fail
  with_reducible refine (PA.out _).mono ?_
  rintro e w1 ⟨rfl, b1⟩
  go_wp2_with fail
  with_reducible refine (P1.out _).mono ?_
  rintro e x5 ⟨rfl, b2⟩
  replace b1 := bel12 b1 b2
  clear b2
  go_wp2_with fail
  with_reducible refine (P2.out _).mono ?_
  rintro e x6 ⟨rfl, b2⟩
  replace b1 := bel12 b1 b2
  clear b2
  go_wp2_with fail
  with_reducible refine (P3.out _).mono ?_
  rintro e x7 ⟨rfl, b2⟩
  replace b1 := bel12 b1 b2
  clear b2
  go_wp2
  go_ret
  exact ⟨rfl, b1⟩

end Go.Proofs.Ytlhlpcfjoccgcaa
