/-
  Laws of chapter 11 over what package window's methods tell: WindowRuns, WindowGaps.
-/
import Derived.Test.YtmpmhepaonifpaaWin1
namespace Go.Proofs.Ytmpmhepaonifpaa
open Go.RowKit
set_option linter.unusedVariables false
set_option maxRecDepth 100000
set_option linter.unusedSimpArgs false

set_option maxRecDepth 100000 in
set_option maxHeartbeats 1000000 in
theorem windowRuns_of (K : WindowKeeps) (n back ah : Int) (w : World) (hn : I64W n) (hb : I64W back) (ha : I64W ah) : Calls Try.prog 5 #[.int .i64 n, .int .i64 back, .int .i64 ah] w fun e w' => e = .returned (.bool true) ∧ Below w.heap.size w w' := by
  have PA : Hid _ := alive11_of K
  obtain ⟨ha1, ha2⟩ := ha
  obtain ⟨hb1, hb2⟩ := hb
  obtain ⟨hn1, hn2⟩ := hn
  by_cases c1 : n < 0
  · have d1 : decide (n < 0) = true := decide_eq_true c1
    go_enter Try.func5, Try.ntmps5
    go_wp2_with fail
    with_reducible refine (PA.out _).mono ?_
    rintro e w1 ⟨rfl, b⟩
    go_wp2
    go_ret
    exact ⟨rfl, b⟩
  have d1 : decide (n < 0) = false := decide_eq_false c1
  by_cases c2 : 300 < n
  · have d2 : decide (300 < n) = true := decide_eq_true c2
    go_enter Try.func5, Try.ntmps5
    go_wp2_with fail
    with_reducible refine (PA.out _).mono ?_
    rintro e w1 ⟨rfl, b⟩
    go_wp2
    go_ret
    exact ⟨rfl, b⟩
  have d2 : decide (300 < n) = false := decide_eq_false c2
  by_cases c3 : back < 0
  · have d3 : decide (back < 0) = true := decide_eq_true c3
    go_enter Try.func5, Try.ntmps5
    go_wp2_with fail
    with_reducible refine (PA.out _).mono ?_
    rintro e w1 ⟨rfl, b⟩
    go_wp2
    go_ret
    exact ⟨rfl, b⟩
  have d3 : decide (back < 0) = false := decide_eq_false c3
  by_cases c4 : ah < 0
  · have d4 : decide (ah < 0) = true := decide_eq_true c4
    go_enter Try.func5, Try.ntmps5
    go_wp2_with fail
    with_reducible refine (PA.out _).mono ?_
    rintro e w1 ⟨rfl, b⟩
    go_wp2
    go_ret
    exact ⟨rfl, b⟩
  have d4 : decide (ah < 0) = false := decide_eq_false c4
  by_cases c5 : 200 < ah
  · have d5 : decide (200 < ah) = true := decide_eq_true c5
    go_enter Try.func5, Try.ntmps5
    go_wp2_with fail
    with_reducible refine (PA.out _).mono ?_
    rintro e w1 ⟨rfl, b⟩
    go_wp2
    go_ret
    exact ⟨rfl, b⟩
  have d5 : decide (200 < ah) = false := decide_eq_false c5
  obtain ⟨N, rfl⟩ : ∃ N : Nat, n = (N : Int) := ⟨n.toNat, by omega⟩
  have hN : N ≤ 300 := by omega
  go_enter Try.func5, Try.ntmps5
  go_wp2_with fail
  with_reducible refine (PA.out _).mono ?_
  rintro e w1 ⟨rfl, b⟩
  have H0 : Hid (WinAt K w w.heap.size w1.heap.size Wn.zero (w1.alloc (.cells Try.zeroCells32 32))) := WinAt.new b b.size
  clear b
  go_wp2_with fail
  generalize w1.alloc (.cells Try.zeroCells32 32) = w2 at *
  go_loopw [8] (fun i wr => ∃ (k : Nat) (s : Wn), k ≤ N ∧ i = .int .i64 k ∧ s.n = k ∧ (∀ x ∈ s.T, x < (k : Int)) ∧ WinAt K w w.heap.size w1.heap.size s wr) (fun i _ => N - (intOf i).toNat)
  case atStart => exact ⟨0, Wn.zero, Nat.zero_le _, rfl, rfl, by simp [Wn.zero], H0.out⟩
  case round =>
    clear H0
    obtain ⟨k, s, hk, rfl, hs, hT, hw⟩ := hrel
    by_cases hlt : k < N
    · have dlt : decide ((k : Int) < (N : Int)) = true := by simp; omega
      obtain ⟨m1, m2, m3⟩ := Wn.take_next hw.ok (by rw [hs]; exact hT)
      rw [hs] at m1 m2 m3
      have PT := hw.take (k : Int) (by omega) (i64w (by omega) (by omega))
      rw [m1] at PT
      have M2 : Hid _ := m2
      have M3 : Hid _ := m3
      clear hT hw m1 m2 m3
      generalize s.take (k : Int) = s' at *
      go_wp2_with fail
      with_reducible refine PT.mono ?_
      rintro e w3 ⟨rfl, h3⟩
      have PN := h3.next (by rw [M2.out]; omega)
      rw [M2.out] at PN
      clear PT h3
      go_wp2_with fail
      with_reducible refine PN.mono ?_
      rintro e w4 ⟨rfl, h4⟩
      clear PN
      go_wp2
      go_roundw
      case rel => exact ⟨k + 1, s', by omega, by go_num, M2.out, M3.out, h4⟩
      case measure => simp [intOf]; omega
    · obtain rfl : k = N := by omega
      have dlt : decide ((k : Int) < (k : Int)) = false := by simp
      have hHT : Hid _ := hT
      have e1 : IntKind.i64.wrap ((k : Int) + ah) = (k : Int) + ah := by rw [IntKind.wrap_i64]; omega
      have hah : s.ahead = [] := Wn.ahead_nil (by rw [hs]; exact hT)
      have hmay : s.may ((k : Int) + ah) = decide (ah < 64) := by
        by_cases h : ah < 64
        · rw [decide_eq_true h]
          exact (Wn.may_iff s _).2 ⟨by omega, by omega, fun hx => by have := hT _ hx; omega⟩
        · rw [decide_eq_false h]
          cases hm : s.may ((k : Int) + ah) with
          | false => rfl
          | true => have := ((Wn.may_iff s _).1 hm).2.1; omega
      have hself : (decide (ah < 64) == decide (ah < 64)) = true := by simp
      clear hT
      have PM : Hid (∀ w9, WinAt K w w.heap.size w1.heap.size s w9 → _) := fun w9 h9 => h9.may ((k : Int) + ah) (by omega) (i64w (by omega) (by omega))
      rw [hmay] at PM
      have PH : Hid (∀ w9, WinAt K w w.heap.size w1.heap.size s w9 → _) := fun w9 h9 => h9.ahead (by omega)
      rw [hah] at PH
      clear hmay hah
      generalize hdv : decide (ah < 64) = dv at *
      by_cases hbk : back < (k : Int)
      · have d6 : decide ((k : Int) ≤ back) = false := decide_eq_false (by omega)
        have e2 : IntKind.i64.wrap ((k : Int) - 1) = (k : Int) - 1 := by rw [IntKind.wrap_i64]; omega
        have e3 : IntKind.i64.wrap ((k : Int) - 1 - back) = (k : Int) - 1 - back := by rw [IntKind.wrap_i64]; omega
        have hlow : s.may ((k : Int) - 1 - back) = false := Wn.may_low (by omega)
        have PT := hw.take ((k : Int) - 1 - back) (by omega) (i64w (by omega) (by omega))
        rw [hlow, Wn.take_no hlow] at PT
        clear hlow hw
        go_wp2_with fail
        with_reducible refine PT.mono ?_
        rintro e w3 ⟨rfl, h3⟩
        clear PT
        go_wp2_with fail
        with_reducible refine (PM.out _ h3).mono ?_
        rintro e w4 ⟨rfl, h4⟩
        clear h3
        go_wp2_with fail
        with_reducible refine (PH.out _ h4).mono ?_
        rintro e w5 ⟨a, c, rfl, _, h5⟩
        clear h4
        go_wp2
        go_ret
        exact ⟨rfl, h5.bel⟩
      · have d6 : decide ((k : Int) ≤ back) = true := decide_eq_true (by omega)
        go_wp2_with fail
        with_reducible refine (PM.out _ hw).mono ?_
        rintro e w4 ⟨rfl, h4⟩
        clear hw
        go_wp2_with fail
        with_reducible refine (PH.out _ h4).mono ?_
        rintro e w5 ⟨a, c, rfl, _, h5⟩
        clear h4
        go_wp2
        go_ret
        exact ⟨rfl, h5.bel⟩

end Go.Proofs.Ytmpmhepaonifpaa
