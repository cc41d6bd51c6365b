/-
  Laws of chapter 11 over what package window's methods tell: WindowGaps.
-/
import Derived.Test.YtmpmhepaonifpaaWin1
namespace Go.Proofs.Ytmpmhepaonifpaa
open Go.RowKit
set_option linter.unusedVariables false
set_option maxRecDepth 100000
set_option linter.unusedSimpArgs false

set_option maxRecDepth 100000 in
set_option maxHeartbeats 1000000 in
theorem windowGaps_of (K : WindowKeeps) (gap n : Int) (w : World) (hg : I64W gap) (hn : I64W n) : Calls Try.prog 6 #[.int .i64 gap, .int .i64 n] w fun e w' => e = .returned (.bool true) ∧ Below w.heap.size w w' := by
  have PA : Hid _ := alive11_of K
  obtain ⟨hg1, hg2⟩ := hg
  obtain ⟨hn1, hn2⟩ := hn
  by_cases c0 : gap < 0
  · have d0 : decide (gap < 0) = true := decide_eq_true c0
    go_enter Try.func6, Try.ntmps6
    go_wp2_with fail
    with_reducible refine (PA.out _).mono ?_
    rintro e w1 ⟨rfl, b⟩
    go_wp2
    go_ret
    exact ⟨rfl, b⟩
  have d0 : decide (gap < 0) = false := decide_eq_false c0
  by_cases c1 : 40 < gap
  · have d1 : decide (40 < gap) = true := decide_eq_true c1
    go_enter Try.func6, Try.ntmps6
    go_wp2_with fail
    with_reducible refine (PA.out _).mono ?_
    rintro e w1 ⟨rfl, b⟩
    go_wp2
    go_ret
    exact ⟨rfl, b⟩
  have d1 : decide (40 < gap) = false := decide_eq_false c1
  by_cases c2 : n < 0
  · have d2 : decide (n < 0) = true := decide_eq_true c2
    go_enter Try.func6, Try.ntmps6
    go_wp2_with fail
    with_reducible refine (PA.out _).mono ?_
    rintro e w1 ⟨rfl, b⟩
    go_wp2
    go_ret
    exact ⟨rfl, b⟩
  have d2 : decide (n < 0) = false := decide_eq_false c2
  by_cases c3 : 60 < n
  · have d3 : decide (60 < n) = true := decide_eq_true c3
    go_enter Try.func6, Try.ntmps6
    go_wp2_with fail
    with_reducible refine (PA.out _).mono ?_
    rintro e w1 ⟨rfl, b⟩
    go_wp2
    go_ret
    exact ⟨rfl, b⟩
  have d3 : decide (60 < n) = false := decide_eq_false c3
  obtain ⟨N, rfl⟩ : ∃ N : Nat, n = (N : Int) := ⟨n.toNat, by omega⟩
  obtain ⟨G, rfl⟩ : ∃ G : Nat, gap = (G : Int) := ⟨gap.toNat, by omega⟩
  have hN : N ≤ 60 := by omega
  have hG : G ≤ 40 := by omega
  go_enter Try.func6, Try.ntmps6
  go_wp2_with fail
  with_reducible refine (PA.out _).mono ?_
  rintro e w1 ⟨rfl, b⟩
  have H0 : Hid (WinAt K w w.heap.size w1.heap.size Wn.zero (w1.alloc (.cells Try.zeroCells32 32))) := WinAt.new b b.size
  clear b
  go_wp2_with fail
  generalize w1.alloc (.cells Try.zeroCells32 32) = w2 at *
  go_loopw [6] (fun i wr => ∃ (k : Nat) (s : Wn), k ≤ G ∧ i = .int .i64 k ∧ s.n = k ∧ (∀ x ∈ s.T, x < (k : Int)) ∧ WinAt K w w.heap.size w1.heap.size s wr) (fun i _ => G - (intOf i).toNat)
  case atStart => exact ⟨0, Wn.zero, Nat.zero_le _, rfl, rfl, by simp [Wn.zero], H0.out⟩
  case round =>
    clear H0
    obtain ⟨k, s, hk, rfl, hs, hT, hw⟩ := hrel
    by_cases hlt : k < G
    · have dlt : decide ((k : Int) < (G : Int)) = true := by simp; omega
      obtain ⟨m1, m2, m3⟩ := Wn.take_next hw.ok (by rw [hs]; exact hT)
      rw [hs] at m1 m2 m3
      have PT := hw.take (k : Int) (by omega) (i64w (by omega) (by omega))
      rw [m1] at PT
      have M2 : Hid _ := m2
      have M3 : Hid _ := m3
      clear hT hw m1 m2 m3
      generalize s.take (k : Int) = s' at *
      go_wp2_with fail
      with_reducible refine PT.mono ?_
      rintro e w3 ⟨rfl, h3⟩
      clear PT
      go_wp2
      go_roundw
      case rel => exact ⟨k + 1, s', by omega, by go_num, M2.out, M3.out, h3⟩
      case measure => simp [intOf]; omega
    · obtain rfl : k = G := by omega
      have dlt : decide ((k : Int) < (k : Int)) = false := by simp
      have hgap : Hid (s.Gap k 0) := ⟨hw.ok, hs, fun x hx => Or.inl (hT x hx), fun j h1 h2 => absurd h1 (by omega)⟩
      have hW : Hid _ := hw
      clear hT hs hw
      go_wp2_with fail
      go_loopw [7] (fun i wr => ∃ (j : Nat) (s : Wn), j ≤ N ∧ i = .int .i64 ((j + 1 : Nat) : Int) ∧ s.Gap k j ∧ WinAt K w w.heap.size w1.heap.size s wr) (fun i _ => N + 1 - (intOf i).toNat)
      case atStart => exact ⟨0, s, Nat.zero_le _, rfl, hgap.out, hW.out⟩
      case round =>
        clear hgap hW
        obtain ⟨j, s, hj, rfl, hgp, hw⟩ := hrel
        have hsn := hgp.n
        by_cases hlt : j < N
        · have dlt : decide (((j + 1 : Nat) : Int) ≤ (N : Int)) = true := decide_eq_true (by omega)
          have dlt2 : decide ((j : Int) + 1 ≤ (N : Int)) = true := decide_eq_true (by omega)
          have e1 : IntKind.i64.wrap ((k : Int) + ((j + 1 : Nat) : Int)) = (k : Int) + ((j + 1 : Nat) : Int) := by rw [IntKind.wrap_i64]; omega
          obtain ⟨m1, m2⟩ := hgp.more (by omega)
          have PT := hw.take ((k : Int) + ((j + 1 : Nat) : Int)) (by omega) (i64w (by omega) (by omega))
          rw [m1] at PT
          have M2 : Hid _ := m2
          clear hgp hw m1 m2
          generalize s.take ((k : Int) + ((j + 1 : Nat) : Int)) = s' at *
          rw [show (((j + 1 : Nat) : Int)) = (j : Int) + 1 by omega] at *
          go_wp2_with fail
          with_reducible refine PT.mono ?_
          rintro e w3 ⟨rfl, h3⟩
          clear PT
          go_wp2
          go_roundw
          case rel => exact ⟨j + 1, s', by omega, by go_num, M2.out, h3⟩
          case measure => simp [intOf]; omega
        · obtain rfl : j = N := by omega
          have dlt : decide (((j + 1 : Nat) : Int) ≤ (j : Int)) = false := decide_eq_false (by omega)
          have dlt2 : decide ((j : Int) + 1 ≤ (j : Int)) = false := decide_eq_false (by omega)
          have hal := hgp.ahead (by omega)
          obtain ⟨f1, f2, f3⟩ := hgp.fill (by omega)
          have PN := hw.next (by omega)
          rw [hsn] at PN
          have PH : Hid (∀ w9, WinAt K w w.heap.size w1.heap.size s w9 → _) := fun w9 h9 => h9.ahead (by omega)
          have PT : Hid (∀ w9, WinAt K w w.heap.size w1.heap.size s w9 → _) := fun w9 h9 => h9.take (k : Int) (by omega) (i64w (by omega) (by omega))
          have PN2 : Hid (∀ w9, WinAt K w w.heap.size w1.heap.size (s.take (k : Int)) w9 → _) := fun w9 h9 => h9.next (by omega)
          have PH2 : Hid (∀ w9, WinAt K w w.heap.size w1.heap.size (s.take (k : Int)) w9 → _) := fun w9 h9 => h9.ahead (by omega)
          rw [hal] at PH
          rw [f1] at PT
          rw [f2] at PN2
          rw [f3] at PH2
          have e1 : IntKind.i64.wrap ((k : Int) + (j : Int)) = (k : Int) + (j : Int) := by rw [IntKind.wrap_i64]; omega
          have e2 : IntKind.i64.wrap ((k : Int) + (j : Int) + 1) = (k : Int) + (j : Int) + 1 := by rw [IntKind.wrap_i64]; omega
          have e3 : ((k + j + 1 : Nat) : Int) = (k : Int) + (j : Int) + 1 := by omega
          clear hgp hw hal f1 f2 f3 hsn
          generalize s.take (k : Int) = s' at *
          go_wp2_with fail
          with_reducible refine PN.mono ?_
          rintro e w3 ⟨rfl, h3⟩
          clear PN
          go_wp2_with fail
          with_reducible refine (PH.out _ h3).mono ?_
          rintro e w4 ⟨a, c, rfl, _, h4⟩
          clear h3
          go_wp2_with fail
          with_reducible refine (PT.out _ h4).mono ?_
          rintro e w5 ⟨rfl, h5⟩
          clear h4
          go_wp2_with fail
          with_reducible refine (PN2.out _ h5).mono ?_
          rintro e w6 ⟨rfl, h6⟩
          clear h5
          go_wp2_with fail
          with_reducible refine (PH2.out _ h6).mono ?_
          rintro e w7 ⟨a2, c2, rfl, _, h7⟩
          clear h6
          go_wp2
          go_ret
          exact ⟨rfl, h7.bel⟩

end Go.Proofs.Ytmpmhepaonifpaa
