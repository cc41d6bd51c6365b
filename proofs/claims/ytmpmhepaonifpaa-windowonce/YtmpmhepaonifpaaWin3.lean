/-
  Laws of chapter 11 over what package window's methods tell: WindowOnce.
-/
import Derived.Test.YtmpmhepaonifpaaWin1
import Derived.Test.YtmpmhepaonifpaaInts0
namespace Go.Proofs.Ytmpmhepaonifpaa
open Go.RowKit
set_option linter.unusedVariables false
set_option maxRecDepth 100000
set_option linter.unusedSimpArgs false

set_option maxRecDepth 100000 in
set_option maxHeartbeats 1000000 in
theorem windowOnce_of (K : WindowKeeps) (oa : Option Addr) (n cap : Nat) (C : Nat → Int) (x : Int) (w : World) (hl : n ≤ maxLen) (hx : I64W x) (hC : IntsAt w oa n C) (hw0 : ∀ i, i < n → (Lit.int .i64 (C i)).wf = true) : Calls Try.prog 4 #[.slice oa n cap, .int .i64 x] w fun e w' => e = .returned (.bool true) ∧ Below w.heap.size w w' := by
  have PA : Hid _ := alive11_of K
  have HC : Hid (∀ w', Below w.heap.size w w' → IntsAt w' oa n C) := fun w' hb => hC.later hb
  have HW : Hid _ := hw0
  obtain ⟨hx1, hx2⟩ := hx
  unfold maxLen at hl
  clear hC hw0
  by_cases c0 : 300 < (n : Int)
  · have d0 : decide (300 < (n : Int)) = true := decide_eq_true c0
    go_enter Try.func4, Try.ntmps4
    go_wp2_with fail
    with_reducible refine (PA.out _).mono ?_
    rintro e w1 ⟨rfl, b⟩
    go_wp2
    go_ret
    exact ⟨rfl, b⟩
  have d0 : decide (300 < (n : Int)) = false := decide_eq_false c0
  by_cases c1 : x < 0
  · have d1 : decide (x < 0) = true := decide_eq_true c1
    go_enter Try.func4, Try.ntmps4
    go_wp2_with fail
    with_reducible refine (PA.out _).mono ?_
    rintro e w1 ⟨rfl, b⟩
    go_wp2
    go_ret
    exact ⟨rfl, b⟩
  have d1 : decide (x < 0) = false := decide_eq_false c1
  by_cases c2 : 60 < x
  · have d2 : decide (60 < x) = true := decide_eq_true c2
    go_enter Try.func4, Try.ntmps4
    go_wp2_with fail
    with_reducible refine (PA.out _).mono ?_
    rintro e w1 ⟨rfl, b⟩
    go_wp2
    go_ret
    exact ⟨rfl, b⟩
  have d2 : decide (60 < x) = false := decide_eq_false c2
  have hn3 : n ≤ 300 := by omega
  have q0 : Wn.zero.may x = true := (Wn.may_iff _ _).2 ⟨by show (0 : Int) ≤ x; omega, by show x < (0 : Int) + 64; omega, by simp [Wn.zero]⟩
  have q1 : x ∈ (Wn.zero.take x).T := by rw [Wn.take_yes q0]; exact List.mem_cons_self ..
  have q2 : (Wn.zero.take x).n ≤ 64 := by have := (Wn.take_ge Wn.zero x).2; exact this
  go_enter Try.func4, Try.ntmps4
  go_wp2_with fail
  with_reducible refine (PA.out _).mono ?_
  rintro e w1 ⟨rfl, b⟩
  have H0 : WinAt K w w.heap.size w1.heap.size Wn.zero (w1.alloc (.cells Try.zeroCells32 32)) := WinAt.new b b.size
  have PT := H0.take x (by decide) (i64w (by omega) (by omega))
  rw [q0] at PT
  have Q1 : Hid _ := q1
  have Q2 : Hid _ := q2
  clear b H0 q0 q1 q2
  generalize Wn.zero.take x = s0 at *
  go_wp2_with fail
  with_reducible refine PT.mono ?_
  rintro e w2 ⟨rfl, h2⟩
  have H2 : Hid _ := h2
  clear PT h2
  go_wp2_with fail
  go_loopw [6] (fun i wr => ∃ (k : Nat) (s : Wn), k ≤ n ∧ i = .int .i64 k ∧ s.n ≤ 64 + 64 * k ∧ x ∈ s.T ∧ WinAt K w w.heap.size w1.heap.size s wr) (fun i _ => n - (intOf i).toNat)
  case atStart => exact ⟨0, s0, Nat.zero_le _, rfl, Q2.out, Q1.out, H2.out⟩
  case round =>
    clear H2 Q1 Q2
    obtain ⟨k, s, hk, rfl, hs, hT, hw⟩ := hrel
    by_cases hlt : k < n
    · obtain ⟨bb, oo, rfl, hc⟩ := HC.out _ hw.bel k hlt
      have dlt : decide ((k : Int) < (n : Int)) = true := by simp; omega
      have g0 : (0 : Int) ≤ (k : Int) := by omega
      have g1 : (k : Int) < (n : Int) := by omega
      have hb := bounds_i64 (HW.out k hlt)
      have PT := hw.take (C k) (by omega) (i64w hb.1 hb.2)
      have hT2 := Wn.take_mem (x := C k) hT
      have hs2 : (s.take (C k)).n ≤ 64 + 64 * (k + 1) := by have := (Wn.take_ge s (C k)).2; omega
      have hm2 := Wn.may_taken hT2
      have PT2 : Hid (∀ w9, WinAt K w w.heap.size w1.heap.size (s.take (C k)) w9 → _) := fun w9 h9 => h9.take x (by omega) (i64w (by omega) (by omega))
      have PM : Hid (∀ w9, WinAt K w w.heap.size w1.heap.size (s.take (C k)) w9 → _) := fun w9 h9 => h9.may x (by omega) (i64w (by omega) (by omega))
      rw [hm2, Wn.take_no hm2] at PT2
      rw [hm2] at PM
      have S2 : Hid _ := hs2
      have T2 : Hid _ := hT2
      clear hw hs hT hs2 hT2 hm2 hb
      generalize s.take (C k) = s' at *
      generalize s.may (C k) = mm at *
      generalize C k = ck at *
      go_wp2_with fail
      with_reducible refine PT.mono ?_
      rintro e w3 ⟨rfl, h3⟩
      clear PT hc
      go_wp2_with fail
      with_reducible refine (PT2.out _ h3).mono ?_
      rintro e w4 ⟨rfl, h4⟩
      clear h3
      go_wp2_with fail
      with_reducible refine (PM.out _ h4).mono ?_
      rintro e w5 ⟨rfl, h5⟩
      clear h4
      go_wp2
      go_roundw
      case rel => exact ⟨k + 1, s', by omega, by go_num, S2.out, T2.out, h5⟩
      case measure => simp [intOf]; omega
    · obtain rfl : k = n := by omega
      have dlt : decide ((k : Int) < (k : Int)) = false := by simp
      go_wp2
      go_ret
      exact ⟨rfl, hw.bel⟩

end Go.Proofs.Ytmpmhepaonifpaa
