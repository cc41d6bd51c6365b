/-
  The contract of the reference's Command.
-/
import Derived.Test.YtogfobmbmimpgaaCom4
namespace Go.Proofs.Ytogfobmbmimpgaa
open Go.RowKit
set_option linter.unusedVariables false
set_option maxRecDepth 100000
set_option linter.unusedSimpArgs false

theorem str_empty_dec' (k : ByteArray) : decide (k.toList = []) = decide (k.size = 0) := decide_eq_decide.2 (⟨fun h => by rw [ByteArray.toList_eq] at h; have := congrArg List.length h; simpa using this, fun h => by rw [str_none k h, ByteArray.toList_eq]⟩)
set_option maxHeartbeats 4000000 in
theorem ref_command (c : Cmd) (w : World) (hk : c.key.size ≤ maxLen) : Calls Try.prog 15 #[c.v] w fun e w' => e = .returned (.bool c.right) ∧ Below w.heap.size w w' := by
  have hb0 : (if c.op = 11 then true else if c.op = 12 ∨ c.op = 13 then decide (c.key.size = 0) else decide (1 ≤ (c.key.size : Int))) = decide (keyOk c.op c.key.size) := by
    unfold keyOk
    split
    · simp
    · split
      · rfl
      · exact decide_eq_decide.2 (by omega)
  have e0 : c.right = (decide (IsOp c.op) && decide (keyOk c.op c.key.size) && decide ((c.key.size : Int) ≤ 60) && decide ((c.value.size : Int) ≤ 500) && decide (-1000000000000 ≤ c.num ∧ c.num ≤ 1000000000000) && decide (0 ≤ c.ver) && decide (c.ver ≤ 1000000000000)) := by
    unfold Cmd.right
    simp only [← Bool.decide_and]
    exact decide_eq_decide.2 ⟨fun ⟨h1, h2, h3, h4, h5, h6, h7⟩ => ⟨⟨⟨⟨⟨⟨h1, h2⟩, by omega⟩, by omega⟩, h5⟩, h6⟩, h7⟩, fun ⟨⟨⟨⟨⟨⟨h1, h2⟩, h3⟩, h4⟩, h5⟩, h6⟩, h7⟩ => ⟨h1, h2, by omega, by omega, h5, h6, h7⟩⟩
  rw [e0]
  obtain ⟨op, key, value, num, ver⟩ := c
  rw [show (⟨op, key, value, num, ver⟩ : Cmd).v = .agg #[.int .i64 op, .string key, .string value, .int .i64 num, .int .i64 ver] from rfl]
  simp only at hk hb0 ⊢
  clear e0
  have P1 := fun w => ref_class op w
  have P2 := fun w => ref_number num w
  rw [← classN_pos op]
  generalize classN op = cl at *
  obtain ⟨x1, y1⟩ : ∃ x, decide (0 < cl) = x := ⟨_, rfl⟩
  obtain ⟨x2, y2⟩ : ∃ x, decide (keyOk op key.size) = x := ⟨_, rfl⟩
  obtain ⟨x3, y3⟩ : ∃ x, decide ((key.size : Int) ≤ 60) = x := ⟨_, rfl⟩
  obtain ⟨x4, y4⟩ : ∃ x, decide ((value.size : Int) ≤ 500) = x := ⟨_, rfl⟩
  obtain ⟨x5, y5⟩ : ∃ x, decide (-1000000000000 ≤ num ∧ num ≤ 1000000000000) = x := ⟨_, rfl⟩
  obtain ⟨x6, y6⟩ : ∃ x, decide (0 ≤ ver) = x := ⟨_, rfl⟩
  obtain ⟨x7, y7⟩ : ∃ x, decide (ver ≤ 1000000000000) = x := ⟨_, rfl⟩
  rw [y2] at hb0
  rw [y5] at P2
  rw [y1, y2, y3, y4, y5, y6, y7]
  clear y2 y5
  have hbel : ∀ o, Below w.heap.size w (w.alloc o) := fun o => (Below.refl _ _).alloc (Nat.le_refl _) _
  have h4 : (op = 11 ∧ x2 = true) ∨ (op = 12 ∧ decide (key = ByteArray.empty) = x2 ∧ decide (key.toList = []) = x2) ∨ (op = 13 ∧ decide (key = ByteArray.empty) = x2 ∧ decide (key.toList = []) = x2) ∨ (((op == 11) = false ∧ (op == 12) = false ∧ (op == 13) = false) ∧ decide (1 ≤ (key.size : Int)) = x2) := by
    by_cases h11 : op = 11
    · rw [if_pos h11] at hb0; exact Or.inl ⟨h11, hb0.symm⟩
    · rw [if_neg h11] at hb0
      by_cases h12 : op = 12
      · rw [if_pos (Or.inl h12)] at hb0; exact Or.inr (Or.inl ⟨h12, (str_empty_dec key).trans hb0, (str_empty_dec' key).trans hb0⟩)
      · by_cases h13 : op = 13
        · rw [if_pos (Or.inr h13)] at hb0; exact Or.inr (Or.inr (Or.inl ⟨h13, (str_empty_dec key).trans hb0, (str_empty_dec' key).trans hb0⟩))
        · rw [if_neg (by omega)] at hb0
          exact Or.inr (Or.inr (Or.inr ⟨⟨by simpa using h11, by simpa using h12, by simpa using h13⟩, hb0⟩))
  clear hb0 hk
  go_enter Try.func15, Try.ntmps15
  rcases h4 with ⟨rfl, rfl⟩ | ⟨rfl, hz, hz2⟩ | ⟨rfl, hz, hz2⟩ | ⟨⟨b11, b12, b13⟩, hz⟩
  · skip
    cases x1
    · go_wp2_with (first | (go_at_call 17; with_reducible refine (P1 _).mono ?_; rintro e w' ⟨rfl, rfl⟩) | (go_at_call 33; with_reducible refine (P2 _).mono ?_; rintro e w' ⟨rfl, rfl⟩))
      go_ret
      exact ⟨rfl, hbel _⟩
    cases x3
    · go_wp2_with (first | (go_at_call 17; with_reducible refine (P1 _).mono ?_; rintro e w' ⟨rfl, rfl⟩) | (go_at_call 33; with_reducible refine (P2 _).mono ?_; rintro e w' ⟨rfl, rfl⟩))
      go_ret
      exact ⟨rfl, hbel _⟩
    cases x4
    · go_wp2_with (first | (go_at_call 17; with_reducible refine (P1 _).mono ?_; rintro e w' ⟨rfl, rfl⟩) | (go_at_call 33; with_reducible refine (P2 _).mono ?_; rintro e w' ⟨rfl, rfl⟩))
      go_ret
      exact ⟨rfl, hbel _⟩
    cases x5
    · go_wp2_with (first | (go_at_call 17; with_reducible refine (P1 _).mono ?_; rintro e w' ⟨rfl, rfl⟩) | (go_at_call 33; with_reducible refine (P2 _).mono ?_; rintro e w' ⟨rfl, rfl⟩))
      go_ret
      exact ⟨rfl, hbel _⟩
    cases x6
    · go_wp2_with (first | (go_at_call 17; with_reducible refine (P1 _).mono ?_; rintro e w' ⟨rfl, rfl⟩) | (go_at_call 33; with_reducible refine (P2 _).mono ?_; rintro e w' ⟨rfl, rfl⟩))
      go_ret
      exact ⟨rfl, hbel _⟩
    · go_wp2_with (first | (go_at_call 17; with_reducible refine (P1 _).mono ?_; rintro e w' ⟨rfl, rfl⟩) | (go_at_call 33; with_reducible refine (P2 _).mono ?_; rintro e w' ⟨rfl, rfl⟩))
      go_ret
      exact ⟨rfl, hbel _⟩
  · skip
    cases x1
    · cases x2
      · have hz3 := of_decide_eq_false hz2
        clear hz2
        go_wp2_with (first | (go_at_call 17; with_reducible refine (P1 _).mono ?_; rintro e w' ⟨rfl, rfl⟩) | (go_at_call 33; with_reducible refine (P2 _).mono ?_; rintro e w' ⟨rfl, rfl⟩))
        go_ret
        exact ⟨rfl, hbel _⟩
      · have hz3 := of_decide_eq_true hz2
        clear hz2
        go_wp2_with (first | (go_at_call 17; with_reducible refine (P1 _).mono ?_; rintro e w' ⟨rfl, rfl⟩) | (go_at_call 33; with_reducible refine (P2 _).mono ?_; rintro e w' ⟨rfl, rfl⟩))
        go_ret
        exact ⟨rfl, hbel _⟩
    cases x2
    · have hz3 := of_decide_eq_false hz2
      clear hz2
      go_wp2_with (first | (go_at_call 17; with_reducible refine (P1 _).mono ?_; rintro e w' ⟨rfl, rfl⟩) | (go_at_call 33; with_reducible refine (P2 _).mono ?_; rintro e w' ⟨rfl, rfl⟩))
      go_ret
      exact ⟨rfl, hbel _⟩
    have hz3 := of_decide_eq_true hz2
    clear hz2
    cases x3
    · go_wp2_with (first | (go_at_call 17; with_reducible refine (P1 _).mono ?_; rintro e w' ⟨rfl, rfl⟩) | (go_at_call 33; with_reducible refine (P2 _).mono ?_; rintro e w' ⟨rfl, rfl⟩))
      go_ret
      exact ⟨rfl, hbel _⟩
    cases x4
    · go_wp2_with (first | (go_at_call 17; with_reducible refine (P1 _).mono ?_; rintro e w' ⟨rfl, rfl⟩) | (go_at_call 33; with_reducible refine (P2 _).mono ?_; rintro e w' ⟨rfl, rfl⟩))
      go_ret
      exact ⟨rfl, hbel _⟩
    cases x5
    · go_wp2_with (first | (go_at_call 17; with_reducible refine (P1 _).mono ?_; rintro e w' ⟨rfl, rfl⟩) | (go_at_call 33; with_reducible refine (P2 _).mono ?_; rintro e w' ⟨rfl, rfl⟩))
      go_ret
      exact ⟨rfl, hbel _⟩
    cases x6
    · go_wp2_with (first | (go_at_call 17; with_reducible refine (P1 _).mono ?_; rintro e w' ⟨rfl, rfl⟩) | (go_at_call 33; with_reducible refine (P2 _).mono ?_; rintro e w' ⟨rfl, rfl⟩))
      go_ret
      exact ⟨rfl, hbel _⟩
    · go_wp2_with (first | (go_at_call 17; with_reducible refine (P1 _).mono ?_; rintro e w' ⟨rfl, rfl⟩) | (go_at_call 33; with_reducible refine (P2 _).mono ?_; rintro e w' ⟨rfl, rfl⟩))
      go_ret
      exact ⟨rfl, hbel _⟩
  · skip
    cases x1
    · cases x2
      · have hz3 := of_decide_eq_false hz2
        clear hz2
        go_wp2_with (first | (go_at_call 17; with_reducible refine (P1 _).mono ?_; rintro e w' ⟨rfl, rfl⟩) | (go_at_call 33; with_reducible refine (P2 _).mono ?_; rintro e w' ⟨rfl, rfl⟩))
        go_ret
        exact ⟨rfl, hbel _⟩
      · have hz3 := of_decide_eq_true hz2
        clear hz2
        go_wp2_with (first | (go_at_call 17; with_reducible refine (P1 _).mono ?_; rintro e w' ⟨rfl, rfl⟩) | (go_at_call 33; with_reducible refine (P2 _).mono ?_; rintro e w' ⟨rfl, rfl⟩))
        go_ret
        exact ⟨rfl, hbel _⟩
    cases x2
    · have hz3 := of_decide_eq_false hz2
      clear hz2
      go_wp2_with (first | (go_at_call 17; with_reducible refine (P1 _).mono ?_; rintro e w' ⟨rfl, rfl⟩) | (go_at_call 33; with_reducible refine (P2 _).mono ?_; rintro e w' ⟨rfl, rfl⟩))
      go_ret
      exact ⟨rfl, hbel _⟩
    have hz3 := of_decide_eq_true hz2
    clear hz2
    cases x3
    · go_wp2_with (first | (go_at_call 17; with_reducible refine (P1 _).mono ?_; rintro e w' ⟨rfl, rfl⟩) | (go_at_call 33; with_reducible refine (P2 _).mono ?_; rintro e w' ⟨rfl, rfl⟩))
      go_ret
      exact ⟨rfl, hbel _⟩
    cases x4
    · go_wp2_with (first | (go_at_call 17; with_reducible refine (P1 _).mono ?_; rintro e w' ⟨rfl, rfl⟩) | (go_at_call 33; with_reducible refine (P2 _).mono ?_; rintro e w' ⟨rfl, rfl⟩))
      go_ret
      exact ⟨rfl, hbel _⟩
    cases x5
    · go_wp2_with (first | (go_at_call 17; with_reducible refine (P1 _).mono ?_; rintro e w' ⟨rfl, rfl⟩) | (go_at_call 33; with_reducible refine (P2 _).mono ?_; rintro e w' ⟨rfl, rfl⟩))
      go_ret
      exact ⟨rfl, hbel _⟩
    cases x6
    · go_wp2_with (first | (go_at_call 17; with_reducible refine (P1 _).mono ?_; rintro e w' ⟨rfl, rfl⟩) | (go_at_call 33; with_reducible refine (P2 _).mono ?_; rintro e w' ⟨rfl, rfl⟩))
      go_ret
      exact ⟨rfl, hbel _⟩
    · go_wp2_with (first | (go_at_call 17; with_reducible refine (P1 _).mono ?_; rintro e w' ⟨rfl, rfl⟩) | (go_at_call 33; with_reducible refine (P2 _).mono ?_; rintro e w' ⟨rfl, rfl⟩))
      go_ret
      exact ⟨rfl, hbel _⟩
  · skip
    cases x1
    · go_wp2_with (first | (go_at_call 17; with_reducible refine (P1 _).mono ?_; rintro e w' ⟨rfl, rfl⟩) | (go_at_call 33; with_reducible refine (P2 _).mono ?_; rintro e w' ⟨rfl, rfl⟩))
      go_ret
      exact ⟨rfl, hbel _⟩
    cases x2
    · go_wp2_with (first | (go_at_call 17; with_reducible refine (P1 _).mono ?_; rintro e w' ⟨rfl, rfl⟩) | (go_at_call 33; with_reducible refine (P2 _).mono ?_; rintro e w' ⟨rfl, rfl⟩))
      go_ret
      exact ⟨rfl, hbel _⟩
    cases x3
    · go_wp2_with (first | (go_at_call 17; with_reducible refine (P1 _).mono ?_; rintro e w' ⟨rfl, rfl⟩) | (go_at_call 33; with_reducible refine (P2 _).mono ?_; rintro e w' ⟨rfl, rfl⟩))
      go_ret
      exact ⟨rfl, hbel _⟩
    cases x4
    · go_wp2_with (first | (go_at_call 17; with_reducible refine (P1 _).mono ?_; rintro e w' ⟨rfl, rfl⟩) | (go_at_call 33; with_reducible refine (P2 _).mono ?_; rintro e w' ⟨rfl, rfl⟩))
      go_ret
      exact ⟨rfl, hbel _⟩
    cases x5
    · go_wp2_with (first | (go_at_call 17; with_reducible refine (P1 _).mono ?_; rintro e w' ⟨rfl, rfl⟩) | (go_at_call 33; with_reducible refine (P2 _).mono ?_; rintro e w' ⟨rfl, rfl⟩))
      go_ret
      exact ⟨rfl, hbel _⟩
    cases x6
    · go_wp2_with (first | (go_at_call 17; with_reducible refine (P1 _).mono ?_; rintro e w' ⟨rfl, rfl⟩) | (go_at_call 33; with_reducible refine (P2 _).mono ?_; rintro e w' ⟨rfl, rfl⟩))
      go_ret
      exact ⟨rfl, hbel _⟩
    · go_wp2_with (first | (go_at_call 17; with_reducible refine (P1 _).mono ?_; rintro e w' ⟨rfl, rfl⟩) | (go_at_call 33; with_reducible refine (P2 _).mono ?_; rintro e w' ⟨rfl, rfl⟩))
      go_ret
      exact ⟨rfl, hbel _⟩

end Go.Proofs.Ytogfobmbmimpgaa
