/-
  Plain mathematics of package users: one user, two users; what waits for the last failure.
-/
import Derived.Test.YtjemklgfenciaaaUsr0
namespace Go.Proofs.Ytjemklgfenciaaa
set_option linter.unusedVariables false
set_option maxRecDepth 100000
set_option linter.unusedSimpArgs false

section
variable (u v : Usr) (now : Int) (m : ByteArray)
theorem has_one (h : m = u.name) : hasU [u] m = true := by subst h; simp [hasU, namesU, hasL]
theorem has_one_no (h : m ≠ u.name) : hasU [u] m = false := by simp [hasU, namesU, hasL]; exact Ne.symm h
theorem at_one : atU [u] u.name = u := by
  have : idxU [u] u.name = 0 := by simp [idxU, namesU, idxL]
  unfold atU
  rw [this]
  rfl
theorem idx_one : idxU [u] u.name = 0 := by simp [idxU, namesU, idxL]
theorem put_one (x : Usr) : putU [u] u.name x = [x] := by unfold putU; rw [idx_one]; rfl
theorem fail_one : failB [u] u.name now = [failU u now] ∧ failT [u] u.name = lastU u := by
  unfold failB failT
  rw [has_one u u.name rfl, at_one, put_one]
  exact ⟨rfl, rfl⟩
theorem good_one : goodB [u] u.name = [goodU u] := by
  unfold goodB
  rw [has_one u u.name rfl, at_one, put_one]
  rfl
theorem locked_one : lockedT [u] u.name now = (u.locked && decide (now ≤ u.till)) := by
  unfold lockedT
  rw [has_one u u.name rfl, at_one]
  rfl
theorem fails_one : failsN [u] u.name = u.fails := by
  unfold failsN
  rw [has_one u u.name rfl, at_one]
  rfl
theorem none_one (h : m ≠ u.name) : failB [u] m now = [u] ∧ failT [u] m = false ∧ goodB [u] m = [u] ∧ lockedT [u] m now = false ∧ failsN [u] m = 0 := by
  unfold failB failT goodB lockedT failsN
  rw [has_one_no u m h]
  exact ⟨rfl, rfl, rfl, rfl, rfl⟩

theorem has_two_a : hasU [u, v] u.name = true := by simp [hasU, namesU, hasL]
theorem has_two_b : hasU [u, v] v.name = true := by simp [hasU, namesU, hasL]
theorem idx_two_a : idxU [u, v] u.name = 0 := by simp [idxU, namesU, idxL]
theorem idx_two_b (h : v.name ≠ u.name) : idxU [u, v] v.name = 1 := by
  simp [idxU, namesU, idxL, Ne.symm h]
theorem at_two_a : atU [u, v] u.name = u := by unfold atU; rw [idx_two_a]; rfl
theorem at_two_b (h : v.name ≠ u.name) : atU [u, v] v.name = v := by unfold atU; rw [idx_two_b u v h]; rfl
theorem fail_two : failB [u, v] u.name now = [failU u now, v] ∧ failT [u, v] u.name = lastU u := by
  unfold failB failT putU
  rw [has_two_a, at_two_a, idx_two_a]
  exact ⟨rfl, rfl⟩
theorem locked_two_a : lockedT [u, v] u.name now = (u.locked && decide (now ≤ u.till)) := by unfold lockedT; rw [has_two_a, at_two_a]; rfl
theorem locked_two_b (h : v.name ≠ u.name) : lockedT [u, v] v.name now = (v.locked && decide (now ≤ v.till)) := by unfold lockedT; rw [has_two_b, at_two_b u v h]; rfl
theorem fails_two_a : failsN [u, v] u.name = u.fails := by unfold failsN; rw [has_two_a, at_two_a]; rfl
theorem fails_two_b (h : v.name ≠ u.name) : failsN [u, v] v.name = v.fails := by unfold failsN; rw [has_two_b, at_two_b u v h]; rfl
end
theorem failU_less {u : Usr} {now : Int} (h : u.fails + 1 < 3) : failU u now = ⟨u.name, u.secret, u.fails + 1, u.locked, u.till⟩ ∧ lastU u = false := by
  unfold failU lastU
  rw [if_pos h]
  exact ⟨rfl, decide_eq_false (by omega)⟩
theorem failU_last {u : Usr} {now : Int} (h : ¬ u.fails + 1 < 3) : failU u now = ⟨u.name, u.secret, 0, true, min (now + 20) 9223372036854775807⟩ ∧ lastU u = true := by
  unfold failU lastU
  rw [if_neg h]
  exact ⟨rfl, decide_eq_true (by omega)⟩
/-- So many failures in a row, at one time. -/
def failTo (s n : ByteArray) (now : Int) (k : Nat) : Usr := ⟨n, s, k % 3, decide (3 ≤ k), if 3 ≤ k then now + 20 else 0⟩
theorem failTo_next (s n : ByteArray) (now : Int) (k : Nat) (h : now + 20 ≤ 9223372036854775807) : failU (failTo s n now k) now = failTo s n now (k + 1) ∧ lastU (failTo s n now k) = decide ((k + 1) % 3 = 0) := by
  by_cases h3 : k % 3 + 1 < 3
  · obtain ⟨e1, e2⟩ := failU_less (u := failTo s n now k) (now := now) h3
    rw [e1, e2]
    refine ⟨?_, (decide_eq_false (by omega)).symm⟩
    unfold failTo
    have e3 : (k + 1) % 3 = k % 3 + 1 := by omega
    by_cases h4 : 3 ≤ k
    · rw [e3, decide_eq_true h4, if_pos h4, decide_eq_true (show 3 ≤ k + 1 by omega), if_pos (show 3 ≤ k + 1 by omega)]
    · rw [e3, decide_eq_false h4, if_neg h4, decide_eq_false (show ¬ 3 ≤ k + 1 by omega), if_neg (show ¬ 3 ≤ k + 1 by omega)]
  · obtain ⟨e1, e2⟩ := failU_last (u := failTo s n now k) (now := now) h3
    rw [e1, e2]
    refine ⟨?_, (decide_eq_true (by omega)).symm⟩
    unfold failTo
    have e3 : (k + 1) % 3 = 0 := by omega
    rw [e3, decide_eq_true (show 3 ≤ k + 1 by omega), if_pos (show 3 ≤ k + 1 by omega), show min (now + 20) 9223372036854775807 = now + 20 by omega]
theorem users_one (n s : ByteArray) : usersOk [(n, s)] = userOkU n s := by
  unfold usersOk
  simp [nodupL, hasL]

theorem failTo_zero (s n : ByteArray) (now : Int) : failTo s n now 0 = ⟨n, s, 0, false, 0⟩ := rfl
theorem one_fail (s n : ByteArray) (now : Int) (k : Nat) (h : now + 20 ≤ 9223372036854775807) : failB [failTo s n now k] n now = [failTo s n now (k + 1)] ∧ failT [failTo s n now k] n = decide ((k + 1) % 3 = 0) := by
  obtain ⟨e1, e2⟩ := failTo_next s n now k h
  obtain ⟨f1, f2⟩ := fail_one (failTo s n now k) now
  rw [e1] at f1
  rw [e2] at f2
  exact ⟨f1, f2⟩
theorem one_locked (s n : ByteArray) (now t : Int) (k : Nat) : lockedT [failTo s n now k] n t = (decide (3 ≤ k) && decide (t ≤ now + 20)) := by
  refine (locked_one (failTo s n now k) t).trans ?_
  unfold failTo
  by_cases h : 3 ≤ k
  · simp only [decide_eq_true h, if_pos h]
  · simp only [decide_eq_false h, Bool.false_and]
theorem one_fails (s n : ByteArray) (now : Int) (k : Nat) : failsN [failTo s n now k] n = k % 3 := fails_one (failTo s n now k)
theorem one_good (s n : ByteArray) (now : Int) (k : Nat) (h : k < 3) : goodB [failTo s n now k] n = [failTo s n now 0] := by
  refine (good_one (failTo s n now k)).trans ?_
  unfold goodU failTo
  simp only [decide_eq_false (show ¬ 3 ≤ k by omega), if_neg (show ¬ 3 ≤ k by omega)]
  rfl
theorem two_fail (s n t m : ByteArray) (now : Int) (k : Nat) (h : now + 20 ≤ 9223372036854775807) : failB [failTo s n now k, failTo t m now 0] n now = [failTo s n now (k + 1), failTo t m now 0] := by
  obtain ⟨e1, e2⟩ := failTo_next s n now k h
  obtain ⟨f1, f2⟩ := fail_two (failTo s n now k) (failTo t m now 0) now
  rw [e1] at f1
  exact f1
theorem two_locked_a (s n t m : ByteArray) (now x : Int) (k : Nat) : lockedT [failTo s n now k, failTo t m now 0] n x = (decide (3 ≤ k) && decide (x ≤ now + 20)) := by
  refine (locked_two_a (failTo s n now k) (failTo t m now 0) x).trans ?_
  unfold failTo
  by_cases h : 3 ≤ k
  · simp only [decide_eq_true h, if_pos h]
  · simp only [decide_eq_false h, Bool.false_and]
theorem two_locked_b (s n t m : ByteArray) (now x : Int) (k : Nat) (h : m ≠ n) : lockedT [failTo s n now k, failTo t m now 0] m x = false := locked_two_b (failTo s n now k) (failTo t m now 0) x h
theorem two_fails_a (s n t m : ByteArray) (now : Int) (k : Nat) : failsN [failTo s n now k, failTo t m now 0] n = k % 3 := fails_two_a (failTo s n now k) (failTo t m now 0)
theorem two_fails_b (s n t m : ByteArray) (now : Int) (k : Nat) (h : m ≠ n) : failsN [failTo s n now k, failTo t m now 0] m = 0 := fails_two_b (failTo s n now k) (failTo t m now 0) h

end Go.Proofs.Ytjemklgfenciaaa
