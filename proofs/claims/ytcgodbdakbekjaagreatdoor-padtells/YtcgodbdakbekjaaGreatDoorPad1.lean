/-
  The contracts of the reference's Size, Pad and Unpad.
-/
import Derived.Test.YtcgodbdakbekjaaGreatDoorPad0
import Derived.Test.YtcgodbdakbekjaaGreatDoorRowI
import Derived.Test.YtcgodbdakbekjaaGreatDoorOct3
import Derived.Test.YtcgodbdakbekjaaGreatDoorOct5
import Derived.Test.YtcgodbdakbekjaaGreatDoorZer0
import Derived.Test.YtcgodbdakbekjaaGreatDoorStrEq
namespace Go.Proofs.YtcgodbdakbekjaaGreatDoor
open Go.RowKit
set_option linter.unusedVariables false
set_option maxRecDepth 100000
set_option linter.unusedSimpArgs false

theorem ret_is {x y : Int} {a b : Bool} (h : x = y) (h2 : a = b) : Ending.returned (.tuple #[.int .i64 x, .bool a]) = .returned (.tuple #[.int .i64 y, .bool b]) := by rw [h, h2]
/-- The first k sizes do not fit. -/
theorem size_at (n : Int) (k : Nat) (hk : k < 4) (h : ∀ j, j < k → ¬ (0 ≤ n ∧ n ≤ sizesL.getD j 0 - 2)) (hy : 0 ≤ n ∧ n ≤ sizesL.getD k 0 - 2) : sizeN n = sizesL.getD k 0 ∧ sizeOk n = true := by
  have h0 := h 0
  have h1 := h 1
  have h2 := h 2
  unfold sizesL at *
  unfold sizeN sizeOk
  match k, hk with
  | 0, _ => simp at hy ⊢; rw [if_neg (by omega), if_pos (by omega)]; omega
  | 1, _ => simp at hy h0 ⊢; rw [if_neg (by omega), if_neg (by omega), if_pos (by omega)]; omega
  | 2, _ => simp at hy h0 h1 ⊢; rw [if_neg (by omega), if_neg (by omega), if_neg (by omega), if_pos (by omega)]; omega
  | 3, _ => simp at hy h0 h1 h2 ⊢; rw [if_neg (by omega), if_neg (by omega), if_neg (by omega), if_neg (by omega), if_pos (by omega)]; omega
theorem size_none (n : Int) (h : ∀ j, j < 4 → ¬ (0 ≤ n ∧ n ≤ sizesL.getD j 0 - 2)) : sizeN n = 0 ∧ sizeOk n = false := by
  have h3 := h 3 (by omega)
  have hn : ¬ (0 ≤ n ∧ n ≤ 2046) := by simpa [sizesL] using h3
  exact ⟨sizeN_no n hn, decide_eq_false hn⟩

set_option maxHeartbeats 400000 in
theorem ref_size (n : Int) (w : World) (hn0 : -9223372036854775808 ≤ n) (hn1 : n ≤ 9223372036854775807) :
    Calls Tryz.prog 8 #[.int .i64 n] w fun e w' => e = .returned (.tuple #[.int .i64 (sizeN n), .bool (sizeOk n)]) ∧ Below w.heap.size w w' := by
  go_enter Tryz.func8, Tryz.ntmps8
  go_wp2_with fail
  have r0 : RowIs (w.alloc (.cells #[.int .i64 32, .int .i64 128, .int .i64 512, .int .i64 2048] 3)) w.heap.size 3 (cellsI sizesL) := RowIs.new w _ (cellsI sizesL)
  have b0 : Below w.heap.size w (w.alloc (.cells #[.int .i64 32, .int .i64 128, .int .i64 512, .int .i64 2048] 3)) := (Below.refl _ _).alloc (Nat.le_refl _) _
  generalize w.alloc (.cells #[.int .i64 32, .int .i64 128, .int .i64 512, .int .i64 2048] 3) = w1 at *
  go_loopw [5] (fun i wr => ∃ k : Nat, k ≤ 4 ∧ i = .int .i64 k ∧ (∀ j, j < k → ¬ (0 ≤ n ∧ n ≤ sizesL.getD j 0 - 2)) ∧ wr = w1) (fun i _ => 4 - (intOf i).toNat)
  case atStart => exact ⟨0, by omega, rfl, fun j hj => by omega, rfl⟩
  case round =>
    obtain ⟨k, hk, rfl, hno, rfl⟩ := hrel
    have HNO : Hid _ := hno
    clear hno
    by_cases hlt : k < 4
    · have hc : wr.cell? ⟨w.heap.size, k, none⟩ = some (.int .i64 (sizesL.getD k 0)) := r0.cellAt (cellsI_at sizesL k hlt)
      have hs : 32 ≤ sizesL.getD k 0 ∧ sizesL.getD k 0 ≤ 2048 := by
        match k, hlt with
        | 0, _ => decide
        | 1, _ => decide
        | 2, _ => decide
        | 3, _ => decide
      have d1 : decide ((k : Int) < 4) = true := by simp; omega
      have d2 : (k : Int) < 4 := by omega
      by_cases hy : 0 ≤ n ∧ n ≤ sizesL.getD k 0 - 2
      · have hsz := size_at n k hlt HNO.out hy
        have HZ : Hid _ := hsz
        have e1 : decide (0 ≤ n) = true := decide_eq_true hy.1
        have e2 : decide (n ≤ sizesL.getD k 0 - 2) = true := decide_eq_true hy.2
        clear hsz hy
        generalize sizesL.getD k 0 = Z at *
        go_wp2
        go_ret2
        exact ⟨ret_is HZ.out.1.symm HZ.out.2.symm, b0⟩
      · have HY : Hid _ := hy
        clear hy
        by_cases h0 : 0 ≤ n
        · have e1 : decide (0 ≤ n) = true := decide_eq_true h0
          have e2 : decide (n ≤ sizesL.getD k 0 - 2) = false := decide_eq_false (fun h => HY.out ⟨h0, h⟩)
          obtain ⟨Z, hZ⟩ : ∃ Z, sizesL.getD k 0 = Z := ⟨_, rfl⟩
          rw [hZ] at hc hs e2
          clear hZ
          go_wp2
          go_roundw
          case rel => exact ⟨k + 1, by omega, by go_num, fun j hj => by rcases Nat.lt_or_eq_of_le (Nat.le_of_lt_succ hj) with h | rfl; exact HNO.out j h; exact HY.out, by first | rfl | trivial⟩
          case measure => simp [intOf]; omega
        · have e1 : decide (0 ≤ n) = false := decide_eq_false h0
          clear hc hs
          go_wp2
          go_roundw
          case rel => exact ⟨k + 1, by omega, by go_num, fun j hj => by rcases Nat.lt_or_eq_of_le (Nat.le_of_lt_succ hj) with h | rfl; exact HNO.out j h; exact HY.out, by first | rfl | trivial⟩
          case measure => simp [intOf]; omega
    · obtain rfl : k = 4 := by omega
      have hsz := size_none n HNO.out
      go_wp2
      go_ret2
      exact ⟨ret_is hsz.1.symm hsz.2.symm, b0⟩

end Go.Proofs.YtcgodbdakbekjaaGreatDoor
