/-
  A Window in memory, plain: sixty-five cells, the first number that has not come and, for each number that is near, whether it has.
-/
import Derived.Test.YtmpmhepaonifpaaWin0
namespace Go.Proofs.Ytmpmhepaonifpaa
set_option linter.unusedVariables false
set_option maxRecDepth 100000
set_option linter.unusedSimpArgs false

/-- The cells of a Window. -/
def winRow (n : Nat) (B : List Bool) : List Value := .int .i64 (n : Int) :: B.map Value.bool
theorem winRow_zero (n : Nat) (B : List Bool) : (winRow n B)[0]? = some (.int .i64 (n : Int)) := rfl
theorem winRow_at (n : Nat) (B : List Bool) (j : Nat) (h : j < B.length) : (winRow n B)[1 + j]? = some (.bool (B.getD j false)) := by
  unfold winRow
  rw [Nat.add_comm, List.getElem?_cons_succ, List.getElem?_map, List.getElem?_eq_getElem h, List.getD_eq_getElem?_getD, List.getElem?_eq_getElem h]
  rfl
theorem winRow_set (n : Nat) (B : List Bool) (j : Nat) (v : Bool) : (winRow n B).set (1 + j) (.bool v) = winRow n (B.set j v) := by
  unfold winRow
  rw [Nat.add_comm, List.set_cons_succ, List.map_set]
theorem winRow_next (n m : Nat) (B : List Bool) : (winRow n B).set 0 (.int .i64 (m : Int)) = winRow m B := rfl

/-- Each of the sixty-four numbers from n on has a place of its own, which tells whether it is among T. -/
structure Places (n : Nat) (T : List Int) (B : List Bool) : Prop where
  len : B.length = 64
  at_ : ∀ j : Nat, j < 64 → B.getD ((n + j) % 64) false = decide ((n : Int) + (j : Int) ∈ T)
theorem place_near (n m : Nat) (h : n ≤ m) (h2 : m < n + 64) : ∃ j : Nat, j < 64 ∧ m = n + j := ⟨m - n, by omega, by omega⟩
theorem places_tell {n : Nat} {T : List Int} {B : List Bool} (h : Places n T B) (m : Nat) (h1 : n ≤ m) (h2 : m < n + 64) : B.getD (m % 64) false = decide ((m : Int) ∈ T) := by
  obtain ⟨j, hj, rfl⟩ := place_near n m h1 h2
  rw [h.at_ j hj]
  push_cast
  rfl
theorem places_zero : Places 0 [] (List.replicate 64 false) := by
  refine ⟨List.length_replicate, fun j hj => ?_⟩
  rw [List.getD_eq_getElem?_getD, List.getElem?_replicate, if_pos (by omega)]
  simp
theorem getD_set_self (B : List Bool) (i : Nat) (v : Bool) (h : i < B.length) : (B.set i v).getD i false = v := by
  rw [List.getD_eq_getElem?_getD, List.getElem?_set_self h]; rfl
theorem getD_set_other (B : List Bool) (i j : Nat) (v : Bool) (h : i ≠ j) : (B.set i v).getD j false = B.getD j false := by
  rw [List.getD_eq_getElem?_getD, List.getElem?_set_ne h, ← List.getD_eq_getElem?_getD]
/-- One that is near has come. -/
theorem places_come {n : Nat} {T : List Int} {B : List Bool} (h : Places n T B) (m : Nat) (h1 : n ≤ m) (h2 : m < n + 64) : Places n ((m : Int) :: T) (B.set (m % 64) true) := by
  refine ⟨by rw [List.length_set]; exact h.len, fun j hj => ?_⟩
  by_cases e : m = n + j
  · subst e
    rw [getD_set_self _ _ _ (by rw [h.len]; omega)]
    exact (decide_eq_true (by rw [← Int.natCast_add]; exact List.mem_cons_self ..)).symm
  · rw [getD_set_other _ _ _ _ (by omega), h.at_ j hj, decide_eq_decide, List.mem_cons]
    constructor
    · exact Or.inr
    · rintro (hx | hx)
      · omega
      · exact hx
/-- One place further: the place is free for the number sixty-four ahead. -/
theorem places_step {n : Nat} {T : List Int} {B : List Bool} (h : Places n T B) (hT : ((n + 64 : Nat) : Int) ∉ T) : Places (n + 1) T (B.set (n % 64) false) := by
  refine ⟨by rw [List.length_set]; exact h.len, fun j hj => ?_⟩
  by_cases e : j = 63
  · subst e
    rw [show (n + 1 + 63) % 64 = n % 64 by omega, getD_set_self _ _ _ (by rw [h.len]; omega)]
    refine (decide_eq_false (fun hx => hT ?_)).symm
    rw [show ((n + 64 : Nat) : Int) = ((n + 1 : Nat) : Int) + ((63 : Nat) : Int) by omega]
    exact hx
  · rw [getD_set_other _ _ _ _ (by omega), show n + 1 + j = n + (j + 1) by omega, h.at_ (j + 1) (by omega)]
    rw [show ((n + 1 : Nat) : Int) + (j : Int) = (n : Int) + ((j + 1 : Nat) : Int) by omega]

/-- Those among the first i from n on that are among T, in their order. -/
def aheadTo (n : Nat) (T : List Int) (i : Nat) : List Int := ((List.range i).map fun j : Nat => (n : Int) + (j : Int)).filter fun x => decide (x ∈ T)
theorem aheadTo_zero (n : Nat) (T : List Int) : aheadTo n T 0 = [] := rfl
theorem aheadTo_all (s : Wn) : aheadTo s.n s.T 64 = s.ahead := rfl
theorem aheadTo_yes {n : Nat} {T : List Int} {i : Nat} (h : ((n + i : Nat) : Int) ∈ T) : aheadTo n T (i + 1) = aheadTo n T i ++ [((n + i : Nat) : Int)] := by
  unfold aheadTo
  rw [List.range_succ, List.map_append, List.filter_append]
  congr 1
  simp only [List.map_cons, List.map_nil]
  rw [List.filter_cons, if_pos (by simpa using h)]
  simp
theorem aheadTo_no {n : Nat} {T : List Int} {i : Nat} (h : ¬ ((n + i : Nat) : Int) ∈ T) : aheadTo n T (i + 1) = aheadTo n T i := by
  unfold aheadTo
  rw [List.range_succ, List.map_append, List.filter_append]
  simp only [List.map_cons, List.map_nil]
  rw [List.filter_cons, if_neg (by simpa using h)]
  simp
theorem aheadTo_len (n : Nat) (T : List Int) (i : Nat) : (aheadTo n T i).length ≤ i := by
  unfold aheadTo
  refine Nat.le_trans (List.length_filter_le _ _) ?_
  simp

theorem tmod_place (x : Nat) : Int.tmod (x : Int) 64 = ((x % 64 : Nat) : Int) := by
  rw [Int.tmod_eq_emod_of_nonneg (by omega)]
  omega

end Go.Proofs.Ytmpmhepaonifpaa
