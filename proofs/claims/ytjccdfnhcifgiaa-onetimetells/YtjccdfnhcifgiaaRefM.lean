/-
  What lies above the 130th bit comes back five times: plain facts, and the contract of the reference's fold.
-/
import Derived.Test.YtjccdfnhcifgiaaRefL
namespace Go.Proofs.Ytjccdfnhcifgiaa
open Go.RowKit
set_option linter.unusedVariables false
set_option maxRecDepth 100000
set_option linter.unusedSimpArgs false

theorem valD_set (v : Int) : ∀ (l : List Int) (j : Nat), j < l.length → valD (l.set j v) = valD l + 256 ^ j * (v - l.getD j 0)
  | [], j, h => by simp at h
  | d :: l, 0, h => by simp [valD]; omega
  | d :: l, j + 1, h => by
    have := valD_set v l j (by simpa using h)
    simp only [List.set_cons_succ, valD, this, List.getD_cons_succ, Int.pow_succ]
    rw [Int.mul_add, Int.add_assoc, ← Int.mul_assoc, Int.mul_comm 256 (256 ^ j)]
theorem partsD_at : ∀ (l : List Int) (j : Nat), j < l.length → (partsD l).getD j 0 = l.getD j 0 / 4 + l.getD (j + 1) 0 % 4 * 64
  | [], j, h => by simp at h
  | d :: l, 0, h => by
    cases l with
    | nil => simp [partsD]
    | cons e m => simp [partsD]
  | d :: l, j + 1, h => by
    have := partsD_at l j (by simpa using h)
    simpa [partsD] using this
def lo130 (x : List Int) : Int := valD (x.take 16) + 256 ^ 16 * (x.getD 16 0 % 4)
def hi130 (x : List Int) : Int := valD (partsD (x.drop 16))
/-- The number so far, k digits in. -/
def foldV (x : List Int) (k : Nat) : Int := valD (x.take (min k 16)) + (if 16 < k then 256 ^ 16 * (x.getD 16 0 % 4) else 0) + 5 * valD ((partsD (x.drop 16)).take (k - 16))
def foldP (x : List Int) (k : Nat) : Int := x.getD k 0 / 4 + x.getD (k + 1) 0 % 4 * 64
def foldH (x : List Int) (k : Nat) : Bool := decide (0 < valD ((partsD (x.drop 16)).take (k - 16)))
theorem foldV_zero (x : List Int) : foldV x 0 = 0 := by simp [foldV, valD]
theorem foldH_zero (x : List Int) (k : Nat) (h : k ≤ 16) : foldH x k = false := by
  unfold foldH
  rw [Nat.sub_eq_zero_of_le h]
  simp [valD]
theorem foldV_low (x : List Int) (k : Nat) (hk : k < 16) (hl : k < x.length) : foldV x (k + 1) = foldV x k + 256 ^ k * x.getD k 0 := by
  unfold foldV
  rw [Nat.min_eq_left (by omega), Nat.min_eq_left (by omega), if_neg (by omega), if_neg (by omega), Nat.sub_eq_zero_of_le (by omega), Nat.sub_eq_zero_of_le (by omega), valD_take x k hl]
  omega
theorem parts_take (x : List Int) (k : Nat) (hk : 16 ≤ k) (hl : k < x.length) : valD ((partsD (x.drop 16)).take (k + 1 - 16)) = valD ((partsD (x.drop 16)).take (k - 16)) + 256 ^ (k - 16) * foldP x k := by
  rw [show k + 1 - 16 = (k - 16) + 1 from by omega, valD_take _ _ (by rw [partsD_len, List.length_drop]; omega), partsD_at _ _ (by rw [List.length_drop]; omega)]
  have e : ∀ i, (x.drop 16).getD i 0 = x.getD (16 + i) 0 := fun i => by rw [List.getD_eq_getElem?_getD, List.getElem?_drop, List.getD_eq_getElem?_getD]
  rw [e, e, show 16 + (k - 16) = k from by omega, show 16 + (k - 16 + 1) = k + 1 from by omega]
  rfl
theorem foldV_high (x : List Int) (k : Nat) (hk : 16 ≤ k) (hl : k < x.length) : foldV x (k + 1) = foldV x k + (if k = 16 then 256 ^ 16 * (x.getD 16 0 % 4) else 0) + 256 ^ (k - 16) * (5 * foldP x k) := by
  unfold foldV
  rw [Nat.min_eq_right (by omega), Nat.min_eq_right (by omega), parts_take x k hk hl, if_pos (by omega), Int.mul_add]
  have e : (5 : Int) * (256 ^ (k - 16) * foldP x k) = 256 ^ (k - 16) * (5 * foldP x k) := by ac_rfl
  rw [e]
  by_cases h : k = 16
  · rw [if_neg (by omega), if_pos h]; omega
  · rw [if_pos (by omega), if_neg h]; omega
theorem foldP_bd {x : List Int} (h : ∀ j, 0 ≤ x.getD j 0 ∧ x.getD j 0 < 256) (k : Nat) : 0 ≤ foldP x k ∧ foldP x k < 256 := by
  have h1 := h k
  have h2 := h (k + 1)
  unfold foldP
  omega
theorem allD_getD {x : List Int} (h : allD x) (j : Nat) : 0 ≤ x.getD j 0 ∧ x.getD j 0 < 256 := by
  by_cases hj : j < x.length
  · rw [List.getD_eq_getElem?_getD, List.getElem?_eq_getElem hj]
    exact h _ (List.getElem_mem hj)
  · rw [List.getD_eq_getElem?_getD, List.getElem?_eq_none (by omega)]
    exact ⟨Int.le_refl 0, show (0 : Int) < 256 by decide⟩
theorem parts_nonneg {x : List Int} (h : allD x) (k : Nat) : 0 ≤ valD ((partsD (x.drop 16)).take (k - 16)) :=
  valD_nonneg fun d hd => (partsD_nonneg (fun e he => h e (List.mem_of_mem_drop he)) d (List.mem_of_mem_take hd)).1
theorem foldH_next {x : List Int} (h : allD x) (k : Nat) (hk : 16 ≤ k) (hl : k < x.length) : foldH x (k + 1) = (foldH x k || decide (0 < foldP x k)) := by
  unfold foldH
  rw [parts_take x k hk hl]
  have h0 := parts_nonneg h k
  have hp := (foldP_bd (allD_getD h) k).1
  have hq : (0 : Int) < 256 ^ (k - 16) := Int.pow_pos (by decide)
  generalize valD ((partsD (x.drop 16)).take (k - 16)) = A at *
  generalize foldP x k = p at *
  by_cases hp2 : 0 < p
  · have h1 : (256 : Int) ^ (k - 16) * 1 ≤ 256 ^ (k - 16) * p := Int.mul_le_mul_of_nonneg_left (by omega) (Int.le_of_lt hq)
    rw [decide_eq_true hp2, Bool.or_true, decide_eq_true (by omega)]
  · have : p = 0 := by omega
    subst this
    rw [Int.mul_zero, Int.add_zero]
    simp
theorem foldV_end (x : List Int) (hl : 17 ≤ x.length) : foldV x x.length = lo130 x + 5 * hi130 x := by
  unfold foldV lo130 hi130
  rw [Nat.min_eq_right (by omega), if_pos (by omega), List.take_of_length_le (l := partsD (x.drop 16)) (by rw [partsD_len, List.length_drop]; omega)]
theorem foldH_end (x : List Int) : foldH x x.length = decide (0 < hi130 x) := by
  unfold foldH hi130
  rw [List.take_of_length_le (by rw [partsD_len, List.length_drop]; omega)]
theorem split_of {x : List Int} (h : allD x) (hl : 17 ≤ x.length) : valD x = lo130 x + 1361129467683753853853498429727072845824 * hi130 x ∧ (0 ≤ lo130 x ∧ lo130 x < 1361129467683753853853498429727072845824) ∧ 0 ≤ hi130 x :=
  ⟨split130 h hl, low130 h hl, valD_nonneg fun d hd => (partsD_nonneg (fun e he => h e (List.mem_of_mem_drop he)) d hd).1⟩

/-- The number of a row of numbers, as it lies in memory. -/
def rowV (w : World) (v : Value) : Nat :=
  match v with
  | .slice (some a) n _ => (valD ((List.range n).map fun j => match w.cell? ⟨a.block, j, none⟩ with | some (.int _ x) => x | _ => 0)).toNat
  | _ => 0
theorem rowV_is {w : World} {g n cap : Nat} {xs : List Int} (hn : xs.length = n) (h : ∀ j, j < n → w.cell? ⟨g, j, none⟩ = some (.int .i64 (xs.getD j 0))) : rowV w (.slice (some ⟨g, 0, none⟩) n cap) = (valD xs).toNat := by
  unfold rowV
  simp only
  congr 2
  apply List.ext_getElem?
  intro j
  by_cases hj : j < n
  · simp only [List.getElem?_map, List.getElem?_range hj, Option.map_some, h j hj]
    rw [List.getElem?_eq_getElem (by omega), List.getD_eq_getElem?_getD, List.getElem?_eq_getElem (by omega)]
    rfl
  · rw [List.getElem?_eq_none (by simp; omega), List.getElem?_eq_none (by omega)]

/-- The first eighteen of a row's numbers. -/
theorem OwnI.cut {w : World} {base g n cap : Nat} {l : List Int} (h : OwnI w base (.slice (some ⟨g, 0, none⟩) n cap) l) (m : Nat) (hn : n = l.length) (hm : m ≤ n) : OwnI w base (.slice (some ⟨g, 0, none⟩) m cap) (l.take m) := by
  subst hn
  rcases h.2 with ⟨hv, _⟩ | ⟨g', cap', cur, hv, hb, hh, hnc, hcm, hcs, ht⟩
  · cases hv
  · simp only [Value.slice.injEq, Option.some.injEq, Addr.mk.injEq, and_true, true_and] at hv
    obtain ⟨rfl, rfl⟩ := hv
    have hl : (l.take m).length = m := by rw [List.length_take]; omega
    refine ⟨by rw [cellsI_len, hl]; omega, Or.inr ⟨g, cap, cur, by rw [hl], hb, hh, by rw [hl]; omega, hcm, hcs, ?_⟩⟩
    rw [hl, cellsI, List.map_take]
    have : cur.toList.take (m * 1) = (cur.toList.take (l.length * 1)).take m := by rw [List.take_take]; congr 1; omega
    rw [this, ht]
    rfl

end Go.Proofs.Ytjccdfnhcifgiaa
