/-
  Plain mathematics of package window: what has been taken, the next one, those ahead.
-/
import Derived.Test.YtmpmhepaonifpaaProg
namespace Go.Proofs.Ytmpmhepaonifpaa
set_option linter.unusedVariables false
set_option maxRecDepth 100000
set_option linter.unusedSimpArgs false

/-- The first from n on that is not among T (so many are looked at). -/
def firstW (T : List Int) : Nat → Nat → Nat
  | 0, n => n
  | f + 1, n => if (n : Int) ∈ T then firstW T f (n + 1) else n
theorem firstW_ge (T : List Int) : ∀ f n, n ≤ firstW T f n
  | 0, n => Nat.le_refl _
  | f + 1, n => by
    unfold firstW
    split
    · exact Nat.le_trans (Nat.le_succ _) (firstW_ge T f (n + 1))
    · exact Nat.le_refl _
theorem firstW_le (T : List Int) : ∀ f n, firstW T f n ≤ n + f
  | 0, n => Nat.le_refl _
  | f + 1, n => by
    unfold firstW
    split
    · have := firstW_le T f (n + 1); omega
    · omega
theorem firstW_in (T : List Int) : ∀ f n (j : Nat), n ≤ j → j < firstW T f n → (j : Int) ∈ T
  | 0, n, j, h1, h2 => by unfold firstW at h2; omega
  | f + 1, n, j, h1, h2 => by
    unfold firstW at h2
    split at h2
    · rename_i h
      by_cases hj : j = n
      · subst hj; exact h
      · exact firstW_in T f (n + 1) j (by omega) h2
    · omega
theorem firstW_out (T : List Int) : ∀ (f n : Nat), (∀ x ∈ T, x < (n : Int) + (f : Int)) → ((firstW T f n : Nat) : Int) ∉ T
  | 0, n, h => fun hm => by have := h _ hm; unfold firstW at this; omega
  | f + 1, n, h => by
    unfold firstW
    split
    · exact firstW_out T f (n + 1) (fun x hx => by have := h x hx; push_cast; omega)
    · assumption
/-- It is the only one of the kind. -/
theorem firstW_is (T : List Int) (f n m : Nat) (hn : n ≤ m) (h1 : ∀ j : Nat, n ≤ j → j < m → (j : Int) ∈ T) (h2 : (m : Int) ∉ T) (hf : ∀ x ∈ T, x < (n : Int) + (f : Int)) : firstW T f n = m := by
  rcases Nat.lt_trichotomy (firstW T f n) m with h | h | h
  · exact absurd (h1 _ (firstW_ge T f n) h) (firstW_out T f n hf)
  · exact h
  · exact absurd (firstW_in T f n m hn h) h2

/-- What has been taken (T), and the least number that has not (n). -/
structure Wn where
  n : Nat
  T : List Int
def Wn.zero : Wn := ⟨0, []⟩
def Wn.may (s : Wn) (x : Int) : Bool := decide ((s.n : Int) ≤ x ∧ x < (s.n : Int) + 64 ∧ x ∉ s.T)
def Wn.take (s : Wn) (x : Int) : Wn := if s.may x = true then ⟨firstW (x :: s.T) 64 s.n, x :: s.T⟩ else s
def Wn.ahead (s : Wn) : List Int := ((List.range 64).map fun j : Nat => (s.n : Int) + (j : Int)).filter fun x => decide (x ∈ s.T)
structure Wn.Ok (s : Wn) : Prop where
  low : ∀ j : Nat, j < s.n → (j : Int) ∈ s.T
  out : (s.n : Int) ∉ s.T
  range : ∀ x ∈ s.T, 0 ≤ x ∧ x < (s.n : Int) + 64
theorem Wn.ok_zero : Wn.zero.Ok := ⟨fun j hj => absurd hj (Nat.not_lt_zero _), by simp [Wn.zero], by simp [Wn.zero]⟩
theorem Wn.may_iff (s : Wn) (x : Int) : s.may x = true ↔ (s.n : Int) ≤ x ∧ x < (s.n : Int) + 64 ∧ x ∉ s.T := by unfold Wn.may; exact decide_eq_true_iff
theorem Wn.take_yes {s : Wn} {x : Int} (h : s.may x = true) : s.take x = ⟨firstW (x :: s.T) 64 s.n, x :: s.T⟩ := by unfold Wn.take; rw [if_pos h]
theorem Wn.take_no {s : Wn} {x : Int} (h : s.may x = false) : s.take x = s := by unfold Wn.take; rw [h]; rfl
theorem Wn.take_ge (s : Wn) (x : Int) : s.n ≤ (s.take x).n ∧ (s.take x).n ≤ s.n + 64 := by
  cases h : s.may x with
  | true => rw [Wn.take_yes h]; exact ⟨firstW_ge _ _ _, firstW_le _ _ _⟩
  | false => rw [Wn.take_no h]; omega
theorem Wn.Ok.take {s : Wn} (h : s.Ok) (x : Int) : (s.take x).Ok := by
  cases hm : s.may x with
  | false => rw [Wn.take_no hm]; exact h
  | true =>
    obtain ⟨h1, h2, h3⟩ := (Wn.may_iff s x).1 hm
    have hge := firstW_ge (x :: s.T) 64 s.n
    have hr : ∀ y ∈ x :: s.T, y < (s.n : Int) + 64 := by
      intro y hy
      rcases List.mem_cons.1 hy with rfl | hy
      · exact h2
      · exact (h.range y hy).2
    rw [Wn.take_yes hm]
    refine ⟨fun j hj => ?_, firstW_out _ _ _ hr, fun y hy => ?_⟩
    · by_cases hjn : j < s.n
      · exact List.mem_cons_of_mem _ (h.low j hjn)
      · exact firstW_in (x :: s.T) 64 s.n j (by omega) hj
    · have h5 := hr y hy
      have h6 : 0 ≤ y := by
        rcases List.mem_cons.1 hy with rfl | hy
        · omega
        · exact (h.range y hy).1
      exact ⟨h6, by show y < ((firstW (x :: s.T) 64 s.n : Nat) : Int) + 64; omega⟩
theorem Wn.take_mem {s : Wn} {x y : Int} (h : y ∈ s.T) : y ∈ (s.take x).T := by
  cases hm : s.may x with
  | false => rw [Wn.take_no hm]; exact h
  | true => rw [Wn.take_yes hm]; exact List.mem_cons_of_mem _ h
theorem Wn.may_taken {s : Wn} {x : Int} (h : x ∈ s.T) : s.may x = false := by
  cases hm : s.may x with
  | false => rfl
  | true => exact absurd h ((Wn.may_iff s x).1 hm).2.2
theorem Wn.may_low {s : Wn} {x : Int} (h : x < (s.n : Int)) : s.may x = false := by
  cases hm : s.may x with
  | false => rfl
  | true => have := ((Wn.may_iff s x).1 hm).1; omega
theorem Wn.may_neg {s : Wn} {x : Int} (h : x < 0) : s.may x = false := Wn.may_low (by omega)

theorem Wn.ahead_mem {s : Wn} (h : s.Ok) {y : Int} (hy : y ∈ s.ahead) : (s.n : Int) < y ∧ y < (s.n : Int) + 64 ∧ y ∈ s.T := by
  obtain ⟨h1, h2⟩ := List.mem_filter.1 hy
  obtain ⟨j, hj, rfl⟩ := List.mem_map.1 h1
  have hj := List.mem_range.1 hj
  have h2 := of_decide_eq_true h2
  have h0 : j ≠ 0 := fun e => by subst e; exact h.out (by simpa using h2)
  exact ⟨by omega, by omega, h2⟩
theorem Wn.ahead_sorted (s : Wn) : s.ahead.Pairwise (· < ·) := by
  refine List.Pairwise.filter _ ?_
  rw [List.pairwise_map]
  exact List.pairwise_lt_range.imp fun h => by omega
theorem Wn.ahead_at (s : Wn) (i j : Nat) (hij : i < j) (hj : j < s.ahead.length) : s.ahead.getD i 0 < s.ahead.getD j 0 := by
  have h := List.pairwise_iff_getElem.1 s.ahead_sorted i j (by omega) hj hij
  rw [List.getD_eq_getElem?_getD, List.getD_eq_getElem?_getD, List.getElem?_eq_getElem (by omega), List.getElem?_eq_getElem hj]
  exact h
theorem Wn.ahead_len {s : Wn} (h : s.Ok) : s.ahead.length < 64 := by
  have e : s.ahead = ((List.range 63).map fun j : Nat => (s.n : Int) + 1 + (j : Int)).filter fun x => decide (x ∈ s.T) := by
    unfold Wn.ahead
    rw [show (64 : Nat) = 63 + 1 from rfl, List.range_succ_eq_map, List.map_cons, List.filter_cons]
    rw [if_neg (by simpa using h.out), List.map_map]
    have e2 : ((fun j : Nat => (s.n : Int) + (j : Int)) ∘ Nat.succ) = fun j : Nat => (s.n : Int) + 1 + (j : Int) := by
      funext j
      simp only [Function.comp]
      omega
    rw [e2]
  rw [e]
  refine Nat.lt_of_le_of_lt (List.length_filter_le _ _) ?_
  simp

/-- All that was taken lies ahead of the next one: the next one is taken. -/
theorem Wn.take_next {s : Wn} (h : s.Ok) (hT : ∀ x ∈ s.T, x < (s.n : Int)) : s.may (s.n : Int) = true ∧ (s.take (s.n : Int)).n = s.n + 1 ∧ ∀ x ∈ (s.take (s.n : Int)).T, x < ((s.n + 1 : Nat) : Int) := by
  have hm : s.may (s.n : Int) = true := (Wn.may_iff s _).2 ⟨by omega, by omega, h.out⟩
  rw [Wn.take_yes hm]
  refine ⟨hm, ?_, fun x hx => ?_⟩
  · refine firstW_is _ 64 s.n (s.n + 1) (by omega) (fun j h1 h2 => ?_) (fun hx => ?_) (fun x hx => ?_)
    · obtain rfl : j = s.n := by omega
      exact List.mem_cons_self ..
    · rcases List.mem_cons.1 hx with e | hx
      · omega
      · have := hT _ hx; omega
    · rcases List.mem_cons.1 hx with rfl | hx
      · omega
      · have := hT _ hx; omega
  · rcases List.mem_cons.1 hx with rfl | hx
    · omega
    · have := hT _ hx; omega
theorem Wn.ahead_nil {s : Wn} (hT : ∀ x ∈ s.T, x < (s.n : Int)) : s.ahead = [] := by
  unfold Wn.ahead
  rw [List.filter_eq_nil_iff]
  intro a ha
  obtain ⟨j, _, rfl⟩ := List.mem_map.1 ha
  simp only [decide_eq_true_eq]
  intro hm
  have := hT _ hm
  omega
/-- The next one is missing, k behind it are there. -/
structure Wn.Gap (s : Wn) (g k : Nat) : Prop where
  ok : s.Ok
  n : s.n = g
  all : ∀ x ∈ s.T, x < (g : Int) ∨ (g : Int) < x ∧ x ≤ (g : Int) + (k : Int)
  each : ∀ j : Nat, 1 ≤ j → j ≤ k → (g : Int) + (j : Int) ∈ s.T
theorem Wn.Gap.more {s : Wn} {g k : Nat} (h : s.Gap g k) (hk : k + 1 < 64) : s.may ((g : Int) + ((k + 1 : Nat) : Int)) = true ∧ (s.take ((g : Int) + ((k + 1 : Nat) : Int))).Gap g (k + 1) := by
  have hn := h.n
  have hm : s.may ((g : Int) + ((k + 1 : Nat) : Int)) = true := (Wn.may_iff s _).2 ⟨by omega, by omega, fun hx => by have := h.all _ hx; omega⟩
  refine ⟨hm, h.ok.take _, ?_, ?_, ?_⟩
  · rw [Wn.take_yes hm, ← hn]
    refine firstW_is _ 64 s.n s.n (Nat.le_refl _) (fun j h1 h2 => absurd h1 (by omega)) (fun hx => ?_) (fun x hx => ?_)
    · rcases List.mem_cons.1 hx with e | hx
      · omega
      · exact h.ok.out hx
    · rcases List.mem_cons.1 hx with rfl | hx
      · omega
      · have := h.all _ hx; omega
  · intro x hx
    rw [Wn.take_yes hm] at hx
    rcases List.mem_cons.1 hx with rfl | hx
    · omega
    · have := h.all _ hx; omega
  · intro j h1 h2
    rw [Wn.take_yes hm]
    by_cases hj : j = k + 1
    · subst hj; exact List.mem_cons_self ..
    · exact List.mem_cons_of_mem _ (h.each j h1 (by omega))
theorem count_run : ∀ k : Fin 64, ((List.range 64).filter fun j => decide (1 ≤ j ∧ j ≤ k.val)).length = k.val := by decide +kernel
theorem Wn.Gap.ahead {s : Wn} {g k : Nat} (h : s.Gap g k) (hk : k < 64) : s.ahead.length = k := by
  unfold Wn.ahead
  rw [List.filter_map, List.length_map]
  refine Eq.trans (congrArg List.length ?_) (count_run ⟨k, hk⟩)
  apply List.filter_congr
  intro j hj
  have hn := h.n
  simp only [Function.comp]
  rw [decide_eq_decide]
  constructor
  · intro hx
    have := h.all _ hx
    omega
  · rintro ⟨h1, h2⟩
    rw [hn]
    exact h.each j h1 h2
/-- It comes: all are behind. -/
theorem Wn.Gap.fill {s : Wn} {g k : Nat} (h : s.Gap g k) (hk : k < 64) : s.may (g : Int) = true ∧ (s.take (g : Int)).n = g + k + 1 ∧ (s.take (g : Int)).ahead = [] := by
  have hn := h.n
  have hm : s.may (g : Int) = true := (Wn.may_iff s _).2 ⟨by omega, by omega, by rw [← hn]; exact h.ok.out⟩
  have e : (s.take (g : Int)).n = g + k + 1 := by
    rw [Wn.take_yes hm]
    refine firstW_is _ 64 s.n (g + k + 1) (by omega) (fun j h1 h2 => ?_) (fun hx => ?_) (fun x hx => ?_)
    · by_cases hj : j = g
      · subst hj; exact List.mem_cons_self ..
      · refine List.mem_cons_of_mem _ ?_
        have := h.each (j - g) (by omega) (by omega)
        rwa [show (g : Int) + ((j - g : Nat) : Int) = (j : Int) by omega] at this
    · rcases List.mem_cons.1 hx with e | hx
      · omega
      · have := h.all _ hx; omega
    · rcases List.mem_cons.1 hx with rfl | hx
      · omega
      · have := h.all _ hx; omega
  refine ⟨hm, e, Wn.ahead_nil fun x hx => ?_⟩
  rw [e]
  rw [Wn.take_yes hm] at hx
  rcases List.mem_cons.1 hx with rfl | hx
  · omega
  · have := h.all _ hx; omega

end Go.Proofs.Ytmpmhepaonifpaa
