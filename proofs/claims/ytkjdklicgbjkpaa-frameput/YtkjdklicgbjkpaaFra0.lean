/-
  Plain mathematics for chapter 9 (frame): a stream cut into frames.
-/
import Derived.Test.YtkjdklicgbjkpaaOct4
namespace Go.Proofs.Ytkjdklicgbjkpaa
open Go.RowKit
set_option linter.unusedVariables false
set_option maxRecDepth 100000
set_option linter.unusedSimpArgs false

/-- The frames at the beginning of bytes, what is left, whether a length that follows may not be (at most f frames). -/
def framesF : Nat → List UInt8 → List (List UInt8) × List UInt8 × Bool
  | 0, l => ([], l, false)
  | f + 1, l => match l with
    | a :: b :: r =>
      if a.toNat * 256 + b.toNat = 0 ∨ 2200 < a.toNat * 256 + b.toNat then ([], [], true)
      else if r.length < a.toNat * 256 + b.toNat then ([], a :: b :: r, false)
      else (r.take (a.toNat * 256 + b.toNat) :: (framesF f (r.drop (a.toNat * 256 + b.toNat))).1, (framesF f (r.drop (a.toNat * 256 + b.toNat))).2)
    | [a] => ([], [a], false)
    | [] => ([], [], false)
def frames (l : List UInt8) : List (List UInt8) × List UInt8 × Bool := framesF l.length l
theorem framesF_enough : ∀ (f g : Nat) (l : List UInt8), l.length ≤ f → l.length ≤ g → framesF f l = framesF g l
  | 0, 0, l, _, _ => rfl
  | 0, g + 1, l, h, _ => by
    have : l = [] := List.eq_nil_of_length_eq_zero (by omega)
    subst this; rfl
  | f + 1, 0, l, _, h => by
    have : l = [] := List.eq_nil_of_length_eq_zero (by omega)
    subst this; rfl
  | f + 1, g + 1, [], _, _ => rfl
  | f + 1, g + 1, [a], _, _ => rfl
  | f + 1, g + 1, a :: b :: r, h1, h2 => by
    simp only [List.length_cons] at h1 h2
    have := framesF_enough f g (r.drop (a.toNat * 256 + b.toNat)) (by rw [List.length_drop]; omega) (by rw [List.length_drop]; omega)
    simp only [framesF, this]
/-- One step. -/
theorem frames_two (a b : UInt8) (r : List UInt8) : frames (a :: b :: r) =
    if a.toNat * 256 + b.toNat = 0 ∨ 2200 < a.toNat * 256 + b.toNat then ([], [], true)
    else if r.length < a.toNat * 256 + b.toNat then ([], a :: b :: r, false)
    else (r.take (a.toNat * 256 + b.toNat) :: (frames (r.drop (a.toNat * 256 + b.toNat))).1, (frames (r.drop (a.toNat * 256 + b.toNat))).2) := by
  have e := framesF_enough (r.length + 1) (r.drop (a.toNat * 256 + b.toNat)).length (r.drop (a.toNat * 256 + b.toNat)) (by rw [List.length_drop]; omega) (Nat.le_refl _)
  have e' : frames (r.drop (a.toNat * 256 + b.toNat)) = framesF (r.length + 1) (r.drop (a.toNat * 256 + b.toNat)) := e.symm
  rw [e']
  rfl
theorem frames_nil : frames [] = ([], [], false) := rfl
theorem frames_one (a : UInt8) : frames [a] = ([], [a], false) := rfl
/-- What comes in parts. -/
theorem frames_append : ∀ (n : Nat) (a b : List UInt8), a.length ≤ n → (frames a).2.2 = false → frames (a ++ b) = ((frames a).1 ++ (frames ((frames a).2.1 ++ b)).1, (frames ((frames a).2.1 ++ b)).2)
  | n, [], b, _, _ => by simp [frames_nil]
  | n, [x], b, _, _ => by simp [frames_one]
  | 0, x :: y :: r, b, h, _ => by simp at h
  | n + 1, x :: y :: r, b, h, hd => by
    rw [frames_two] at hd
    by_cases h1 : x.toNat * 256 + y.toNat = 0 ∨ 2200 < x.toNat * 256 + y.toNat
    · rw [if_pos h1] at hd
      cases hd
    · by_cases h2 : r.length < x.toNat * 256 + y.toNat
      · have e : frames (x :: y :: r) = ([], x :: y :: r, false) := by rw [frames_two, if_neg h1, if_pos h2]
        rw [e]
        simp
      · rw [if_neg h1, if_neg h2] at hd
        have ih := frames_append n (r.drop (x.toNat * 256 + y.toNat)) b (by simp only [List.length_cons] at h; rw [List.length_drop]; omega) hd
        have e : frames (x :: y :: r) = (r.take (x.toNat * 256 + y.toNat) :: (frames (r.drop (x.toNat * 256 + y.toNat))).1, (frames (r.drop (x.toNat * 256 + y.toNat))).2) := by rw [frames_two, if_neg h1, if_neg h2]
        have e2 : frames ((x :: y :: r) ++ b) = (r.take (x.toNat * 256 + y.toNat) :: (frames (r.drop (x.toNat * 256 + y.toNat) ++ b)).1, (frames (r.drop (x.toNat * 256 + y.toNat) ++ b)).2) := by
          show frames (x :: y :: (r ++ b)) = _
          rw [frames_two, if_neg h1, if_neg (by rw [List.length_append]; omega), List.take_append_of_le_length (by omega), List.drop_append_of_le_length (by omega)]
        rw [e2, ih, e]
        simp
/-- Dead it stays. -/
theorem frames_dead : ∀ (n : Nat) (a b : List UInt8), a.length ≤ n → (frames a).2.2 = true → frames (a ++ b) = ((frames a).1, [], true) ∧ (frames a).2.1 = []
  | n, [], b, _, h => by simp [frames_nil] at h
  | n, [x], b, _, h => by simp [frames_one] at h
  | 0, x :: y :: r, b, h, _ => by simp at h
  | n + 1, x :: y :: r, b, h, hd => by
    by_cases h1 : x.toNat * 256 + y.toNat = 0 ∨ 2200 < x.toNat * 256 + y.toNat
    · have e : ∀ s, frames (x :: y :: s) = ([], [], true) := fun s => by rw [frames_two, if_pos h1]
      rw [e r]
      exact ⟨e (r ++ b), rfl⟩
    · by_cases h2 : r.length < x.toNat * 256 + y.toNat
      · rw [frames_two, if_neg h1, if_pos h2] at hd
        cases hd
      · have e : frames (x :: y :: r) = (r.take (x.toNat * 256 + y.toNat) :: (frames (r.drop (x.toNat * 256 + y.toNat))).1, (frames (r.drop (x.toNat * 256 + y.toNat))).2) := by rw [frames_two, if_neg h1, if_neg h2]
        rw [e] at hd
        have ih := frames_dead n (r.drop (x.toNat * 256 + y.toNat)) b (by simp only [List.length_cons] at h; rw [List.length_drop]; omega) hd
        have e2 : frames ((x :: y :: r) ++ b) = (r.take (x.toNat * 256 + y.toNat) :: (frames (r.drop (x.toNat * 256 + y.toNat) ++ b)).1, (frames (r.drop (x.toNat * 256 + y.toNat) ++ b)).2) := by
          show frames (x :: y :: (r ++ b)) = _
          rw [frames_two, if_neg h1, if_neg (by rw [List.length_append]; omega), List.take_append_of_le_length (by omega), List.drop_append_of_le_length (by omega)]
        rw [e2, e, ih.1]
        exact ⟨by simp, ih.2⟩
/-- A frame. -/
def putFL (b : List UInt8) : List UInt8 := putBig (b.length : Int) 2 ++ b
def putFOk (b : ByteArray) : Bool := decide (1 ≤ b.size ∧ b.size ≤ 2200)
def putFS (b : ByteArray) : ByteArray := if putFOk b then str (putFL b.data.toList) else ⟨#[]⟩
theorem putFL_is (b : List UInt8) : putFL b = byteOf (b.length : Int) 1 :: byteOf (b.length : Int) 0 :: b := by
  unfold putFL putBig
  rw [if_pos (by decide)]
  rfl
theorem putFL_len (b : List UInt8) : (putFL b).length = b.length + 2 := by rw [putFL_is]; simp
theorem frame_number (n : Nat) (h : n < 65536) : (byteOf (n : Int) 1).toNat * 256 + (byteOf (n : Int) 0).toNat = n := by
  have h1 := byteOf_val (n : Int) 1
  have h0 := byteOf_val (n : Int) 0
  simp at h1 h0
  omega
/-- A frame is read as it is laid. -/
theorem frames_put (b c : List UInt8) (h1 : 1 ≤ b.length) (h2 : b.length ≤ 2200) : frames (putFL b ++ c) = (b :: (frames c).1, (frames c).2) := by
  rw [putFL_is]
  show frames (_ :: _ :: (b ++ c)) = _
  rw [frames_two, frame_number b.length (by omega), if_neg (by omega), if_neg (by rw [List.length_append]; omega)]
  simp
/-- Its beginnings wait. -/
theorem frames_wait (b : List UInt8) (k : Nat) (h1 : 1 ≤ b.length) (h2 : b.length ≤ 2200) (hk : k < b.length + 2) : frames ((putFL b).take k) = ([], (putFL b).take k, false) := by
  rw [putFL_is]
  match k with
  | 0 => rfl
  | 1 => rfl
  | j + 2 =>
    show frames (_ :: _ :: b.take j) = _
    rw [frames_two, frame_number b.length (by omega), if_neg (by omega), if_pos (by rw [List.length_take]; omega)]
    rfl
/-- No more of a stream waits than came. -/
theorem frames_left : ∀ (n : Nat) (a : List UInt8), a.length ≤ n → (frames a).2.1.length ≤ a.length ∧ (frames a).2.1.length < 2202
  | n, [], _ => by simp [frames_nil]
  | n, [x], _ => by simp [frames_one]
  | 0, x :: y :: r, h => by simp at h
  | n + 1, x :: y :: r, h => by
    rw [frames_two]
    by_cases h1 : x.toNat * 256 + y.toNat = 0 ∨ 2200 < x.toNat * 256 + y.toNat
    · rw [if_pos h1]; simp
    · rw [if_neg h1]
      by_cases h2 : r.length < x.toNat * 256 + y.toNat
      · rw [if_pos h2]; simp; omega
      · rw [if_neg h2]
        have ih := frames_left n (r.drop (x.toNat * 256 + y.toNat)) (by simp only [List.length_cons] at h; rw [List.length_drop]; omega)
        rw [List.length_drop] at ih
        simp only [List.length_cons]
        omega

end Go.Proofs.Ytkjdklicgbjkpaa
