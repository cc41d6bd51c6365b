/-
  Plain mathematics for chapter 9, on texts: what comes in parts, what was laid.
-/
import Derived.Test.YtkjdklicgbjkpaaFra1
namespace Go.Proofs.Ytkjdklicgbjkpaa
open Go.RowKit
set_option linter.unusedVariables false
set_option maxRecDepth 100000
set_option linter.unusedSimpArgs false

theorem cat_list (a b : ByteArray) : (a ++ b).data.toList = a.data.toList ++ b.data.toList := by simp
theorem fr_app (a b : ByteArray) (h : deadS a = false) : framesS (a ++ b) = framesS a ++ framesS (leftS a ++ b) ∧ leftS (a ++ b) = leftS (leftS a ++ b) ∧ deadS (a ++ b) = deadS (leftS a ++ b) := by
  have e := frames_append _ a.data.toList b.data.toList (Nat.le_refl _) h
  have e2 : (leftS a ++ b).data.toList = (frames a.data.toList).2.1 ++ b.data.toList := by rw [cat_list]; rfl
  refine ⟨?_, ?_, ?_⟩
  · unfold framesS; rw [cat_list, e, e2]; simp
  · unfold leftS; rw [cat_list, e]; rw [show (str (frames a.data.toList).2.1 ++ b).data.toList = (frames a.data.toList).2.1 ++ b.data.toList from e2]
  · unfold deadS; rw [cat_list, e, e2]
theorem fr_dead (a b : ByteArray) (h : deadS a = true) : deadS (a ++ b) = true := by
  have e := frames_dead _ a.data.toList b.data.toList (Nat.le_refl _) h
  unfold deadS
  rw [cat_list, e.1]
theorem fr_put (b c : ByteArray) (h1 : 1 ≤ b.size) (h2 : b.size ≤ 2200) : framesS (putFS b ++ c) = b :: framesS c ∧ leftS (putFS b ++ c) = leftS c ∧ deadS (putFS b ++ c) = deadS c := by
  have hl : b.data.toList.length = b.size := by simp
  have e := frames_put b.data.toList c.data.toList (by omega) (by omega)
  have e2 : (putFS b ++ c).data.toList = putFL b.data.toList ++ c.data.toList := by rw [cat_list, (putFS_yes b h1 h2).2.1]; rfl
  unfold framesS leftS deadS
  rw [e2, e]
  exact ⟨by simp [str_back], rfl, rfl⟩
theorem cat_none (a : ByteArray) : a ++ (⟨#[]⟩ : ByteArray) = a := by
  rw [← str_back (a ++ ⟨#[]⟩), cat_list]
  simp [str_back]
theorem none_cat (a : ByteArray) : (⟨#[]⟩ : ByteArray) ++ a = a := by
  rw [← str_back ((⟨#[]⟩ : ByteArray) ++ a), cat_list]
  simp [str_back]
theorem fr_none : framesS ⟨#[]⟩ = [] ∧ leftS ⟨#[]⟩ = ⟨#[]⟩ ∧ deadS ⟨#[]⟩ = false := ⟨rfl, rfl, rfl⟩
theorem fr_put1 (b : ByteArray) (h1 : 1 ≤ b.size) (h2 : b.size ≤ 2200) : framesS (putFS b) = [b] ∧ leftS (putFS b) = ⟨#[]⟩ ∧ deadS (putFS b) = false := by
  have e := fr_put b ⟨#[]⟩ h1 h2
  rw [cat_none] at e
  exact e
theorem fr_wait (b : ByteArray) (k : Nat) (h1 : 1 ≤ b.size) (h2 : b.size ≤ 2200) (hk : k < b.size + 2) : framesS ((putFS b).extract 0 k) = [] ∧ leftS ((putFS b).extract 0 k) = (putFS b).extract 0 k ∧ deadS ((putFS b).extract 0 k) = false := by
  have hl : b.data.toList.length = b.size := by simp
  have e := frames_wait b.data.toList k (by omega) (by omega) (by omega)
  have e2 : ((putFS b).extract 0 k).data.toList = (putFL b.data.toList).take k := by
    rw [ByteArray.data_extract, Array.toList_extract, (putFS_yes b h1 h2).2.1]
    simp [List.extract, str]
  have e3 : (putFS b).extract 0 k = str ((putFL b.data.toList).take k) := by rw [← e2, str_back]
  unfold framesS leftS deadS
  rw [e2, e]
  exact ⟨rfl, e3.symm, rfl⟩
theorem left_lt (s : ByteArray) : (leftS s).size ≤ s.size ∧ (leftS s).size < 2202 := by
  have e := frames_left _ s.data.toList (Nat.le_refl _)
  unfold leftS
  rw [str_size]
  exact ⟨by simpa using e.1, e.2⟩
theorem dead_left (s : ByteArray) (h : deadS s = true) : leftS s = ⟨#[]⟩ := by
  have e := frames_dead _ s.data.toList [] (Nat.le_refl _) h
  unfold leftS
  rw [e.2]
  rfl
/-- So many frames at most as bytes came. -/
theorem framesF_many : ∀ (f : Nat) (l : List UInt8), (framesF f l).1.length ≤ l.length
  | 0, l => by simp [framesF]
  | f + 1, [] => by simp [framesF]
  | f + 1, [a] => by simp [framesF]
  | f + 1, a :: b :: r => by
    have ih := framesF_many f (r.drop (a.toNat * 256 + b.toNat))
    rw [List.length_drop] at ih
    simp only [framesF]
    split
    · simp
    · split
      · simp
      · simp only [List.length_cons]; omega
theorem many_frames (s : ByteArray) : (framesS s).length ≤ s.size := by
  have := framesF_many s.data.toList.length s.data.toList
  unfold framesS frames
  rw [List.length_map]
  simpa using this
/-- A text of two bytes that tell a length which may not be. -/
theorem fr_two (n : Nat) (hn : n = 0 ∨ 2200 < n) (h : n < 65536) : framesS (str [byteOf (n : Int) 1, byteOf (n : Int) 0]) = [] ∧ leftS (str [byteOf (n : Int) 1, byteOf (n : Int) 0]) = ⟨#[]⟩ ∧ deadS (str [byteOf (n : Int) 1, byteOf (n : Int) 0]) = true := by
  have e : headN (str [byteOf (n : Int) 1, byteOf (n : Int) 0]) = n := by
    rw [head_list _ (byteOf (n : Int) 1) (byteOf (n : Int) 0) [] rfl, frame_number n h]
  exact frames_bad _ (by rw [str_size]; exact Nat.le_refl _) (by rw [e]; exact hn)

end Go.Proofs.Ytkjdklicgbjkpaa
