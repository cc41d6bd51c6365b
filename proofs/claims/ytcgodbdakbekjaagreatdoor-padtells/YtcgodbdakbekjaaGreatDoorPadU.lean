/-
  Plain mathematics for pad.Unpad: what the checks of its code come to.
-/
import Derived.Test.YtcgodbdakbekjaaGreatDoorPad0
import Derived.Lib.TrimByte
namespace Go.Proofs.YtcgodbdakbekjaaGreatDoor
open Go.RowKit
set_option linter.unusedVariables false
set_option maxRecDepth 100000
set_option linter.unusedSimpArgs false

theorem sizeN_four (n : Int) (h0 : 0 ≤ n) (h1 : n ≤ 2046) : sizeN n = 32 ∨ sizeN n = 128 ∨ sizeN n = 512 ∨ sizeN n = 2048 := by
  unfold sizeN
  rw [if_neg (by omega)]
  split
  · simp
  · split
    · simp
    · split
      · simp
      · simp
theorem unpadS_no (b : ByteArray) (h : unpadOk b = false) : unpadS b = ⟨#[]⟩ := by
  unfold unpadS
  rw [h]
  rfl
theorem body_size (b : ByteArray) (n : Nat) (h : n + 2 ≤ b.size) : (b.extract 2 (2 + n)).size = n := by
  rw [ByteArray.size_extract]
  omega
/-- What a padding must have. -/
theorem unpad_has (b : ByteArray) (h : unpadOk b = true) : headN b ≤ 2046 ∧ (b.size : Int) = sizeN (headN b : Int) := by
  obtain ⟨h2, hh, ho, hp⟩ := of_decide_eq_true h
  have hs := body_size b (headN b) hh
  have h1 : (b.extract 2 (2 + headN b)).size ≤ 2046 := of_decide_eq_true ho
  have e := padS_size _ h1
  rw [hp, hs] at e
  rw [hs] at h1
  have := sizeN_bd (headN b : Int) (by omega) (by omega)
  exact ⟨h1, by omega⟩
theorem unpad_no_len (b : ByteArray) (h : ¬ (headN b ≤ 2046 ∧ (b.size : Int) = sizeN (headN b : Int))) : unpadOk b = false ∧ unpadS b = ⟨#[]⟩ := by
  have : unpadOk b = false := by
    cases e : unpadOk b with
    | false => rfl
    | true => exact absurd (unpad_has b e) h
  exact ⟨this, unpadS_no b this⟩
theorem contains_sizes (x : Int) : sizesL.contains x = decide (x = 32 ∨ x = 128 ∨ x = 512 ∨ x = 2048) := by
  rw [Bool.eq_iff_iff]
  simp [sizesL]
theorem unpad_no_size (b : ByteArray) (h : sizesL.contains (b.size : Int) = false) : unpadOk b = false ∧ unpadS b = ⟨#[]⟩ := by
  rw [contains_sizes] at h
  have h' := of_decide_eq_false h
  refine unpad_no_len b fun hb => ?_
  have := sizeN_four (headN b : Int) (by omega) (by omega)
  omega
theorem put_head (b : ByteArray) (h : 2 ≤ b.size) : putBig (headN b : Int) 2 = b.data.toList.take 2 := by
  have hl : b.data.toList.length = b.size := by simp
  match hb : b.data.toList with
  | [] => rw [hb] at hl; simp at hl; omega
  | [x] => rw [hb] at hl; simp at hl; omega
  | x :: y :: r =>
    have hx := x.toNat_lt
    have hy := y.toNat_lt
    rw [head_list b x y r hb, putBig2]
    have h1 := byteOf_val ((x.toNat * 256 + y.toNat : Nat) : Int) 1
    have h0 := byteOf_val ((x.toNat * 256 + y.toNat : Nat) : Int) 0
    simp at h1 h0
    have e1 : byteOf ((x.toNat * 256 + y.toNat : Nat) : Int) 1 = x := UInt8.toNat_inj.1 (by simp; omega)
    have e0 : byteOf ((x.toNat * 256 + y.toNat : Nat) : Int) 0 = y := UInt8.toNat_inj.1 (by simp; omega)
    rw [e1, e0]
    rfl
theorem unpad_parts (b : ByteArray) (h1 : headN b ≤ 2046) (hs : (b.size : Int) = sizeN (headN b : Int)) :
    unpadOk b = decide (b.data.toList.drop (2 + headN b) = List.replicate (b.size - 2 - headN b) 0) := by
  have hbd := sizeN_bd (headN b : Int) (by omega) (by omega)
  have hz := body_size b (headN b) (by omega)
  have hl : b.data.toList.length = b.size := by simp
  have ht : (b.extract 2 (2 + headN b)).data.toList = (b.data.toList.drop 2).take (headN b) := by
    rw [ByteArray.data_extract, Array.toList_extract]
    simp [List.extract]
  have htl : ((b.data.toList.drop 2).take (headN b)).length = headN b := by simp; omega
  have hb : b.data.toList = b.data.toList.take 2 ++ (b.data.toList.drop 2).take (headN b) ++ b.data.toList.drop (2 + headN b) := by
    rw [List.append_assoc, ← List.drop_drop, List.take_append_drop, List.take_append_drop]
  have hok := padS_yes (b.extract 2 (2 + headN b)) (by omega)
  have hp : pad8L (b.extract 2 (2 + headN b)).data.toList = b.data.toList.take 2 ++ (b.data.toList.drop 2).take (headN b) ++ List.replicate (b.size - 2 - headN b) 0 := by
    unfold pad8L
    have hr : (sizeN (headN b : Int)).toNat - 2 - headN b = b.size - 2 - headN b := by omega
    rw [ht, htl, put_head b (by omega), hr]
  unfold unpadOk
  rw [Bool.eq_iff_iff, decide_eq_true_eq, decide_eq_true_eq]
  constructor
  · rintro ⟨_, _, _, h⟩
    rw [hok.2] at h
    have h' : pad8L (b.extract 2 (2 + headN b)).data.toList = b.data.toList := by
      have := congrArg (fun x : ByteArray => x.data.toList) h
      exact this
    rw [hp] at h'
    have h3 : b.data.toList.take 2 ++ (b.data.toList.drop 2).take (headN b) ++ List.replicate (b.size - 2 - headN b) 0 = b.data.toList.take 2 ++ (b.data.toList.drop 2).take (headN b) ++ b.data.toList.drop (2 + headN b) := h'.trans hb
    exact (List.append_cancel_left h3).symm
  · intro h
    refine ⟨by omega, by omega, hok.1, ?_⟩
    rw [hok.2, hp, ← h, ← hb]
    exact str_back b
theorem drop_nil (l : List UInt8) : l.dropWhile (· == 0) = [] ↔ ∀ x ∈ l, x = 0 := by
  induction l with
  | nil => simp
  | cons a r ih =>
    by_cases h : a = 0
    · simp [List.dropWhile, h, ih]
    · have hb : (a == 0) = false := by simpa using h
      simp [List.dropWhile, hb, h]
theorem trim_zeros (l : List UInt8) : Lib.trimB l 0 = [] ↔ l = List.replicate l.length 0 := by
  constructor
  · intro h
    have h2 : Lib.trimRightB l 0 = [] := by
      cases e : Lib.trimRightB l 0 with
      | nil => rfl
      | cons x r =>
        exfalso
        rw [Lib.trimB, e, Lib.trimLeftB, drop_nil] at h
        have hx : ∀ y ∈ x :: r, y = 0 := h
        rw [Lib.trimRightB] at e
        have e' : l.reverse.dropWhile (· == 0) = (x :: r).reverse := by rw [← e, List.reverse_reverse]
        cases e3 : (x :: r).reverse with
        | nil => simp at e3
        | cons z q =>
          rw [e3] at e'
          have hz : z = 0 := hx z (by rw [← List.mem_reverse, e3]; simp)
          have := List.head_dropWhile_not (p := (· == (0 : UInt8))) (l := l.reverse) (by rw [e']; simp)
          simp [e', hz] at this
    rw [Lib.trimRightB, List.reverse_eq_nil_iff, drop_nil] at h2
    exact List.eq_replicate_of_mem fun y hy => h2 y (by simpa using hy)
  · intro h
    rw [h, Lib.trimB, Lib.trimRightB]
    simp [Lib.trimLeftB]
/-- All that the code asks of bytes whose length fits. -/
theorem unpad_by_trim (b : ByteArray) (h1 : headN b ≤ 2046) (hs : (b.size : Int) = sizeN (headN b : Int)) :
    unpadOk b = decide (Lib.trimB (b.extract (2 + headN b) b.size).data.toList 0 = []) := by
  have hbd := sizeN_bd (headN b : Int) (by omega) (by omega)
  have hl : b.data.toList.length = b.size := by simp
  rw [unpad_parts b h1 hs, Bool.eq_iff_iff, decide_eq_true_eq, decide_eq_true_eq, Lib.extract_from]
  show _ ↔ Lib.trimB (b.data.toList.drop (2 + headN b)) 0 = []
  rw [trim_zeros]
  have : (b.data.toList.drop (2 + headN b)).length = b.size - 2 - headN b := by rw [List.length_drop, hl]; omega
  rw [this]

end Go.Proofs.YtcgodbdakbekjaaGreatDoor
