/-
  Plain mathematics for chapter 8 (pad): the four sizes, what is filled up, and back.
-/
import Derived.Test.YtkjdklicgbjkpaaOct4
namespace Go.Proofs.Ytkjdklicgbjkpaa
open Go.RowKit
set_option linter.unusedVariables false
set_option maxRecDepth 100000
set_option linter.unusedSimpArgs false

def sizesL : List Int := [32, 128, 512, 2048]
/-- The least size that fits, or 0. -/
def sizeN (n : Int) : Int := if n < 0 then 0 else if n ≤ 30 then 32 else if n ≤ 126 then 128 else if n ≤ 510 then 512 else if n ≤ 2046 then 2048 else 0
def sizeOk (n : Int) : Bool := decide (0 ≤ n ∧ n ≤ 2046)
theorem sizeN_bd (n : Int) (h0 : 0 ≤ n) (h1 : n ≤ 2046) : n + 2 ≤ sizeN n ∧ sizeN n ≤ 2048 := by
  unfold sizeN
  rw [if_neg (by omega)]
  split
  · omega
  · split
    · omega
    · split
      · omega
      · omega
theorem sizeN_no (n : Int) (h : ¬ (0 ≤ n ∧ n ≤ 2046)) : sizeN n = 0 := by
  unfold sizeN
  by_cases h0 : n < 0
  · rw [if_pos h0]
  · rw [if_neg h0, if_neg (by omega), if_neg (by omega), if_neg (by omega), if_neg (by omega)]
/-- A text filled up. -/
def pad8L (l : List UInt8) : List UInt8 := putBig (l.length : Int) 2 ++ l ++ List.replicate ((sizeN (l.length : Int)).toNat - 2 - l.length) 0
def padOk (b : ByteArray) : Bool := decide (b.size ≤ 2046)
def padS (b : ByteArray) : ByteArray := if padOk b then str (pad8L b.data.toList) else ⟨#[]⟩
theorem putBig2_len (v : Int) : (putBig v 2).length = 2 := by
  unfold putBig
  rw [if_pos (by decide), List.length_map, List.length_range]; rfl
theorem putBig2 (v : Int) : putBig v 2 = [byteOf v 1, byteOf v 0] := by
  unfold putBig
  rw [if_pos (by decide)]
  rfl
theorem pad8L_len (l : List UInt8) (h : l.length ≤ 2046) : (pad8L l).length = (sizeN (l.length : Int)).toNat := by
  have := sizeN_bd (l.length : Int) (by omega) (by omega)
  unfold pad8L
  rw [List.length_append, List.length_append, putBig2_len, List.length_replicate]
  omega
theorem padS_yes (b : ByteArray) (h : b.size ≤ 2046) : padOk b = true ∧ padS b = str (pad8L b.data.toList) := by
  have : padOk b = true := decide_eq_true h
  exact ⟨this, by unfold padS; rw [this, if_pos rfl]⟩
theorem padS_no (b : ByteArray) (h : ¬ b.size ≤ 2046) : padOk b = false ∧ padS b = ⟨#[]⟩ := by
  have : padOk b = false := decide_eq_false h
  exact ⟨this, by unfold padS; rw [this]; rfl⟩
theorem padS_size (b : ByteArray) (h : b.size ≤ 2046) : (padS b).size = (sizeN (b.size : Int)).toNat := by
  have e := pad8L_len b.data.toList (by simpa using h)
  rw [(padS_yes b h).2, str_size, e]
  simp
/-- The number that a text's first two bytes tell. -/
def headN (b : ByteArray) : Nat := (bigS (b.extract 0 2)).toNat
theorem headN_is (b : ByteArray) : ((headN b : Nat) : Int) = bigS (b.extract 0 2) := by
  have := (bigS_bd (b.extract 0 2)).1
  unfold headN
  omega
/-- Is it the padding of a text? -/
def unpadOk (b : ByteArray) : Bool := decide (2 ≤ b.size ∧ headN b + 2 ≤ b.size ∧ padOk (b.extract 2 (2 + headN b)) = true ∧ padS (b.extract 2 (2 + headN b)) = b)
def unpadS (b : ByteArray) : ByteArray := if unpadOk b then b.extract 2 (2 + headN b) else ⟨#[]⟩
theorem head_list (b : ByteArray) (x y : UInt8) (r : List UInt8) (h : b.data.toList = x :: y :: r) : headN b = x.toNat * 256 + y.toNat := by
  have e : (b.extract 0 2).data.toList = [x, y] := by
    rw [ByteArray.data_extract, Array.toList_extract, h]
    rfl
  have es : (b.extract 0 2).size = 2 := by
    have := congrArg List.length e
    simpa using this
  unfold headN bigS numOf
  rw [es, e]
  simp
  omega
theorem headN_lt (b : ByteArray) (h : 2 ≤ b.size) : headN b < 65536 := by
  have hl : b.data.toList.length = b.size := by simp
  match hb : b.data.toList with
  | [] => rw [hb] at hl; simp at hl; omega
  | [x] => rw [hb] at hl; simp at hl; omega
  | x :: y :: r =>
    rw [head_list b x y r hb]
    have := x.toNat_lt
    have := y.toNat_lt
    omega
theorem head_pad (l : List UInt8) (h : l.length ≤ 2046) : headN (str (pad8L l)) = l.length := by
  have hl : (str (pad8L l)).data.toList = byteOf (l.length : Int) 1 :: byteOf (l.length : Int) 0 :: (l ++ List.replicate ((sizeN (l.length : Int)).toNat - 2 - l.length) 0) := by
    show (pad8L l) = _
    unfold pad8L
    rw [putBig2]
    simp
  rw [head_list _ _ _ _ hl]
  have h1 := byteOf_val (l.length : Int) 1
  have h0 := byteOf_val (l.length : Int) 0
  simp at h1 h0
  omega
theorem body_pad (l : List UInt8) (h : l.length ≤ 2046) : (str (pad8L l)).extract 2 (2 + l.length) = str l := by
  apply ByteArray.ext
  apply Array.toList_inj.1
  rw [ByteArray.data_extract, Array.toList_extract]
  show (pad8L l).extract 2 (2 + l.length) = l
  unfold pad8L
  rw [putBig2]
  simp [List.extract]
/-- What was filled up comes back. -/
theorem unpad_pad (b : ByteArray) (h : b.size ≤ 2046) : unpadOk (padS b) = true ∧ unpadS (padS b) = b := by
  have hl : b.data.toList.length ≤ 2046 := by simpa using h
  have e1 := head_pad b.data.toList hl
  have e2 := body_pad b.data.toList hl
  have e3 := padS_yes b h
  have e4 := padS_size b h
  have e5 := sizeN_bd (b.size : Int) (by omega) (by omega)
  rw [e3.2] at e4
  have hbl : b.data.toList.length = b.size := by simp
  have ok : unpadOk (padS b) = true := by
    unfold unpadOk
    rw [e3.2, e1, e2, str_back]
    refine decide_eq_true ⟨by omega, by omega, e3.1, e3.2⟩
  refine ⟨ok, ?_⟩
  unfold unpadS
  rw [ok, if_pos rfl, e3.2, e1, e2, str_back]
/-- Only the padding of what comes back comes back. -/
theorem pad_unpad (b : ByteArray) (h : unpadOk b = true) : padOk (unpadS b) = true ∧ padS (unpadS b) = b := by
  have hh := of_decide_eq_true h
  unfold unpadS
  rw [h, if_pos rfl]
  exact ⟨hh.2.2.1, hh.2.2.2⟩

end Go.Proofs.Ytkjdklicgbjkpaa
