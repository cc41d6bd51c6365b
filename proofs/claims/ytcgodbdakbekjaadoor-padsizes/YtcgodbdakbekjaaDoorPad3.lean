/-
  Plain: what begins as a padding does and is another is none.
-/
import Derived.Test.YtcgodbdakbekjaaDoorPad0
namespace Go.Proofs.YtcgodbdakbekjaaDoor
open Go.RowKit
set_option linter.unusedVariables false
set_option maxRecDepth 100000
set_option linter.unusedSimpArgs false

theorem extract_take8 (b : ByteArray) (n : Nat) : b.extract 2 (2 + n) = str ((b.data.toList.take (2 + n)).drop 2) := by
  apply ByteArray.ext
  apply Array.toList_inj.1
  rw [ByteArray.data_extract, Array.toList_extract]
  show b.data.toList.extract 2 (2 + n) = _
  simp [List.extract, str, List.drop_take]
theorem unpad_other (b x : ByteArray) (h : b.size ≤ 2046) (ht : x.data.toList.take (2 + b.size) = (padS b).data.toList.take (2 + b.size)) (hne : x ≠ padS b) : unpadOk x = false := by
  have hl : b.data.toList.length = b.size := by simp
  have e3 := padS_yes b h
  have hpl : (padS b).data.toList = byteOf (b.size : Int) 1 :: byteOf (b.size : Int) 0 :: (b.data.toList ++ List.replicate ((sizeN (b.size : Int)).toNat - 2 - b.size) 0) := by
    rw [e3.2]
    show pad8L b.data.toList = _
    unfold pad8L
    rw [putBig2, hl]
    simp
  have hx : ∃ r, x.data.toList = byteOf (b.size : Int) 1 :: byteOf (b.size : Int) 0 :: r := by
    rw [hpl, show 2 + b.size = (b.size + 1) + 1 from by omega] at ht
    match hxx : x.data.toList with
    | [] => rw [hxx] at ht; simp at ht
    | [u] => rw [hxx] at ht; simp at ht
    | u :: v :: r =>
      rw [hxx] at ht
      simp at ht
      exact ⟨r, by rw [ht.1, ht.2.1]⟩
  obtain ⟨r, hr⟩ := hx
  have hhead : headN x = b.size := by
    have h1 := head_list x _ _ _ hr
    have h2 := head_list (padS b) _ _ _ hpl
    have h3 := head_pad b.data.toList (by omega)
    rw [← e3.2, h2] at h3
    omega
  cases hu : unpadOk x with
  | false => rfl
  | true =>
    have hh := of_decide_eq_true hu
    have hb : x.extract 2 (2 + headN x) = b := by
      rw [hhead, extract_take8, ht, ← extract_take8]
      have := body_pad b.data.toList (by omega)
      rw [hl, str_back, ← e3.2] at this
      exact this
    rw [hb] at hh
    exact absurd hh.2.2.2.symm hne

end Go.Proofs.YtcgodbdakbekjaaDoor
