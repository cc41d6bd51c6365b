/-
  Plain facts for the law on digits of which one is replaced.
-/
import Derived.Test.YtgbdcgebbfcpoaaOct13
namespace Go.Proofs.Ytgbdcgebbfcpoaa
open Go.RowKit
set_option linter.unusedVariables false

theorem mod_back (a M : Int) (h0 : 0 < M) (h1 : M ≤ 400) : (wrap64 (a.tmod M + M)).tmod M = a % M := by
  have h2 : -M < a.tmod M ∧ a.tmod M < M := ⟨Int.lt_tmod_of_pos a h0, Int.tmod_lt_of_pos a h0⟩
  have h3 : wrap64 (a.tmod M + M) = a.tmod M + M := IntWalk.wrap64_in _ ⟨by omega, by omega⟩
  have h4 := Int.tmod_eq_emod (a := a) (b := M)
  rw [h3, Int.tmod_eq_emod_of_nonneg (by omega), h4]
  split
  · rw [show a % M - ((0 : Nat) : Int) = a % M from by omega, Int.add_emod_right, Int.emod_emod_of_dvd a (Int.dvd_refl M)]
  · rw [show a % M - (M.natAbs : Int) + M = a % M from by omega, Int.emod_emod_of_dvd a (Int.dvd_refl M)]

/-- One byte as a row of its own, read as a string. -/
theorem conv_one (c : UInt8) (W : World) :
    (convert 33 9 (.slice (some ⟨W.heap.size, 0, none⟩) 1 1)).run Try.prog (W.alloc (.cells #[.int .u8 (c.toNat : Int)] 5)) = .ok (.string (str [c])) (W.alloc (.cells #[.int .u8 (c.toNat : Int)] 5)) := by
  have hown : (W.alloc (.cells #[.int .u8 (c.toNat : Int)] 5)).ownsRow 0 5 1 (.slice (some ⟨W.heap.size, 0, none⟩) 1 1) 1 (cells8 [c]) :=
    World.ownsRow_lit W #[.int .u8 (c.toNat : Int)] 1 (Nat.zero_le _) (by decide) rfl
  exact own_string hown

theorem conv_one_drew (c : UInt8) (W : World) :
    (convert 33 9 (.slice (some ⟨W.heap.size, 0, none⟩) 1 1)).run Try.prog (W.alloc (.cells #[.int .u8 (c.toNat : Int)] 5)).drew = .ok (.string (str [c])) (W.alloc (.cells #[.int .u8 (c.toNat : Int)] 5)).drew := by
  have hown : (W.alloc (.cells #[.int .u8 (c.toNat : Int)] 5)).drew.ownsRow 0 5 1 (.slice (some ⟨W.heap.size, 0, none⟩) 1 1) 1 (cells8 [c]) :=
    (World.ownsRow_lit W #[.int .u8 (c.toNat : Int)] 1 (Nat.zero_le _) (by decide) rfl).drew
  exact own_string hown

theorem all_dig (H : ByteArray) (hd : ∀ j (hj : j < H.size), isDig (H[j].toNat : Int) = true) : ∀ x ∈ H.data.toList, isDig (x.toNat : Int) = true := by
  intro x hx
  obtain ⟨j, hj, rfl⟩ := List.mem_iff_getElem.1 hx
  exact hd j (by simpa using hj)

theorem splice_list (H : ByteArray) (K : Nat) (c : UInt8) : (H.extract 0 K ++ str [c] ++ H.extract (K + 1) H.size).data.toList = H.data.toList.take K ++ [c] ++ H.data.toList.drop (K + 1) := by
  rw [ByteArray.data_append, ByteArray.data_append, Array.toList_append, Array.toList_append, ByteArray.data_extract, ByteArray.data_extract, Array.toList_extract, Array.toList_extract, str_data]
  simp only [List.extract_eq_take_drop, List.drop_zero, Nat.sub_zero]
  congr 1
  rw [List.take_of_length_le (by simp)]

theorem splice_ok (H : ByteArray) (K : Nat) (c : UInt8) (hK : K < H.size) (he : H.size % 2 = 0) (hd : ∀ j (hj : j < H.size), isDig (H[j].toNat : Int) = true) :
    unhexOk (H.extract 0 K ++ str [c] ++ H.extract (K + 1) H.size) = isDig (c.toNat : Int) := by
  have hl := splice_list H K c
  have ha := all_dig H hd
  have hz : (H.extract 0 K ++ str [c] ++ H.extract (K + 1) H.size).size = H.size := by
    have e := congrArg List.length hl
    simp only [List.length_append, List.length_take, List.length_drop, List.length_singleton] at e
    have e1 : ∀ A : ByteArray, A.data.toList.length = A.size := fun A => by simp
    rw [e1, e1] at e
    omega
  unfold unhexOk
  rw [hz, hl, List.all_append, List.all_append]
  have h1 : (H.data.toList.take K).all (fun c => isDig (c.toNat : Int)) = true := List.all_eq_true.2 fun x hx => ha x (List.mem_of_mem_take hx)
  have h2 : (H.data.toList.drop (K + 1)).all (fun c => isDig (c.toNat : Int)) = true := List.all_eq_true.2 fun x hx => ha x (List.mem_of_mem_drop hx)
  rw [h1, h2, show decide (H.size % 2 = 0) = true from decide_eq_true he]
  simp

end Go.Proofs.Ytgbdcgebbfcpoaa
