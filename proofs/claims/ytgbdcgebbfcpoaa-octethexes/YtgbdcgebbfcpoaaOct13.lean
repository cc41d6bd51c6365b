/-
  Plain facts on digits: they go back.
-/
import Derived.Test.YtgbdcgebbfcpoaaOct7
import Derived.Test.YtgbdcgebbfcpoaaOct9
import Derived.Test.YtgbdcgebbfcpoaaOct11
import Derived.Test.YtgbdcgebbfcpoaaOct12
namespace Go.Proofs.Ytgbdcgebbfcpoaa
open Go.RowKit
set_option linter.unusedVariables false

theorem hexL_at : ∀ (l : List UInt8) (i : Nat) (h : i < l.length), (hexL l)[2 * i]? = some (digB (l[i].toNat / 16)) ∧ (hexL l)[2 * i + 1]? = some (digB (l[i].toNat % 16))
  | [], i, h => by simp at h
  | b :: l, 0, h => by simp [hexL]
  | b :: l, i + 1, h => by
    have ih := hexL_at l i (by simpa using h)
    rw [show 2 * (i + 1) = 2 * i + 2 from by omega, show 2 * i + 2 + 1 = (2 * i + 1) + 2 from by omega]
    simpa [hexL] using ih

theorem unV_digV (v : Int) (h0 : 0 ≤ v) (h1 : v < 16) : unV (digV v) = v := by
  unfold digV unV
  split <;> split <;> try omega
theorem isDig_digV (v : Int) (h0 : 0 ≤ v) (h1 : v < 16) : isDig (digV v) = true := by
  unfold digV isDig
  rw [decide_eq_true_eq]
  split <;> omega

theorem hexS_size (a : ByteArray) : (hexS a).size = 2 * a.size := by
  unfold hexS; rw [str_size, hexL_len]; simp
theorem digAt_hex (a : ByteArray) (i : Nat) (h : i < a.size) : digAt (hexS a) (2 * i) = digV ((a[i].toNat : Int) / 16) ∧ digAt (hexS a) (2 * i + 1) = digV ((a[i].toNat : Int) % 16) := by
  have hi : i < a.data.toList.length := by simpa using h
  have e := hexL_at a.data.toList i hi
  have hb := a[i].toNat_lt
  have ea : a.data.toList[i] = a[i] := rfl
  rw [ea] at e
  unfold digAt hexS
  rw [str_data, List.getD_eq_getElem?_getD, List.getD_eq_getElem?_getD, e.1, e.2]
  simp only [Option.getD_some]
  rw [digB_val _ (by omega), digB_val _ (by omega)]
  exact ⟨rfl, rfl⟩

theorem unhexOk_hex (a : ByteArray) : unhexOk (hexS a) = true := by
  have hz := hexS_size a
  refine unhex_good _ (by omega) fun j hj => ?_
  have hi : j / 2 < a.size := by omega
  have e := digAt_hex a (j / 2) hi
  have hb := a[j / 2].toNat_lt
  rcases (show j = 2 * (j / 2) ∨ j = 2 * (j / 2) + 1 from by omega) with h | h
  · rw [h, e.1]; exact isDig_digV _ (by omega) (by omega)
  · rw [h, e.2]; exact isDig_digV _ (by omega) (by omega)

theorem unhexS_hex (a : ByteArray) : unhexS (hexS a) = a := by
  have hz := hexS_size a
  rw [unhexS_yes (hexS a) a.data.toList (unhexOk_hex a) (by simp; omega) ?_, str_back]
  intro j hj
  have hi : j < a.size := by omega
  rw [List.getElem?_eq_getElem (show j < a.data.toList.length from by simpa using hi)]
  have e := digAt_hex a j hi
  have hb := a[j].toNat_lt
  have ea : a.data.toList[j]'(by simpa using hi) = a[j] := rfl
  rw [ea]
  congr 1
  apply UInt8.toNat_inj.1
  have h := pairAt_val (hexS a) j
  rw [e.1, e.2, unV_digV _ (by omega) (by omega), unV_digV _ (by omega) (by omega)] at h
  omega

theorem xorS_cut (a b : ByteArray) (k : Nat) (h : k = min a.size b.size) : xorS (xorS a b) b = a.extract 0 k := by
  rw [xorS_twice, h]
  have e : (a.extract 0 (min a.size b.size)).data.toList = a.data.toList.take b.size := by
    rw [ByteArray.data_extract, Array.toList_extract]
    simp only [List.extract_eq_take_drop, List.drop_zero, Nat.sub_zero]
    rcases Nat.le_total a.size b.size with h | h
    · rw [Nat.min_eq_left h, List.take_of_length_le (by simp), List.take_of_length_le (by simpa using h)]
    · rw [Nat.min_eq_right h]
  rw [← e, str_back]

end Go.Proofs.Ytgbdcgebbfcpoaa
