/-
  Parts of this proof, one behind the other: Oct7, StrEq.
-/
import Derived.Test.YtjemklgfenciaaaGreatBun11
import Derived.Test.YtjemklgfenciaaaGreatBun8
import Derived.Deep.RegionHeld3
import Derived.Deep.AppendLies

/-
  The contracts of Hex, package octet's and the reference's.
-/
namespace Go.Proofs.YtjemklgfenciaaaGreat
open Go.RowKit
set_option linter.unusedVariables false
set_option maxRecDepth 100000

theorem and15 (b : UInt8) : bits BinOp.and IntKind.u8 (b.toNat : Int) 15 = (b.toNat : Int) % 16 := by
  have := b.toNat_lt
  rw [u8_and _ _ (by omega) (by omega) (by omega) (by omega), show (15 : Int).toNat = 15 from rfl, nat_mask4]
  omega
def digB (v : Nat) : UInt8 := UInt8.ofNat (digV v).toNat
def hexL : List UInt8 → List UInt8
  | [] => []
  | b :: l => digB (b.toNat / 16) :: digB (b.toNat % 16) :: hexL l
def hexS (s : ByteArray) : ByteArray := str (hexL s.data.toList)

theorem digV_bd (v : Int) (h0 : 0 ≤ v) (h1 : v < 16) : 48 ≤ digV v ∧ digV v ≤ 102 := by unfold digV; split <;> omega
theorem digB_val (v : Nat) (h : v < 16) : ((digB v).toNat : Int) = digV v := by
  unfold digB
  have := digV_bd v (by omega) (by omega)
  rw [UInt8.toNat_ofNat']
  omega
theorem hexL_append (a b : List UInt8) : hexL (a ++ b) = hexL a ++ hexL b := by
  induction a with
  | nil => rfl
  | cons x a ih => simp [hexL, ih]
theorem hexL_len (l : List UInt8) : (hexL l).length = 2 * l.length := by
  induction l with
  | nil => rfl
  | cons x l ih => simp [hexL, ih]; omega

theorem cells8_one (l : List UInt8) : ∀ u ∈ cells8 l, u.oneCell' = true := by
  intro u hu
  simp only [cells8, List.mem_map] at hu
  obtain ⟨b, _, rfl⟩ := hu
  rfl
theorem cells8_append (a b : List UInt8) : cells8 (a ++ b) = cells8 a ++ cells8 b := by simp [cells8]

/-- A row of bytes that the call owns, nil or not, as a string. -/
theorem own_string_any {wr : World} {base n : Nat} {v : Value} {l : List UInt8} (h : wr.ownsRow base 5 1 v n (cells8 l)) :
    (convert 141 9 v).run Tryz.prog wr = .ok (.string (str l)) wr := by
  rcases h.2 with ⟨rfl, rfl⟩ | ⟨g, cap, cur, rfl, _⟩
  · have hl : l = [] := by
      have := h.1
      rw [cells8_len] at this
      exact List.eq_nil_of_length_eq_zero (by omega)
    subst hl
    rw [run_convert_bytes_string wr _ _ 5 none 0 0 Tryz.underlying141 Tryz.underlying5 Tryz.underlying9]
    rfl
  · exact own_string h

end Go.Proofs.YtjemklgfenciaaaGreat

/-
  How two strings are compared.
-/
namespace Go.Proofs.YtjemklgfenciaaaGreat
open Go.RowKit
set_option linter.unusedVariables false
set_option maxRecDepth 100000

theorem str_beq (a b : ByteArray) : (a.toList == b.toList) = decide (a = b) := by
  rw [ByteArray.toList_eq, ByteArray.toList_eq]
  by_cases h : a = b
  · subst h; simp
  · rw [decide_eq_false h, beq_eq_false_iff_ne]
    intro e
    apply h
    rw [← str_back a, ← str_back b, e]
theorem str_beq_self (a : ByteArray) : (a.toList == a.toList) = true := by rw [str_beq]; exact decide_eq_true rfl
/-- A string compared with no string at all. -/
theorem str_full (a : ByteArray) (h : a ≠ ⟨#[]⟩) : a.toList.isEmpty = false := by
  rw [ByteArray.toList_eq, List.isEmpty_eq_false_iff]
  intro e
  apply h
  rw [← str_back a, e]
  rfl
theorem str_none (a : ByteArray) (h : a.size = 0) : a = ⟨#[]⟩ := by
  rw [← str_back a, show a.data.toList = [] from List.eq_nil_of_length_eq_zero (by simpa using h)]
  rfl

end Go.Proofs.YtjemklgfenciaaaGreat
