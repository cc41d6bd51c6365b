/-
  The contract of package octet's Unhex.
-/
import Derived.Test.YtlhlpcfjoccgcaaOct6
import Derived.Test.YtlhlpcfjoccgcaaOct4
namespace Go.Proofs.Ytlhlpcfjoccgcaa
open Go.RowKit
set_option linter.unusedVariables false
set_option maxRecDepth 100000

def digAt (s : ByteArray) (j : Nat) : Int := ((s.data.toList.getD j 0).toNat : Int)
def pairAt (s : ByteArray) (i : Nat) : UInt8 := UInt8.ofNat (unV (digAt s (2 * i)) * 16 + unV (digAt s (2 * i + 1))).toNat
def unhexOk (s : ByteArray) : Bool := decide (s.size % 2 = 0) && s.data.toList.all (fun c => isDig (c.toNat : Int))
def unhexL (s : ByteArray) : List UInt8 := if unhexOk s then (List.range (s.size / 2)).map (pairAt s) else []
def unhexS (s : ByteArray) : ByteArray := str (unhexL s)

theorem unV_bd (c : Int) : 0 ≤ unV c ∧ unV c ≤ 15 := by unfold unV; split; omega; split <;> omega
theorem digAt_eq (s : ByteArray) (j : Nat) (h : j < s.size) : digAt s j = (s[j].toNat : Int) := by unfold digAt; rw [getD_at s j h]
theorem pairAt_val (s : ByteArray) (i : Nat) : ((pairAt s i).toNat : Int) = unV (digAt s (2 * i)) * 16 + unV (digAt s (2 * i + 1)) := by
  have h1 := unV_bd (digAt s (2 * i))
  have h2 := unV_bd (digAt s (2 * i + 1))
  unfold pairAt
  rw [UInt8.toNat_ofNat']
  omega
theorem or16 (H L : Int) (h0 : 0 ≤ H) (h1 : H ≤ 15) (l0 : 0 ≤ L) (l1 : L ≤ 15) : bits BinOp.or IntKind.u8 (H * 16) L = H * 16 + L := by
  rw [u8_or _ _ (by omega) (by omega) (by omega) (by omega), nat_join 4 _ _ (by omega) (by omega)]
  omega
theorem unhex_odd (s : ByteArray) (h : s.size % 2 = 1) : unhexOk s = false := by
  unfold unhexOk; rw [show decide (s.size % 2 = 0) = false from by simp; omega]; rfl
theorem unhex_bad (s : ByteArray) (j : Nat) (h : j < s.size) (hd : isDig (s[j].toNat : Int) = false) : unhexOk s = false := by
  unfold unhexOk
  rw [Bool.and_eq_false_iff]
  right
  rw [List.all_eq_false]
  exact ⟨s[j], List.mem_of_getElem? (i := j) (by rw [List.getElem?_eq_getElem (by simpa using h)]; rfl), by simp [hd]⟩
theorem unhex_good (s : ByteArray) (h0 : s.size % 2 = 0) (h : ∀ j, j < s.size → isDig (digAt s j) = true) : unhexOk s = true := by
  unfold unhexOk
  rw [Bool.and_eq_true]
  refine ⟨by simpa using h0, ?_⟩
  rw [List.all_eq_true]
  intro c hc
  obtain ⟨j, hj, rfl⟩ := List.mem_iff_getElem.1 hc
  have hj' : j < s.size := by simpa using hj
  have := h j hj'
  rw [digAt_eq s j hj'] at this
  exact this
theorem unhexS_no (s : ByteArray) (h : unhexOk s = false) : unhexS s = ⟨#[]⟩ := by
  unfold unhexS unhexL; rw [h]; rfl
theorem unhexS_yes (s : ByteArray) (l : List UInt8) (h : unhexOk s = true) (hl : l.length = s.size / 2) (hp : ∀ j, j < s.size / 2 → l[j]? = some (pairAt s j)) : unhexS s = str l := by
  unfold unhexS unhexL; rw [h, if_pos rfl, ← list_eq_map hl hp]
theorem ret_sb {a b : ByteArray} {c d : Bool} (h : a = b) (h' : c = d) : Ending.returned (.tuple #[.string a, .bool c]) = .returned (.tuple #[.string b, .bool d]) := by rw [h, h']

end Go.Proofs.Ytlhlpcfjoccgcaa
